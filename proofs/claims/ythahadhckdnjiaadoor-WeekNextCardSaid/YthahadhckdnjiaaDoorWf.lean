/- The law WeekNext answers true. -/
import Derived.Test.YthahadhckdnjiaaDoorWb
namespace Go.Proofs.YthahadhckdnjiaaDoor
open Go.RowKit Go.Shelf
set_option maxRecDepth 100000 in
set_option maxHeartbeats 8000000 in
theorem next_walk (x0 x1 x2 x3 x4 x5 x6 t : Int) (hx : ∀ x ∈ [x0, x1, x2, x3, x4, x5, x6], -9223372036854775808 ≤ x ∧ x ≤ 9223372036854775807) (ht : I64 t) (w : World) (hT : Tabs w) : Calls Tryd.prog 8 #[.agg #[.int .i64 x0, .int .i64 x1, .int .i64 x2, .int .i64 x3, .int .i64 x4, .int .i64 x5, .int .i64 x6], .int .i64 t] w fun e w' => e = .returned (.bool true) ∧ Below w.heap.size w w' := by
  have MD := Lib.hid (fun u => made_k x0 x1 x2 x3 x4 x5 x6 hx u)
  have HT := Lib.hid hT
  have SA := Lib.hid (fun u hu => sane_any u hu)
  obtain ⟨T, hk, hk2⟩ := pick_nat t 10000000 (by omega)
  have PK := Lib.hid (fun u => pick_any t 10000000 (by omega) (by omega) ht.1 ht.2 u)
  rw [hk] at PK
  have hk3 := Lib.hid (show T < 10000000 by omega)
  clear hx hT ht hk hk2
  go_enter Tryd.func8, Tryd.ntmps8
  go_upto_if 28 with (first | (go_at_call 10; (with_reducible refine Calls.mono (SA.out _ (HT.out.next ((Below.refl _ w).alloc (Nat.le_refl _) _))) ?_); rintro r u1 ⟨rfl, hb⟩; have Bc := Lib.hid (below_to ((Below.refl _ w).alloc (Nat.le_refl _) _) hb); have sz := Bc.out.size; have RX := Lib.hid ((Row.new w 22 #[.int .i64 x0, .int .i64 x1, .int .i64 x2, .int .i64 x3, .int .i64 x4, .int .i64 x5, .int .i64 x6]).below hb (Row.new w 22 #[.int .i64 x0, .int .i64 x1, .int .i64 x2, .int .i64 x3, .int .i64 x4, .int .i64 x5, .int .i64 x6]).lt); have X_0 := RX.out.cell 0; have X_1 := RX.out.cell 1; have X_2 := RX.out.cell 2; have X_3 := RX.out.cell 3; have X_4 := RX.out.cell 4; have X_5 := RX.out.cell 5; have X_6 := RX.out.cell 6; have lX := RX.out.lt; clear hb) | (go_at_call 11; (with_reducible refine Calls.mono (MD.out _) ?_); rintro r u2 ⟨l, y0, y1, y2, y3, y4, y5, y6, K, rfl, hb⟩; have Bc := Lib.hid (below_to Bc.out hb); have sz := Bc.out.size; have NX := Lib.hid (fun u hu => next_k K T u hu); have NN := Lib.hid (next_none K.len K.v (u := T) hk3.out); have NS := Lib.hid (next_some K.len K.v (u := T) hk3.out); obtain ⟨nn, hnn⟩ : ∃ nn, (nextV l (T : Int)).1 = nn := ⟨_, rfl⟩; obtain ⟨bb, hbb⟩ : ∃ bb, (nextV l (T : Int)).2 = bb := ⟨_, rfl⟩; rw [hnn] at NX NN NS; rw [hbb] at NX NN NS; have K := Lib.hid K; clear hbb hnn; clear hb) | (go_at_call 14; (with_reducible refine Calls.mono (PK.out _) ?_); rintro r u' ⟨rfl, rfl⟩) | (go_at_call 15; (with_reducible refine Calls.mono (NX.out _ (HT.out.next (Bc.out.alloc Bc.out.size _))) ?_); rintro r u3 ⟨rfl, hb⟩; have Bc := Lib.hid (below_to (Bc.out.alloc Bc.out.size _) hb); have sz := Bc.out.size; have RW := Lib.hid ((Row.new u2 23 #[.int .i64 y0, .int .i64 y1, .int .i64 y2, .int .i64 y3, .int .i64 y4, .int .i64 y5, .int .i64 y6]).below hb (Row.new u2 23 #[.int .i64 y0, .int .i64 y1, .int .i64 y2, .int .i64 y3, .int .i64 y4, .int .i64 y5, .int .i64 y6]).lt); have W_0 := RW.out.cell 0; have W_1 := RW.out.cell 1; have W_2 := RW.out.cell 2; have W_3 := RW.out.cell 3; have W_4 := RW.out.cell 4; have W_5 := RW.out.cell 5; have W_6 := RW.out.cell 6; have lW := RW.out.lt; clear hb))
  cases bb with
  | false =>
    obtain ⟨hz, h0⟩ := NN.out rfl
    subst hz
    have S1 := Lib.hid (fun u hu => secs_k K.out T 10000000 hk3.out (Nat.le_refl _) u hu)
    rw [h0] at S1
    clear h0
    go_wp2_with (first | (go_at_call 22; (with_reducible refine Calls.mono (S1.out _ (HT.out.next Bc.out)) ?_); rintro r u4 ⟨rfl, hb⟩; have Bc := Lib.hid (below_to Bc.out hb); have sz := Bc.out.size; have RW := Lib.hid (RW.out.below hb RW.out.lt); clear W_0 W_1 W_2 W_3 W_4 W_5 W_6 lW; have W_0 := RW.out.cell 0; have W_1 := RW.out.cell 1; have W_2 := RW.out.cell 2; have W_3 := RW.out.cell 3; have W_4 := RW.out.cell 4; have W_5 := RW.out.cell 5; have W_6 := RW.out.cell 6; have lW := RW.out.lt; clear hb))
    go_ret
    exact ⟨rfl, Bc.out⟩
  | true =>
    obtain ⟨n, hz, h1, h2, h3, h4⟩ := NS.out rfl
    subst hz
    have hk4 := hk3.out
    have I1 := Lib.hid (fun u => in_k K.out n h2 u)
    rw [h3] at I1
    have g1 : ¬ (n : Int) < (T : Int) := by omega
    by_cases he : n = T
    · subst he
      clear h3 h4 h2 hk4
      go_wp2_with (first | (go_at_call 17; (with_reducible refine Calls.mono (I1.out _) ?_); rintro r u4 ⟨rfl, hb⟩; have Bc := Lib.hid (below_to Bc.out hb); have sz := Bc.out.size; have RW := Lib.hid (RW.out.below hb RW.out.lt); clear W_0 W_1 W_2 W_3 W_4 W_5 W_6 lW; have W_0 := RW.out.cell 0; have W_1 := RW.out.cell 1; have W_2 := RW.out.cell 2; have W_3 := RW.out.cell 3; have W_4 := RW.out.cell 4; have W_5 := RW.out.cell 5; have W_6 := RW.out.cell 6; have lW := RW.out.lt; clear hb))
      go_ret
      exact ⟨rfl, Bc.out⟩
    · have g2 : ¬ (n : Int) = (T : Int) := by omega
      have S1 := Lib.hid (fun u hu => secs_k K.out T n (by omega) (by omega) u hu)
      rw [h4] at S1
      clear h3 h4 h2 hk4
      go_wp2_with (first | (go_at_call 17; (with_reducible refine Calls.mono (I1.out _) ?_); rintro r u4 ⟨rfl, hb⟩; have Bc := Lib.hid (below_to Bc.out hb); have sz := Bc.out.size; have RW := Lib.hid (RW.out.below hb RW.out.lt); clear W_0 W_1 W_2 W_3 W_4 W_5 W_6 lW; have W_0 := RW.out.cell 0; have W_1 := RW.out.cell 1; have W_2 := RW.out.cell 2; have W_3 := RW.out.cell 3; have W_4 := RW.out.cell 4; have W_5 := RW.out.cell 5; have W_6 := RW.out.cell 6; have lW := RW.out.lt; clear hb) | (go_at_call 22; (with_reducible refine Calls.mono (S1.out _ (HT.out.next (Bc.out))) ?_); rintro r u5 ⟨rfl, hb⟩; have Bc := Lib.hid (below_to Bc.out hb); have sz := Bc.out.size; have RW := Lib.hid (RW.out.below hb RW.out.lt); clear W_0 W_1 W_2 W_3 W_4 W_5 W_6 lW; have W_0 := RW.out.cell 0; have W_1 := RW.out.cell 1; have W_2 := RW.out.cell 2; have W_3 := RW.out.cell 3; have W_4 := RW.out.cell 4; have W_5 := RW.out.cell 5; have W_6 := RW.out.cell 6; have lW := RW.out.lt; clear hb))
      go_ret
      exact ⟨rfl, Bc.out⟩
end Go.Proofs.YthahadhckdnjiaaDoor
