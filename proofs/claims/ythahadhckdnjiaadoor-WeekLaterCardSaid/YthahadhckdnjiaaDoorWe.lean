/- The law WeekLater answers true. -/
import Derived.Test.YthahadhckdnjiaaDoorWb
namespace Go.Proofs.YthahadhckdnjiaaDoor
open Go.RowKit Go.Shelf
theorem hour_step (l : List Int) (k j : Nat) (hj : j < 24) : cnt (hourQ l) 0 (24 * k + (j + 1)) = cnt (hourQ l) 0 (24 * k + j) + (if (hrs l k).testBit j then 1 else 0) := by
  rw [show 24 * k + (j + 1) = 24 * k + j + 1 by omega]
  show cnt (hourQ l) 0 (24 * k + j) + (if hourQ l (0 + (24 * k + j)) then 1 else 0) = _
  unfold hourQ
  rw [show (0 + (24 * k + j)) / 24 = k by omega, show (0 + (24 * k + j)) % 24 = j by omega]
set_option maxRecDepth 100000 in
set_option maxHeartbeats 8000000 in
theorem later_walk (x0 x1 x2 x3 x4 x5 x6 t : Int) (hx : ∀ x ∈ [x0, x1, x2, x3, x4, x5, x6], -9223372036854775808 ≤ x ∧ x ≤ 9223372036854775807) (ht : I64 t) (w : World) (hT : Tabs w) : Calls Tryd.prog 9 #[.agg #[.int .i64 x0, .int .i64 x1, .int .i64 x2, .int .i64 x3, .int .i64 x4, .int .i64 x5, .int .i64 x6], .int .i64 t] w fun e w' => e = .returned (.bool true) ∧ Below w.heap.size w w' := by
  have MD := Lib.hid (fun u => made_k x0 x1 x2 x3 x4 x5 x6 hx u)
  have HT := Lib.hid hT
  have SA := Lib.hid (fun u hu => sane_any u hu)
  obtain ⟨T, hk, hk2⟩ := pick_nat t 9395200 (by omega)
  have PK := Lib.hid (fun u => pick_any t 9395200 (by omega) (by omega) ht.1 ht.2 u)
  rw [hk] at PK
  clear hx hT ht hk
  go_enter Tryd.func9, Tryd.ntmps9
  go_wp2_with (first | (go_at_call 10; (with_reducible refine Calls.mono (SA.out _ (HT.out.next ((Below.refl _ w).alloc (Nat.le_refl _) _))) ?_); rintro r u1 ⟨rfl, hb⟩; have Bc := Lib.hid (below_to ((Below.refl _ w).alloc (Nat.le_refl _) _) hb); have sz := Bc.out.size; have RX := Lib.hid ((Row.new w 22 #[.int .i64 x0, .int .i64 x1, .int .i64 x2, .int .i64 x3, .int .i64 x4, .int .i64 x5, .int .i64 x6]).below hb (Row.new w 22 #[.int .i64 x0, .int .i64 x1, .int .i64 x2, .int .i64 x3, .int .i64 x4, .int .i64 x5, .int .i64 x6]).lt); have X_0 := RX.out.cell 0; have X_1 := RX.out.cell 1; have X_2 := RX.out.cell 2; have X_3 := RX.out.cell 3; have X_4 := RX.out.cell 4; have X_5 := RX.out.cell 5; have X_6 := RX.out.cell 6; have lX := RX.out.lt; clear hb) | (go_at_call 11; (with_reducible refine Calls.mono (MD.out _) ?_); rintro r u2 ⟨l, y0, y1, y2, y3, y4, y5, y6, K, rfl, hb⟩; have Bc := Lib.hid (below_to Bc.out hb); have sz := Bc.out.size; have S1 := Lib.hid (fun u hu => secs_k K T (T + 604800) (by omega) (by omega) u hu); rw [show T + 604800 - T = 604800 from by omega, week_cnt, show ((T + 604800 : Nat) : Int) = (T : Int) + 604800 from by omega] at S1; have I1 := Lib.hid (fun u => in_k K T (by omega) u); have I2 := Lib.hid (fun u => in_k K (T + 604800) (by omega) u); rw [hasS_period, show ((T + 604800 : Nat) : Int) = (T : Int) + 604800 from by omega] at I2; obtain ⟨bb, hbb⟩ : ∃ bb, hasS l T = bb := ⟨_, rfl⟩; rw [hbb] at I1 I2; have K := Lib.hid K; clear hbb; clear hb) | (go_at_call 14; (with_reducible refine Calls.mono (PK.out _) ?_); rintro r u' ⟨rfl, rfl⟩))
  obtain ⟨W0, hW0⟩ : ∃ W0, u2.alloc (.cells #[.int .i64 y0, .int .i64 y1, .int .i64 y2, .int .i64 y3, .int .i64 y4, .int .i64 y5, .int .i64 y6] 23) = W0 := ⟨_, rfl⟩
  have RW := Lib.hid (show Row W0 u2.heap.size 23 #[.int .i64 y0, .int .i64 y1, .int .i64 y2, .int .i64 y3, .int .i64 y4, .int .i64 y5, .int .i64 y6] by rw [← hW0]; exact Row.new _ _ _)
  have BW := Lib.hid (show Below w.heap.size w W0 by rw [← hW0]; exact Bc.out.alloc Bc.out.size _)
  have lW := RW.out.lt
  rw [hW0]
  clear hW0
  go_loop [8, 9] (fun m i => ∃ k : Nat, k ≤ 7 ∧ i = .int .i64 (k : Int) ∧ m = .int .i64 ((cnt (hourQ l) 0 (24 * k) : Nat) : Int)) (fun _ i => 7 - (intOf i).toNat)
  case atStart => exact ⟨0, by omega, rfl, rfl⟩
  case round =>
    obtain ⟨k, hk, rfl, rfl⟩ := hrel
    by_cases hlt : k < 7
    · have i1 : (0 : Int) ≤ (k : Int) := by omega
      have i2 : (k : Int) < 7 := by omega
      have cx := (RW.out.cell k).trans (K.out.at k hlt)
      have hb0 := cnt_le (hourQ l) 0 (24 * k)
      go_wp2
      go_loop [8, 10] (fun m i => ∃ j : Nat, j ≤ 24 ∧ i = .int .i64 (j : Int) ∧ m = .int .i64 ((cnt (hourQ l) 0 (24 * k + j) : Nat) : Int)) (fun _ i => 24 - (intOf i).toNat)
      case atStart => exact ⟨0, by omega, rfl, rfl⟩
      case round =>
        obtain ⟨j, hj, rfl, rfl⟩ := hrel
        by_cases hjl : j < 24
        · have hs := Lib.hid (hour_step l k j hjl)
          have hb1 := cnt_le (hourQ l) 0 (24 * k + j)
          have hbit := hour_bit (hrs l k) j
          have j1 : (0 : Int) ≤ (j : Int) := by omega
          have j2 : (j : Int) < 24 := by omega
          obtain ⟨c, hc⟩ : ∃ c, (if (hrs l k).testBit j then 1 else 0 : Nat) = c := ⟨_, rfl⟩
          have hc1 : c ≤ 1 := by rw [← hc]; split <;> omega
          rw [hc] at hbit hs
          obtain ⟨M, hM⟩ : ∃ M, cnt (hourQ l) 0 (24 * k + j) = M := ⟨_, rfl⟩
          rw [hM] at hb1 hs ⊢
          obtain ⟨q, hq⟩ : ∃ q, hrs l k = q := ⟨_, rfl⟩
          rw [hq] at cx hbit
          clear hc hM hq hb0
          go_wp2
          go_round
          case rel => exact ⟨j + 1, by omega, by go_num, by rw [hs.out]; go_num⟩
          case measure => simp [intOf]; omega
        · have hj24 : j = 24 := by omega
          subst hj24
          go_wp2
          go_round
          case rel => exact ⟨k + 1, by omega, by go_num, rfl⟩
          case measure => simp [intOf]; omega
    · have hk7 : k = 7 := by omega
      subst hk7
      have hb0 := cnt_le (hourQ l) 0 168
      rw [show 24 * 7 = 168 from rfl]
      obtain ⟨M, hM⟩ : ∃ M, cnt (hourQ l) 0 168 = M := ⟨_, rfl⟩
      rw [hM] at hb0 S1 ⊢
      rw [show ((3600 * M : Nat) : Int) = (M : Int) * 3600 by omega] at S1
      have hwm : (M : Int) * 3600 = IntKind.i64.wrap ((M : Int) * 3600) := (IntWalk.i64_in _ (by omega)).symm
      obtain ⟨Z, hZ⟩ : ∃ Z, (M : Int) * 3600 = Z := ⟨_, rfl⟩
      have hw2 : IntKind.i64.wrap ((M : Int) * 3600) = Z := hwm.symm.trans hZ
      rw [hZ] at S1
      have HW2 := Lib.hid hw2
      clear hM hwm hZ hw2
      have W_0 := RW.out.cell 0
      have W_1 := RW.out.cell 1
      have W_2 := RW.out.cell 2
      have W_3 := RW.out.cell 3
      have W_4 := RW.out.cell 4
      have W_5 := RW.out.cell 5
      have W_6 := RW.out.cell 6
      go_wp2_with (first | (go_at_call 22; (with_reducible refine Calls.mono (S1.out _ (HT.out.next BW.out)) ?_); rintro r u1 ⟨rfl, hb⟩; have Bc := Lib.hid (below_to BW.out hb); have sz := Bc.out.size; have RW := Lib.hid (RW.out.below hb RW.out.lt); clear W_0 W_1 W_2 W_3 W_4 W_5 W_6 lW; have W_0 := RW.out.cell 0; have W_1 := RW.out.cell 1; have W_2 := RW.out.cell 2; have W_3 := RW.out.cell 3; have W_4 := RW.out.cell 4; have W_5 := RW.out.cell 5; have W_6 := RW.out.cell 6; have lW := RW.out.lt; clear hb))
      have hb0 : Below u1.heap.size u1 u1 := Below.refl _ _
      rw [show (T : Int) + 604800 = IntKind.i64.wrap ((T : Int) + 604800) from (IntWalk.i64_in _ (by omega)).symm] at I2
      simp only [List.getElem?_toArray, List.getElem?_cons_zero, List.getElem?_cons_succ] at W_0 W_1 W_2 W_3 W_4 W_5 W_6
      have lW := RW.out.lt
      have hw2 := HW2.out
      have HK2 := Lib.hid hk2
      clear hk2
      all_goals go_region_held3 (fun u => Below u1.heap.size u1 u ∧ u.cell? ⟨u2.heap.size, 0, none⟩ = some (.int .i64 y0) ∧ u.cell? ⟨u2.heap.size, 1, none⟩ = some (.int .i64 y1) ∧ u.cell? ⟨u2.heap.size, 2, none⟩ = some (.int .i64 y2) ∧ u.cell? ⟨u2.heap.size, 3, none⟩ = some (.int .i64 y3) ∧ u.cell? ⟨u2.heap.size, 4, none⟩ = some (.int .i64 y4) ∧ u.cell? ⟨u2.heap.size, 5, none⟩ = some (.int .i64 y5) ∧ u.cell? ⟨u2.heap.size, 6, none⟩ = some (.int .i64 y6)) (first | assumption | (exact ⟨Below.drew (by assumption), by assumption, by assumption, by assumption, by assumption, by assumption, by assumption, by assumption⟩) | (exact ⟨by assumption, by assumption, by assumption, by assumption, by assumption, by assumption, by assumption, by assumption⟩) | (exact hold7 (‹Below u1.heap.size u1 _ ∧ _ ∧ _ ∧ _ ∧ _ ∧ _ ∧ _ ∧ _›) b5 lW)) (first | (go_at_call 17; ((with_reducible refine Calls.mono (I1.out _) ?_); rintro r u5 ⟨rfl, b5⟩)) | (go_at_call 17; ((with_reducible refine Calls.mono (I2.out _) ?_); rintro r u5 ⟨rfl, b5⟩)))
      all_goals clear hw2
      all_goals go_wp2
      all_goals go_ret
      all_goals exact ⟨rfl, below_to Bc.out (‹Below u1.heap.size u1 _ ∧ _ ∧ _ ∧ _ ∧ _ ∧ _ ∧ _ ∧ _›).1⟩
end Go.Proofs.YthahadhckdnjiaaDoor
