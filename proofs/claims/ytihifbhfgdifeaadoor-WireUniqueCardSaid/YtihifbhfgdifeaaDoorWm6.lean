/- The walk of WireUnique: where the table reads as laid, it returns true for every input. -/
import Derived.Test.YtihifbhfgdifeaaDoorWe1
import Derived.BigRegion
namespace Go.Proofs.YtihifbhfgdifeaaDoor
open Go.RowKit

theorem one_string (W : World) (B : Nat) (b : UInt8) (h : W.cell? ⟨B, 0, none⟩ = some (.int .u8 (b.toNat : Int))) :
    Sem.run Tryd.prog (Go.convert 38 9 (.slice (some ⟨B, 0, none⟩) 1 1)) W = .ok (.string (bs [b])) W :=
  run_convert_bytes_back W 38 9 5 ⟨B, 0, none⟩ 1 [b] Tryd.underlying38 Tryd.underlying5 Tryd.underlying9 fun j hj => by
    obtain rfl : j = 0 := by simpa using hj
    simpa [Addr.add] using h

theorem intR_ok (l : List UInt8) (k : Nat) (hk : k ≤ l.length) :
    intR l k = (0, 0, 10) ∨ ∃ (n : Int) (x : Nat), intR l k = (n, (x : Int), 0) ∧ k ≤ x ∧ x ≤ l.length ∧ putR n = ((l.drop k).take (x - k), 0) ∧ -4611686018427387903 ≤ n ∧ n ≤ 4611686018427387903 := by
  have hr : intR l k = intD k (Wm.dec 0 0 (l.drop k)) := by unfold intR; rw [if_neg (by omega)]; rfl
  rw [hr]
  obtain ⟨z, c, hd⟩ : ∃ z c, Wm.dec 0 0 (l.drop k) = (z, c) := ⟨_, _, rfl⟩
  rw [hd]
  by_cases h : c = 0 ∨ 9223372036854775806 < z
  · exact .inl (by unfold intD; rw [if_pos h])
  · obtain ⟨h1, h2, h3⟩ := Wm.dec_some0 _ z c hd (by omega)
    have hu := Wm.unfold_bd z (by omega)
    have hl : c + k ≤ l.length := by
      have := congrArg List.length h3
      rw [List.length_take, List.length_drop] at this
      omega
    refine .inr ⟨Wm.unfoldZ z, k + c, by unfold intD; rw [if_neg h]; rfl, by omega, by omega, ?_, hu.1, hu.2⟩
    rw [Nat.add_sub_cancel_left, h3]
    unfold putR; rw [if_neg (by omega), Wm.fold_unfold]
theorem strR_ok (l : List UInt8) (k : Nat) (hk : k ≤ l.length) :
    strR l k = ([], 0, 10) ∨ ∃ (v : List UInt8) (x : Nat), strR l k = (v, (x : Int), 0) ∧ k ≤ x ∧ x ≤ l.length ∧ putS v = ((l.drop k).take (x - k), 0) := by
  unfold strR
  rcases intR_ok l k hk with h | ⟨n, x, h, hx1, hx2, hp, _, _⟩
  · exact .inl (by rw [h]; rfl)
  · rw [h]
    by_cases hg : n < 0 ∨ 65536 < n ∨ (l.length : Int) - x < n
    · exact .inl (by unfold strD; rw [if_pos rfl, if_pos hg])
    · obtain ⟨m, rfl⟩ := Int.eq_ofNat_of_zero_le (by omega : 0 ≤ n)
      have hvl : ((l.drop x).take m).length = m := by rw [List.length_take, List.length_drop]; omega
      refine .inr ⟨(l.drop x).take m, x + m, by unfold strD; rw [if_pos rfl, if_neg hg]; rfl, by omega, by omega, ?_⟩
      unfold putS
      rw [hvl, if_neg (by omega)]
      unfold putR at hp
      rw [if_neg (by omega)] at hp
      have he := congrArg Prod.fst hp
      simp only [] at he
      rw [he, Prod.mk.injEq]
      refine ⟨?_, rfl⟩
      have e1 : x + m - k = (x - k) + m := by omega
      rw [e1, List.take_add, List.drop_drop, show k + (x - k) = x from by omega]

set_option maxRecDepth 100000 in
set_option maxHeartbeats 2000000 in
theorem unique_walk (s : ByteArray) (at_ : Int) (fb : Int) (w : World) (ht : TabOk w) (hs : s.size ≤ maxLen) (ha1 : -9223372036854775808 ≤ at_) (ha2 : at_ ≤ 9223372036854775807) (hf1 : 0 ≤ fb) (hf2 : fb ≤ 255) :
    Calls Tryd.prog 5 #[.string s, .int .i64 at_, .int .u8 fb] w fun e w' => e = .returned (.bool true) ∧ Below w.heap.size w w' := by
  obtain ⟨b, hb⟩ : ∃ b : UInt8, (b.toNat : Int) = fb := ⟨UInt8.ofNat fb.toNat, by rw [Wm.u8_ofNat _ (by omega)]; omega⟩
  subst hb
  obtain ⟨u, hu⟩ : ∃ u, s.extract 0 (min (s.size : Int) 300).toNat = u := ⟨_, rfl⟩
  have hus := cut_size hu
  obtain ⟨P, hP⟩ : ∃ P, bs [b] = P := ⟨_, rfl⟩
  have hPs : P.size = 1 := by rw [← hP, bs_size]; rfl
  obtain ⟨T, hT⟩ : ∃ T, P ++ u = T := ⟨_, rfl⟩
  have hTs : T.size = u.size + 1 := by rw [← hT, ByteArray.size_append]; omega
  have hsn := fun w h => sane_any w h
  have hcv := fun (W : World) (B : Nat) (h : W.cell? ⟨B, 0, none⟩ = some (.int .u8 (b.toNat : Int))) => one_string W B b h
  rw [hP] at hcv
  unfold maxLen at hs
  have H0 := Lib.hid hsn; clear hsn hP
  have HT := Lib.hid ht; clear ht
  have hTl : T.size ≤ 301 := by omega
  have hpk := fun w => pick_any at_ ((T.size : Int) + 1) w ha1 ha2 (by omega) (by omega)
  obtain ⟨v, e1, l1⟩ : ∃ k : Nat, pickZ at_ ((T.size : Int) + 1) = k ∧ k ≤ T.size := by
    have := pickZ_bd at_ ((T.size : Int) + 1) (by omega)
    exact ⟨(pickZ at_ ((T.size : Int) + 1)).toNat, by omega, by omega⟩
  rw [e1] at hpk
  clear e1
  have H1 := Lib.hid hpk; clear hpk
  have HTs := Lib.hid hTs; have HPs := Lib.hid hPs; clear hTs hPs
  go_enter Tryd.func5, Tryd.ntmps5
  go_wp2_with fail
  refine (H0.out _ HT.out).mono ?_
  rintro e w1 ⟨rfl, b1⟩
  have hPl : P.size ≤ 1 := by rw [HPs.out]; omega
  go_wp2_with fail
  go_region
  go_wp2_with fail
  refine (H1.out _).mono ?_
  rintro e w' ⟨rfl, rfl⟩
  go_wp2_with fail
  go_loopw [10, 11, 12, 13, 14, 15, 16, 17, 18, 19, 20, 38] (fun _ _ _ _ _ _ _ _ _ _ _ i wr => ∃ k : Nat, k ≤ 2 ∧ i = .int .i64 k ∧ wr.cell? ⟨w1.heap.size + 1, 0, none⟩ = some (.int .i64 0) ∧ wr.cell? ⟨w1.heap.size + 1, 1, none⟩ = some (.int .i64 v) ∧ w1.heap.size + 2 ≤ wr.heap.size ∧ Below w1.heap.size w1 wr) (fun _ _ _ _ _ _ _ _ _ _ _ i _ => 2 - (intOf i).toNat)
  case atStart => exact ⟨0, by omega, rfl, by simp, by simp, by simp, (((Below.refl _ w1).alloc (Nat.le_refl _) _).alloc (by simp) _).drew⟩
  case round =>
    obtain ⟨k, hk, rfl, hc0, hc1, hsz, hB⟩ := hrel
    by_cases hlt : k < 2
    · obtain ⟨a, ha, hal⟩ : ∃ a : Nat, wr.cell? ⟨w1.heap.size + 1, k, none⟩ = some (.int .i64 a) ∧ a ≤ T.size := by
        rcases (by omega : k = 0 ∨ k = 1) with rfl | rfl
        · exact ⟨0, hc0, by omega⟩
        · exact ⟨v, hc1, l1⟩
      have hC0 := Lib.hid hc0; have hC1 := Lib.hid hc1; clear hc0 hc1
      have hTll : T.data.toList.length = T.size := by simp
      have k1 := fun (w : World) => int_any T a w (by unfold maxLen; omega) (by omega) (by omega)
      have k3 := fun (w : World) => string_any T a w (by unfold maxLen; omega) (by omega) (by omega)
      obtain ⟨n, x, ei, U, ef, k1', k2', hA⟩ : ∃ (n x ei : Int) (U : ByteArray) (ef : Int), (∀ w, Calls Tryd.prog 15 #[.string T, .int .i64 (a : Int)] w fun e w' => e = .returned (.tuple #[.int .i64 n, .int .i64 x, .int .i64 ei]) ∧ w = w') ∧
          (∀ w, Calls Tryd.prog 12 #[.int .i64 n] w fun e w' => e = .returned (.tuple #[.string U, .int .i64 ef]) ∧ Below w.heap.size w w') ∧
          (n = 0 ∧ x = 0 ∧ ei = 10 ∨ ∃ y : Nat, x = y ∧ ei = 0 ∧ ef = 0 ∧ a ≤ y ∧ y ≤ T.size ∧ T.extract a y = U) := by
        rcases intR_ok T.data.toList a (by omega) with h | ⟨n, x, h, hx1, hx2, hp, hn1, hn2⟩
        · rw [h] at k1
          exact ⟨0, 0, 10, bs (putR 0).1, (putR 0).2, k1, fun w => put_any 0 w (by decide) (by decide), .inl ⟨rfl, rfl, rfl⟩⟩
        · rw [h] at k1
          refine ⟨n, x, 0, bs (putR n).1, (putR n).2, k1, fun w => put_any n w (by omega) (by omega), .inr ⟨x, rfl, rfl, by rw [hp], hx1, by omega, ?_⟩⟩
          rw [bs_extract, hp]
      obtain ⟨V, x2, ei2, U2, ef2, k3', k4', hA2⟩ : ∃ (V : ByteArray) (x ei : Int) (U : ByteArray) (ef : Int), (∀ w, Calls Tryd.prog 17 #[.string T, .int .i64 (a : Int)] w fun e w' => e = .returned (.tuple #[.string V, .int .i64 x, .int .i64 ei]) ∧ Below w.heap.size w w') ∧
          (∀ w, Calls Tryd.prog 19 #[.string V] w fun e w' => e = .returned (.tuple #[.string U, .int .i64 ef]) ∧ Below w.heap.size w w') ∧
          (V = ⟨#[]⟩ ∧ x = 0 ∧ ei = 10 ∨ ∃ y : Nat, x = y ∧ ei = 0 ∧ ef = 0 ∧ a ≤ y ∧ y ≤ T.size ∧ T.extract a y = U) := by
        rcases strR_ok T.data.toList a (by omega) with h | ⟨v, x, h, hx1, hx2, hp⟩
        · rw [h] at k3
          exact ⟨bs [], 0, 10, bs (putS []).1, (putS []).2, k3, fun w => by have := putS_any (bs []) w (by decide); rw [bs_list] at this; exact this, .inl ⟨rfl, rfl, rfl⟩⟩
        · rw [h] at k3
          have hvl : v.length ≤ 65536 := by
            by_cases hv : 65536 < v.length
            · unfold putS at hp; rw [if_pos hv] at hp; simp at hp
            · omega
          refine ⟨bs v, x, 0, bs (putS v).1, (putS v).2, k3, fun w => by have := putS_any (bs v) w (by rw [bs_size]; unfold maxLen; omega); rw [bs_list] at this; exact this, .inr ⟨x, rfl, rfl, by rw [hp], hx1, by omega, ?_⟩⟩
          rw [bs_extract, hp]
      have K1 := Lib.hid k1'; have K2 := Lib.hid k2'; have K3 := Lib.hid k3'; have K4 := Lib.hid k4'
      clear k1 k3 k1' k2' k3' k4' hTll
      have fin : ∀ w3 w4 w5 : World, Below wr.heap.size wr w3 → Below w3.heap.size w3 w4 → Below w4.heap.size w4 w5 → w5.cell? ⟨w1.heap.size + 1, 0, none⟩ = some (.int .i64 0) ∧ w5.cell? ⟨w1.heap.size + 1, 1, none⟩ = some (.int .i64 v) ∧ w1.heap.size + 2 ≤ w5.heap.size ∧ Below w1.heap.size w1 w5 := fun w3 w4 w5 c1 c2 c3 => by
        have s1 := c1.size; have s2 := c2.size; have s3 := c3.size
        have d := below_chain (below_chain c1 s1 c2) (by omega) c3
        exact ⟨(d.cell (p := ⟨w1.heap.size + 1, 0, none⟩) (by show w1.heap.size + 1 < wr.heap.size; omega)).trans hC0.out, (d.cell (p := ⟨w1.heap.size + 1, 1, none⟩) (by show w1.heap.size + 1 < wr.heap.size; omega)).trans hC1.out, by omega, hB.trans (d.mono (by omega))⟩
      have FIN := Lib.hid fin; clear fin
      rcases hA with ⟨rfl, rfl, rfl⟩ | ⟨y, rfl, rfl, rfl, hy1, hy2, hyU⟩
      all_goals rcases hA2 with ⟨rfl, rfl, rfl⟩ | ⟨y2, rfl, rfl, rfl, hz1, hz2, hzU⟩
      all_goals
        go_wp2_with fail
        refine (K1.out _).mono ?_
        rintro e w' ⟨rfl, rfl⟩
        go_wp2_with fail
        refine (K2.out _).mono ?_
        rintro e w3 ⟨rfl, b3⟩
        go_wp2_with fail
        refine (K3.out _).mono ?_
        rintro e w4 ⟨rfl, b4⟩
        go_wp2_with fail
        refine (K4.out _).mono ?_
        rintro e w5 ⟨rfl, b5⟩
        go_wp2_with fail
        go_roundw
        case rel =>
          obtain ⟨f1, f2, f3, f4⟩ := FIN.out w3 w4 w5 b3 b4 b5
          exact ⟨k + 1, by omega, by go_num, f1, f2, f3, f4⟩
        case measure => simp [intOf]; omega
    · obtain rfl : k = 2 := by omega
      go_wp2
      go_ret
      exact ⟨rfl, below_chain b1 b1.size hB⟩
end Go.Proofs.YtihifbhfgdifeaaDoor
