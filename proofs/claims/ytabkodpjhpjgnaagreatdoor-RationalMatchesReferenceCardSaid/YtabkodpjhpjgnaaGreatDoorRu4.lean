/- The reference's Compare at what is no fraction, its grid, Down and Up. -/
import Derived.Test.YtabkodpjhpjgnaaGreatDoorRv4
import Derived.Test.YtabkodpjhpjgnaaGreatDoorX6
namespace Go.Proofs.YtabkodpjhpjgnaaGreatDoor
open Go.RowKit Go.Shelf

set_option maxRecDepth 100000 in
set_option maxHeartbeats 8000000 in
theorem rcompare_no (a1 a2 b1 b2 : List UInt8) (l1 : a1.length ≤ 1000000) (l2 : a2.length ≤ 1000000) (l3 : b1.length ≤ 1000000) (l4 : b2.length ≤ 1000000) (h : (vldR a1 a2 && vldR b1 b2) = false) : CallT 21 #[rv a1 a2, rv b1 b2] (.int .i64 0) := fun w ht => by
  have HV1 := Lib.hid (rvalid4_c a1 a2 l1 l2); have HV2 := Lib.hid (rvalid4_c b1 b2 l3 l4)
  have HT := Lib.hid ht
  clear l1 l2 l3 l4 ht
  generalize vldR a1 a2 = v1 at *
  generalize vldR b1 b2 = v2 at *
  unfold rv strOf at *
  generalize bs a1 = A1 at *
  generalize bs a2 = A2 at *
  generalize bs b1 = B1 at *
  generalize bs b2 = B2 at *
  obtain ⟨W0, hW0⟩ : ∃ W0, (w.alloc (.cells #[.string A1, .string A2] 23)).alloc (.cells #[.string B1, .string B2] 23) = W0 := ⟨_, rfl⟩
  have hr : Rws W0 [(w.heap.size + 1, 23, #[.string B1, .string B2]), (w.heap.size, 23, #[.string A1, .string A2])] := by
    rw [← hW0]
    have h := ((Rws.nil w).cons 23 #[.string A1, .string A2]).cons 23 #[.string B1, .string B2]
    simp only [World.size_alloc] at h
    exact h
  have hb : Below w.heap.size w W0 := by rw [← hW0]; exact ((Below.refl _ _).alloc (Nat.le_refl _) _).alloc (by simp) _
  have HW0 := Lib.hid hW0; have HR := Lib.hid hr; have HB := Lib.hid hb
  clear hW0 hr hb
  go_enter Tryz.func21, Tryz.ntmps21
  go_upto_region 1 with (fail)
  rw [HW0.out]
  clear HW0
  have x0_0 : W0.cell? ⟨w.heap.size + 1, 0, none⟩ = some (.string B1) := (HR.out.at (x := (w.heap.size + 1, 23, #[.string B1, .string B2])) 0 rfl).cell 0
  have x0_1 : W0.cell? ⟨w.heap.size + 1, 1, none⟩ = some (.string B2) := (HR.out.at (x := (w.heap.size + 1, 23, #[.string B1, .string B2])) 0 rfl).cell 1
  have y0 : w.heap.size + 1 < W0.heap.size := (HR.out.at (x := (w.heap.size + 1, 23, #[.string B1, .string B2])) 0 rfl).lt
  have x1_0 : W0.cell? ⟨w.heap.size, 0, none⟩ = some (.string A1) := (HR.out.at (x := (w.heap.size, 23, #[.string A1, .string A2])) 1 rfl).cell 0
  have x1_1 : W0.cell? ⟨w.heap.size, 1, none⟩ = some (.string A2) := (HR.out.at (x := (w.heap.size, 23, #[.string A1, .string A2])) 1 rfl).cell 1
  have y1 : w.heap.size < W0.heap.size := (HR.out.at (x := (w.heap.size, 23, #[.string A1, .string A2])) 1 rfl).lt
  go_upto_region 3 with (first | (go_at_call 30; (with_reducible refine Calls.mono (HV1.out _ (HT.out.next HB.out)) ?_); rintro e w1 ⟨rfl, hb⟩; have hq := HR.out.below hb; clear x0_0 x0_1 y0 x1_0 x1_1 y1; have x0_0 : w1.cell? ⟨w.heap.size + 1, 0, none⟩ = some (.string B1) := (hq.at (x := (w.heap.size + 1, 23, #[.string B1, .string B2])) 0 rfl).cell 0; have x0_1 : w1.cell? ⟨w.heap.size + 1, 1, none⟩ = some (.string B2) := (hq.at (x := (w.heap.size + 1, 23, #[.string B1, .string B2])) 0 rfl).cell 1; have y0 : w.heap.size + 1 < w1.heap.size := (hq.at (x := (w.heap.size + 1, 23, #[.string B1, .string B2])) 0 rfl).lt; have x1_0 : w1.cell? ⟨w.heap.size, 0, none⟩ = some (.string A1) := (hq.at (x := (w.heap.size, 23, #[.string A1, .string A2])) 1 rfl).cell 0; have x1_1 : w1.cell? ⟨w.heap.size, 1, none⟩ = some (.string A2) := (hq.at (x := (w.heap.size, 23, #[.string A1, .string A2])) 1 rfl).cell 1; have y1 : w.heap.size < w1.heap.size := (hq.at (x := (w.heap.size, 23, #[.string A1, .string A2])) 1 rfl).lt; replace HR := Lib.hid hq; replace HB := Lib.hid (below_to HB.out hb); clear hb hq) | (go_at_call 30; (with_reducible refine Calls.mono (HV2.out _ (HT.out.next HB.out)) ?_); rintro e w2 ⟨rfl, hb⟩; have hq := HR.out.below hb; clear x0_0 x0_1 y0 x1_0 x1_1 y1; have x0_0 : w2.cell? ⟨w.heap.size + 1, 0, none⟩ = some (.string B1) := (hq.at (x := (w.heap.size + 1, 23, #[.string B1, .string B2])) 0 rfl).cell 0; have x0_1 : w2.cell? ⟨w.heap.size + 1, 1, none⟩ = some (.string B2) := (hq.at (x := (w.heap.size + 1, 23, #[.string B1, .string B2])) 0 rfl).cell 1; have y0 : w.heap.size + 1 < w2.heap.size := (hq.at (x := (w.heap.size + 1, 23, #[.string B1, .string B2])) 0 rfl).lt; have x1_0 : w2.cell? ⟨w.heap.size, 0, none⟩ = some (.string A1) := (hq.at (x := (w.heap.size, 23, #[.string A1, .string A2])) 1 rfl).cell 0; have x1_1 : w2.cell? ⟨w.heap.size, 1, none⟩ = some (.string A2) := (hq.at (x := (w.heap.size, 23, #[.string A1, .string A2])) 1 rfl).cell 1; have y1 : w.heap.size < w2.heap.size := (hq.at (x := (w.heap.size, 23, #[.string A1, .string A2])) 1 rfl).lt; replace HR := Lib.hid hq; replace HB := Lib.hid (below_to HB.out hb); clear hb hq))
  cases v1 with
  | false =>
    go_wp2_with fail
    go_ret
    exact ⟨rfl, HB.out⟩
  | true =>
    cases v2 with
    | true => cases h
    | false =>
      go_wp2_with fail
      go_ret
      exact ⟨rfl, HB.out⟩
theorem same_cmp (a1 a2 b1 b2 : List UInt8) (l1 : a1.length ≤ 1000000) (l2 : a2.length ≤ 1000000) (l3 : b1.length ≤ 1000000) (l4 : b2.length ≤ 1000000) : ∃ k : Int, CallT 20 #[rv a1 a2, rv b1 b2] (.int .i64 k) ∧ CallT 21 #[rv a1 a2, rv b1 b2] (.int .i64 k) := by
  cases hv : (vldR a1 a2 && vldR b1 b2) with
  | false => exact ⟨0, cmp_no a1 a2 b1 b2 hv, rcompare_no a1 a2 b1 b2 l1 l2 l3 l4 hv⟩
  | true =>
    simp only [Bool.and_eq_true] at hv
    obtain ⟨p, hp, rfl, rfl⟩ := vldR_of hv.1
    obtain ⟨q, hq, rfl, rfl⟩ := vldR_of hv.2
    exact ⟨_, cmp_q p q hp hq, rcompare_q p q hp hq⟩
set_option maxRecDepth 100000 in
set_option maxHeartbeats 8000000 in
theorem rpower_c (p : Nat) (hp : p ≤ 1000) : CallT 82 #[.int .i64 (p : Int)] (strOf (Lib.itoa ((10 ^ p : Nat) : Int))) := fun w ht => by
  rw [← ten_text]
  clear ht
  unfold strOf
  go_enter Tryz.func82, Tryz.ntmps82
  go_wp2
  go_loop [3, 4] (fun s i => ∃ k : Nat, k ≤ p ∧ s = .string (bs (49 :: zer k)) ∧ i = .int .i64 (k : Int)) (fun _ i => p - (intOf i).toNat)
  case atStart => exact ⟨0, Nat.zero_le _, rfl, rfl⟩
  case round =>
    obtain ⟨k, hk, rfl, rfl⟩ := hrel
    by_cases hlt : k < p
    · have hz := zer_size k
      have HN := Lib.hid (zer_next k)
      have k1 : ¬ ((bs (49 :: zer k)).size + (⟨#[48]⟩ : ByteArray).size > 9223372036854775807) := by rw [hz]; show ¬ (k + 1 + 1 > _); omega
      have k2 : ¬ (9223372036854775807 < (bs (49 :: zer k)).size + 1) := by omega
      clear hz
      generalize bs (49 :: zer k) = S at *
      go_wp2
      go_round
      case rel => exact ⟨k + 1, by omega, by rw [HN.out], by go_num⟩
      case measure => simp [intOf]; omega
    · obtain rfl : p = k := by omega
      clear hk
      go_wp2
      go_ret
      exact ⟨rfl, Below.refl _ _⟩
set_option maxRecDepth 100000 in
set_option maxHeartbeats 8000000 in
theorem rgrid_bad (l r : List UInt8) (p : Int) (hl : l.length ≤ 1000000) (hr : r.length ≤ 1000000) (h : vldR l r = false ∨ p < 0 ∨ 30 < p) : CallT 56 #[rv l r, .int .i64 p] (.tuple #[.string ⟨#[]⟩, .string ⟨#[]⟩, .string ⟨#[]⟩, .bool false]) := fun w ht => by
  have HV1 := Lib.hid (rvalid4_c l r hl hr)
  have HT := Lib.hid ht
  clear hl hr ht
  generalize vldR l r = v1 at *
  unfold rv strOf at *
  generalize bs l = A1 at *
  generalize bs r = A2 at *
  obtain ⟨W0, hW0⟩ : ∃ W0, w.alloc (.cells #[.string A1, .string A2] 23) = W0 := ⟨_, rfl⟩
  have hr : Rws W0 [(w.heap.size, 23, #[.string A1, .string A2])] := by
    rw [← hW0]
    have h := (Rws.nil w).cons 23 #[.string A1, .string A2]
    exact h
  have hb : Below w.heap.size w W0 := by rw [← hW0]; exact (Below.refl _ _).alloc (Nat.le_refl _) _
  have HW0 := Lib.hid hW0; have HR := Lib.hid hr; have HB := Lib.hid hb
  clear hW0 hr hb
  go_enter Tryz.func56, Tryz.ntmps56
  go_upto_region 1 with (fail)
  rw [HW0.out]
  clear HW0
  have x0_0 : W0.cell? ⟨w.heap.size, 0, none⟩ = some (.string A1) := (HR.out.at (x := (w.heap.size, 23, #[.string A1, .string A2])) 0 rfl).cell 0
  have x0_1 : W0.cell? ⟨w.heap.size, 1, none⟩ = some (.string A2) := (HR.out.at (x := (w.heap.size, 23, #[.string A1, .string A2])) 0 rfl).cell 1
  have y0 : w.heap.size < W0.heap.size := (HR.out.at (x := (w.heap.size, 23, #[.string A1, .string A2])) 0 rfl).lt
  go_upto_region 2 with (first | (go_at_call 30; (with_reducible refine Calls.mono (HV1.out _ (HT.out.next HB.out)) ?_); rintro e w1 ⟨rfl, hb⟩; have hq := HR.out.below hb; clear x0_0 x0_1 y0; have x0_0 : w1.cell? ⟨w.heap.size, 0, none⟩ = some (.string A1) := (hq.at (x := (w.heap.size, 23, #[.string A1, .string A2])) 0 rfl).cell 0; have x0_1 : w1.cell? ⟨w.heap.size, 1, none⟩ = some (.string A2) := (hq.at (x := (w.heap.size, 23, #[.string A1, .string A2])) 0 rfl).cell 1; have y0 : w.heap.size < w1.heap.size := (hq.at (x := (w.heap.size, 23, #[.string A1, .string A2])) 0 rfl).lt; replace HR := Lib.hid hq; replace HB := Lib.hid (below_to HB.out hb); clear hb hq))
  cases v1 with
  | false =>
    go_wp2_with fail
    refine bodyPost_ret (results_tmp4 rfl _ _ _) rfl ?_
    exact ⟨rfl, HB.out⟩
  | true =>
    rcases h with h | h | h
    · cases h
    · go_wp2_with fail
      refine bodyPost_ret (results_tmp4 rfl _ _ _) rfl ?_
      exact ⟨rfl, HB.out⟩
    · have h2 : ¬ p < 0 := by omega
      go_wp2_with fail
      refine bodyPost_ret (results_tmp4 rfl _ _ _) rfl ?_
      exact ⟨rfl, HB.out⟩
set_option maxRecDepth 100000 in
set_option maxHeartbeats 8000000 in
theorem rgrid_q (q : Rat) (p : Nat) (hq : okq q = true) (hp : p ≤ 30) : CallT 56 #[qv q, .int .i64 (p : Int)] (if okz (q.num * ((10 ^ p : Nat) : Int)) then .tuple #[strOf (Lib.itoa (q.num * ((10 ^ p : Nat) : Int) / ((q.den : Nat) : Int))), strOf (Lib.itoa (q.num * ((10 ^ p : Nat) : Int) % ((q.den : Nat) : Int))), strOf (Lib.itoa ((10 ^ p : Nat) : Int)), .bool true] else .tuple #[.string ⟨#[]⟩, .string ⟨#[]⟩, .string ⟨#[]⟩, .bool false]) := fun w ht => by
  obtain ⟨q1, q2⟩ := okq_iff.1 hq
  have d0 := Qm.den_pos q
  have HV1 := Lib.hid (rvalid_q hq)
  have HP := Lib.hid (rpower_c p (by omega))
  have HM := rmulX q.num ((10 ^ p : Nat) : Int) q1 (ok_ten (by omega))
  have HT := Lib.hid ht
  obtain ⟨P, hP⟩ : ∃ P : Int, (p : Int) = P := ⟨_, rfl⟩
  have hp0 : ¬ P < 0 := by omega
  have hp1 : ¬ 30 < P := by omega
  rw [hP] at HP ⊢
  clear ht hP
  cases hz : okz (q.num * ((10 ^ p : Nat) : Int)) with
  | false =>
    have he : ¬ errT (q.num * ((10 ^ p : Nat) : Int)) = 0 := fun e => by rw [errT_zero e] at hz; cases hz
    have hb1 : (errT (q.num * ((10 ^ p : Nat) : Int)) == 0) = false := beq_eq_false_iff_ne.2 he
    have hb2 : (errT (q.num * ((10 ^ p : Nat) : Int)) != 0) = true := bne_iff_ne.2 he
    generalize errT (q.num * ((10 ^ p : Nat) : Int)) = ee at *
    replace HM := Lib.hid HM
    clear he hz q1 q2 d0 hq hp
    unfold qv rv strOf at *
    generalize bs (outT (q.num * ((10 ^ p : Nat) : Int))) = NN at *
    generalize bs (Lib.itoa q.num) = A1 at *
    generalize bs (Lib.itoa ((q.den : Nat) : Int)) = A2 at *
    generalize bs (Lib.itoa ((10 ^ p : Nat) : Int)) = TT at *
    obtain ⟨W0, hW0⟩ : ∃ W0, w.alloc (.cells #[.string A1, .string A2] 23) = W0 := ⟨_, rfl⟩
    have hr : Rws W0 [(w.heap.size, 23, #[.string A1, .string A2])] := by
      rw [← hW0]
      have h := (Rws.nil w).cons 23 #[.string A1, .string A2]
      exact h
    have hb : Below w.heap.size w W0 := by rw [← hW0]; exact (Below.refl _ _).alloc (Nat.le_refl _) _
    have HW0 := Lib.hid hW0; have HR := Lib.hid hr; have HB := Lib.hid hb
    clear hW0 hr hb
    go_enter Tryz.func56, Tryz.ntmps56
    go_upto_region 1 with (fail)
    rw [HW0.out]
    clear HW0
    have x0_0 : W0.cell? ⟨w.heap.size, 0, none⟩ = some (.string A1) := (HR.out.at (x := (w.heap.size, 23, #[.string A1, .string A2])) 0 rfl).cell 0
    have x0_1 : W0.cell? ⟨w.heap.size, 1, none⟩ = some (.string A2) := (HR.out.at (x := (w.heap.size, 23, #[.string A1, .string A2])) 0 rfl).cell 1
    have y0 : w.heap.size < W0.heap.size := (HR.out.at (x := (w.heap.size, 23, #[.string A1, .string A2])) 0 rfl).lt
    go_wp2_with (first | (go_at_call 30; (with_reducible refine Calls.mono (HV1.out _ (HT.out.next HB.out)) ?_); rintro e w1 ⟨rfl, hb⟩; have hq := HR.out.below hb; clear x0_0 x0_1 y0; have x0_0 : w1.cell? ⟨w.heap.size, 0, none⟩ = some (.string A1) := (hq.at (x := (w.heap.size, 23, #[.string A1, .string A2])) 0 rfl).cell 0; have x0_1 : w1.cell? ⟨w.heap.size, 1, none⟩ = some (.string A2) := (hq.at (x := (w.heap.size, 23, #[.string A1, .string A2])) 0 rfl).cell 1; have y0 : w.heap.size < w1.heap.size := (hq.at (x := (w.heap.size, 23, #[.string A1, .string A2])) 0 rfl).lt; replace HR := Lib.hid hq; replace HB := Lib.hid (below_to HB.out hb); clear hb hq) | (go_at_call 82; (with_reducible refine Calls.mono (HP.out _ (HT.out.next HB.out)) ?_); rintro e w2 ⟨rfl, hb⟩; have hq := HR.out.below hb; clear x0_0 x0_1 y0; have x0_0 : w2.cell? ⟨w.heap.size, 0, none⟩ = some (.string A1) := (hq.at (x := (w.heap.size, 23, #[.string A1, .string A2])) 0 rfl).cell 0; have x0_1 : w2.cell? ⟨w.heap.size, 1, none⟩ = some (.string A2) := (hq.at (x := (w.heap.size, 23, #[.string A1, .string A2])) 0 rfl).cell 1; have y0 : w.heap.size < w2.heap.size := (hq.at (x := (w.heap.size, 23, #[.string A1, .string A2])) 0 rfl).lt; replace HR := Lib.hid hq; replace HB := Lib.hid (below_to HB.out hb); clear hb hq) | (go_at_call 44; (with_reducible refine Calls.mono (HM.out _ (HT.out.next HB.out)) ?_); rintro e w3 ⟨rfl, hb⟩; have hq := HR.out.below hb; clear x0_0 x0_1 y0; have x0_0 : w3.cell? ⟨w.heap.size, 0, none⟩ = some (.string A1) := (hq.at (x := (w.heap.size, 23, #[.string A1, .string A2])) 0 rfl).cell 0; have x0_1 : w3.cell? ⟨w.heap.size, 1, none⟩ = some (.string A2) := (hq.at (x := (w.heap.size, 23, #[.string A1, .string A2])) 0 rfl).cell 1; have y0 : w.heap.size < w3.heap.size := (hq.at (x := (w.heap.size, 23, #[.string A1, .string A2])) 0 rfl).lt; replace HR := Lib.hid hq; replace HB := Lib.hid (below_to HB.out hb); clear hb hq))
    refine bodyPost_ret (results_tmp4 rfl _ _ _) rfl ?_
    exact ⟨rfl, HB.out⟩
  | true =>
    rw [outT_ok hz, errT_ok hz] at HM
    replace HM := Lib.hid HM
    have HD := Lib.hid (rdivT _ _ _ _ rfl rfl hz q2 (by omega) (ok_div d0 hz) (ok_mod d0 q2))
    clear hz q1 q2 d0 hq hp
    unfold qv rv strOf at *
    generalize bs (Lib.itoa (q.num * ((10 ^ p : Nat) : Int) / ((q.den : Nat) : Int))) = QQ at *
    generalize bs (Lib.itoa (q.num * ((10 ^ p : Nat) : Int) % ((q.den : Nat) : Int))) = RR at *
    generalize bs (Lib.itoa (q.num * ((10 ^ p : Nat) : Int))) = NN at *
    generalize bs (Lib.itoa q.num) = A1 at *
    generalize bs (Lib.itoa ((q.den : Nat) : Int)) = A2 at *
    generalize bs (Lib.itoa ((10 ^ p : Nat) : Int)) = TT at *
    obtain ⟨W0, hW0⟩ : ∃ W0, w.alloc (.cells #[.string A1, .string A2] 23) = W0 := ⟨_, rfl⟩
    have hr : Rws W0 [(w.heap.size, 23, #[.string A1, .string A2])] := by
      rw [← hW0]
      have h := (Rws.nil w).cons 23 #[.string A1, .string A2]
      exact h
    have hb : Below w.heap.size w W0 := by rw [← hW0]; exact (Below.refl _ _).alloc (Nat.le_refl _) _
    have HW0 := Lib.hid hW0; have HR := Lib.hid hr; have HB := Lib.hid hb
    clear hW0 hr hb
    go_enter Tryz.func56, Tryz.ntmps56
    go_upto_region 1 with (fail)
    rw [HW0.out]
    clear HW0
    have x0_0 : W0.cell? ⟨w.heap.size, 0, none⟩ = some (.string A1) := (HR.out.at (x := (w.heap.size, 23, #[.string A1, .string A2])) 0 rfl).cell 0
    have x0_1 : W0.cell? ⟨w.heap.size, 1, none⟩ = some (.string A2) := (HR.out.at (x := (w.heap.size, 23, #[.string A1, .string A2])) 0 rfl).cell 1
    have y0 : w.heap.size < W0.heap.size := (HR.out.at (x := (w.heap.size, 23, #[.string A1, .string A2])) 0 rfl).lt
    go_wp2_with (first | (go_at_call 30; (with_reducible refine Calls.mono (HV1.out _ (HT.out.next HB.out)) ?_); rintro e w1 ⟨rfl, hb⟩; have hq := HR.out.below hb; clear x0_0 x0_1 y0; have x0_0 : w1.cell? ⟨w.heap.size, 0, none⟩ = some (.string A1) := (hq.at (x := (w.heap.size, 23, #[.string A1, .string A2])) 0 rfl).cell 0; have x0_1 : w1.cell? ⟨w.heap.size, 1, none⟩ = some (.string A2) := (hq.at (x := (w.heap.size, 23, #[.string A1, .string A2])) 0 rfl).cell 1; have y0 : w.heap.size < w1.heap.size := (hq.at (x := (w.heap.size, 23, #[.string A1, .string A2])) 0 rfl).lt; replace HR := Lib.hid hq; replace HB := Lib.hid (below_to HB.out hb); clear hb hq) | (go_at_call 82; (with_reducible refine Calls.mono (HP.out _ (HT.out.next HB.out)) ?_); rintro e w2 ⟨rfl, hb⟩; have hq := HR.out.below hb; clear x0_0 x0_1 y0; have x0_0 : w2.cell? ⟨w.heap.size, 0, none⟩ = some (.string A1) := (hq.at (x := (w.heap.size, 23, #[.string A1, .string A2])) 0 rfl).cell 0; have x0_1 : w2.cell? ⟨w.heap.size, 1, none⟩ = some (.string A2) := (hq.at (x := (w.heap.size, 23, #[.string A1, .string A2])) 0 rfl).cell 1; have y0 : w.heap.size < w2.heap.size := (hq.at (x := (w.heap.size, 23, #[.string A1, .string A2])) 0 rfl).lt; replace HR := Lib.hid hq; replace HB := Lib.hid (below_to HB.out hb); clear hb hq) | (go_at_call 44; (with_reducible refine Calls.mono (HM.out _ (HT.out.next HB.out)) ?_); rintro e w3 ⟨rfl, hb⟩; have hq := HR.out.below hb; clear x0_0 x0_1 y0; have x0_0 : w3.cell? ⟨w.heap.size, 0, none⟩ = some (.string A1) := (hq.at (x := (w.heap.size, 23, #[.string A1, .string A2])) 0 rfl).cell 0; have x0_1 : w3.cell? ⟨w.heap.size, 1, none⟩ = some (.string A2) := (hq.at (x := (w.heap.size, 23, #[.string A1, .string A2])) 0 rfl).cell 1; have y0 : w.heap.size < w3.heap.size := (hq.at (x := (w.heap.size, 23, #[.string A1, .string A2])) 0 rfl).lt; replace HR := Lib.hid hq; replace HB := Lib.hid (below_to HB.out hb); clear hb hq) | (go_at_call 51; (with_reducible refine Calls.mono (HD.out _ (HT.out.next HB.out)) ?_); rintro e w4 ⟨rfl, hb⟩; have hq := HR.out.below hb; clear x0_0 x0_1 y0; have x0_0 : w4.cell? ⟨w.heap.size, 0, none⟩ = some (.string A1) := (hq.at (x := (w.heap.size, 23, #[.string A1, .string A2])) 0 rfl).cell 0; have x0_1 : w4.cell? ⟨w.heap.size, 1, none⟩ = some (.string A2) := (hq.at (x := (w.heap.size, 23, #[.string A1, .string A2])) 0 rfl).cell 1; have y0 : w.heap.size < w4.heap.size := (hq.at (x := (w.heap.size, 23, #[.string A1, .string A2])) 0 rfl).lt; replace HR := Lib.hid hq; replace HB := Lib.hid (below_to HB.out hb); clear hb hq))
    refine bodyPost_ret (results_tmp4 rfl _ _ _) rfl ?_
    exact ⟨rfl, HB.out⟩
end Go.Proofs.YtabkodpjhpjgnaaGreatDoor
