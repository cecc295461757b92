/- The walk of RationalLowest. -/
import Derived.Test.YtabkodpjhpjgnaaGreatDoorQw
namespace Go.Proofs.YtabkodpjhpjgnaaGreatDoor
open Go.RowKit Go.Shelf

theorem Bxs.at {u : World} {l : List (Nat × ByteArray × ByteArray)} {x : Nat × ByteArray × ByteArray} (h : Bxs u l) (i : Nat) (hi : l[i]? = some x) : Row u x.1 23 #[.string x.2.1, .string x.2.2] := h x (List.mem_of_getElem? hi)
/-- The inputs' bounds: numerator and denominator have at most k digits. -/
def BQ (k : Nat) (q : Rat) : Prop := q.num.natAbs < 10 ^ k ∧ q.den < 10 ^ k
theorem BQ.ok {k : Nat} {q : Rat} (h : BQ k q) (hk : k ≤ 200) : okq q = true := by
  have h2 : (10 : Nat) ^ k ≤ 10 ^ 200 := Nat.pow_le_pow_right (by decide) hk
  exact okq_iff.2 ⟨decide_eq_true (by have := h.1; omega), decide_eq_true (by have := h.2; omega)⟩
theorem longQ_B (x0 x1 x2 x3 : Int) : BQ 100 (longQ x0 x1 x2 x3) := by
  have hd := longDen_pos x2 x3
  have h1 := Qm.red_num_le (longNum x0 x1) (longDen x2 x3) (by omega)
  have h2 := Qm.red_den_le (longNum x0 x1) (longDen x2 x3) (by omega)
  have a1 := longN_lt x0 x1
  have a2 := longN_lt x2 x3
  have a3 : (longNum x0 x1).natAbs ≤ longN x0 x1 := by unfold longNum; split <;> omega
  have a4 : (longDen x2 x3).natAbs < 10 ^ 100 := by
    have : (7 : Nat) < 10 ^ 100 := by decide +kernel
    unfold longDen; split <;> omega
  exact ⟨Nat.lt_of_le_of_lt (Nat.le_trans h1 a3) a1, Nat.lt_of_le_of_lt h2 a4⟩
theorem smallQ_B (x0 x1 : Int) : BQ 3 (smallQ x0 x1) := by
  have l1 := pickN_lt x0 1999 (by decide)
  have l2 := pickN_lt x1 60 (by decide)
  have h1 := Qm.red_num_le ((pickN x0 1999 : Nat) - 999) (1 + (pickN x1 60 : Nat)) (by omega)
  have h2 := Qm.red_den_le ((pickN x0 1999 : Nat) - 999) (1 + (pickN x1 60 : Nat)) (by omega)
  unfold smallQ
  constructor
  · show _ < 1000; omega
  · show _ < 1000; omega
theorem okB {k : Nat} {z : Int} (h : z.natAbs < 10 ^ k) (hk : k ≤ 200) : okz z = true := decide_eq_true (Nat.lt_of_lt_of_le h (Nat.pow_le_pow_right (by decide) hk))
theorem mulB {j k : Nat} {a b : Int} (ha : a.natAbs < 10 ^ j) (hb : b.natAbs < 10 ^ k) : (a * b).natAbs < 10 ^ (j + k) := by
  rw [Int.natAbs_mul, Nat.pow_add]; exact Nat.mul_lt_mul'' ha hb
theorem rmulT (a b z : Int) (hz : a * b = z) (ha : okz a = true) (hb : okz b = true) (hc : okz z = true) : CallT 44 #[strOf (Lib.itoa a), strOf (Lib.itoa b)] (.tuple #[strOf (Lib.itoa z), .int .i64 0]) := fun u _ => by
  subst hz
  have h := rMul_ok a b u ha hb
  unfold TextP at h
  rw [outT_ok hc, errT_ok hc] at h; exact h
theorem make_c (a b : Int) (q : Rat) (hq : Rat.divInt a b = q) (ha : okz a = true) (hb : okz b = true) (h0 : b ≠ 0) : CallT 27 #[strOf (Lib.itoa a), strOf (Lib.itoa b)] (.tuple #[qv q, .int .i64 0]) := by
  rw [← hq]; exact built _ _ _ fun u hu => make_q a b ha hb h0 u hu
theorem val_q (q : Rat) (h : okq q = true) : CallT 29 #[qv q] (.bool true) := by
  have := valid_r (Lib.itoa q.num) (Lib.itoa ((q.den : Nat) : Int))
  rw [vldR_q h] at this; exact this
theorem zero_lit : qv 0 = rvB ⟨#[48]⟩ ⟨#[49]⟩ := q_lit 0 [48] [49] (by decide +kernel) (by decide +kernel)

set_option maxRecDepth 100000 in
set_option maxHeartbeats 4000000 in
theorem lowest_yes (a0 a1 a2 a3 factor : Int) (b0 : -9223372036854775808 ≤ a0 ∧ a0 ≤ 9223372036854775807) (b1 : -9223372036854775808 ≤ a1 ∧ a1 ≤ 9223372036854775807) (b2 : -9223372036854775808 ≤ a2 ∧ a2 ≤ 9223372036854775807) (b3 : -9223372036854775808 ≤ a3 ∧ a3 ≤ 9223372036854775807) (b4 : -9223372036854775808 ≤ factor ∧ factor ≤ 9223372036854775807) (w : World) (ht : TabP w) :
    Calls Tryz.prog 9 #[.agg #[.int .i64 a0, .int .i64 a1, .int .i64 a2, .int .i64 a3], .int .i64 factor, .bool true] w fun e w' => e = .returned (.bool true) ∧ Below w.heap.size w w' := by
  have LO := Lib.hid (long_c a0 a1 a2 a3 b0 b1 b2 b3)
  have hB := longQ_B a0 a1 a2 a3
  generalize longQ a0 a1 a2 a3 = q at *
  have hq := hB.ok (by decide)
  obtain ⟨q1, q2⟩ := okq_iff.1 hq
  have PK := Lib.hid (pickL_any factor 1000000 (by decide) (by decide) b4.1 b4.2)
  have lp := pickN_lt factor 1000000 (by decide)
  generalize pickN factor 1000000 = m at *
  have s1 : IntKind.i64.wrap (1 + (m : Int)) = 1 + (m : Int) := IntWalk.i64_in _ (by omega)
  have s2 : IntKind.i64.wrap (-(1 + (m : Int))) = -(1 + (m : Int)) := IntWalk.i64_in _ (by omega)
  obtain ⟨k, hk⟩ : ∃ k : Int, -(1 + (m : Int)) = k := ⟨_, rfl⟩
  have k0 : k ≠ 0 := by omega
  have kl : -9223372036854775808 ≤ k := by omega
  have ku : k ≤ 9223372036854775807 := by omega
  have kb : k.natAbs < 10 ^ 7 := by show _ < 10000000; omega
  have kok := okB kb (by decide)
  have FI := Lib.hid (fun u => rFromInt_ok k u (by omega) (by omega))
  have M1 := Lib.hid (rmulT q.num k _ rfl q1 kok (okB (mulB hB.1 kb) (by decide)))
  have M2 := Lib.hid (rmulT ((q.den : Nat) : Int) k _ rfl q2 kok (okB (mulB (a := ((q.den : Nat) : Int)) (by rw [Int.natAbs_natCast]; exact hB.2) kb) (by decide)))
  have K1 := Lib.hid (make_c (q.num * k) (((q.den : Nat) : Int) * k) q (by rw [Rat.divInt_mul_right k0, Rat.num_divInt_den]) (okB (mulB hB.1 kb) (by decide)) (okB (mulB (a := ((q.den : Nat) : Int)) (by rw [Int.natAbs_natCast]; exact hB.2) kb) (by decide)) (Int.mul_ne_zero (Qm.den_ne q) k0))
  have K2 := Lib.hid (make_c q.num ((q.den : Nat) : Int) q (Rat.num_divInt_den q) q1 q2 (Qm.den_ne q))
  have K3 : Hid (CallT 27 #[.string ⟨#[48]⟩, strOf (Lib.itoa k)] (.tuple #[rvB ⟨#[48]⟩ ⟨#[49]⟩, .int .i64 0])) := Lib.hid (by rw [← lit0, ← zero_lit]; exact make_c 0 k 0 (Rat.zero_divInt k) ok0 kok k0)
  have VQ := Lib.hid (val_q q hq)
  have CQ := Lib.hid (cmp_q q q hq hq)
  rw [Qm.qcmp_self] at CQ
  have PQ := Lib.hid (print_q q hq)
  have SA := Lib.hid sane_c
  have IS := Lib.hid is_any
  have HT := Lib.hid ht
  obtain ⟨W0, hW0⟩ : ∃ W0, w.alloc (.cells #[.int .i64 a0, .int .i64 a1, .int .i64 a2, .int .i64 a3] 24) = W0 := ⟨_, rfl⟩
  have hbw : Below w.heap.size w W0 := by
    rw [← hW0]
    exact (Below.refl _ _).alloc (Nat.le_refl _) _
  have HP : Hid (Row W0 (w.heap.size) 24 #[.int .i64 a0, .int .i64 a1, .int .i64 a2, .int .i64 a3]) := Lib.hid (by
    rw [← hW0]
    have h := Row.new w 24 #[.int .i64 a0, .int .i64 a1, .int .i64 a2, .int .i64 a3]
    exact h)
  have HW0 := Lib.hid hW0
  have HB := Lib.hid hbw
  have HR := Lib.hid (Bxs.nil W0)
  clear hW0 hbw
  have hk1 : -(1 + (m : Int)) = k := hk
  clear hB hq q1 q2 k0 kb kok lp ht b0 b1 b2 b3 b4 hk
  unfold qv rv strOf rvB at *
  generalize bs (Lib.itoa q.num) = NQ at *
  generalize bs (Lib.itoa ((q.den : Nat) : Int)) = DQ at *
  generalize bs (Lib.itoa (q.num * k)) = NK at *
  generalize bs (Lib.itoa (((q.den : Nat) : Int) * k)) = DK at *
  generalize bs (Lib.itoa k) = BK at *
  generalize bs (qtxt q) = TX at *
  go_enter Tryz.func9, Tryz.ntmps9
  go_wp2_with (first | (go_at_call 11; rw [HW0.out]; (with_reducible refine Calls.mono (SA.out _ (HT.out.next HB.out)) ?_); rintro e w1 ⟨rfl, hb⟩; have hq := HR.out.below hb; have hpHP := HP.out.below hb HP.out.lt; have pHP0 : w1.cell? ⟨w.heap.size, 0, none⟩ = some (.int .i64 a0) := hpHP.cell 0; have pHP1 : w1.cell? ⟨w.heap.size, 1, none⟩ = some (.int .i64 a1) := hpHP.cell 1; have pHP2 : w1.cell? ⟨w.heap.size, 2, none⟩ = some (.int .i64 a2) := hpHP.cell 2; have pHP3 : w1.cell? ⟨w.heap.size, 3, none⟩ = some (.int .i64 a3) := hpHP.cell 3; have lHP : w.heap.size < w1.heap.size := hpHP.lt; replace HP := Lib.hid (hpHP); clear hpHP; replace HR := Lib.hid hq; replace HB := Lib.hid (below_to HB.out hb); clear hb hq) | (go_at_call 13; (with_reducible refine Calls.mono (LO.out _ (HT.out.next HB.out)) ?_); rintro e w2 ⟨rfl, hb⟩; have hq := HR.out.below hb; replace HR := Lib.hid (hq.cons NQ DQ); replace HB := Lib.hid (below_to (below_to HB.out hb) (new_below _ (.cells #[.string NQ, .string DQ] 23))); clear hb hq) | (go_at_call 22; ((with_reducible refine Calls.mono (PK.out _) ?_); rintro e w3 ⟨rfl, rfl⟩)) | (go_at_call 43; (with_reducible refine Calls.mono (FI.out _) ?_); rintro e w4 ⟨rfl, hb⟩; have hq := HR.out.below hb; have x0_0 : w4.cell? ⟨w2.heap.size, 0, none⟩ = some (.string NQ) := (hq.at (x := (w2.heap.size, NQ, DQ)) 0 rfl).cell 0; have x0_1 : w4.cell? ⟨w2.heap.size, 1, none⟩ = some (.string DQ) := (hq.at (x := (w2.heap.size, NQ, DQ)) 0 rfl).cell 1; have y0 : w2.heap.size < w4.heap.size := (hq.at (x := (w2.heap.size, NQ, DQ)) 0 rfl).lt; replace HR := Lib.hid hq; replace HB := Lib.hid (below_to HB.out hb); clear hb hq) | (go_at_call 44; (with_reducible refine Calls.mono (M1.out _ (HT.out.next HB.out)) ?_); rintro e w5 ⟨rfl, hb⟩; have hq := HR.out.below hb; have x0_0 : w5.cell? ⟨w2.heap.size, 0, none⟩ = some (.string NQ) := (hq.at (x := (w2.heap.size, NQ, DQ)) 0 rfl).cell 0; have x0_1 : w5.cell? ⟨w2.heap.size, 1, none⟩ = some (.string DQ) := (hq.at (x := (w2.heap.size, NQ, DQ)) 0 rfl).cell 1; have y0 : w2.heap.size < w5.heap.size := (hq.at (x := (w2.heap.size, NQ, DQ)) 0 rfl).lt; replace HR := Lib.hid hq; replace HB := Lib.hid (below_to HB.out hb); clear hb hq) | (go_at_call 44; (with_reducible refine Calls.mono (M2.out _ (HT.out.next HB.out)) ?_); rintro e w6 ⟨rfl, hb⟩; have hq := HR.out.below hb; have x0_0 : w6.cell? ⟨w2.heap.size, 0, none⟩ = some (.string NQ) := (hq.at (x := (w2.heap.size, NQ, DQ)) 0 rfl).cell 0; have x0_1 : w6.cell? ⟨w2.heap.size, 1, none⟩ = some (.string DQ) := (hq.at (x := (w2.heap.size, NQ, DQ)) 0 rfl).cell 1; have y0 : w2.heap.size < w6.heap.size := (hq.at (x := (w2.heap.size, NQ, DQ)) 0 rfl).lt; replace HR := Lib.hid hq; replace HB := Lib.hid (below_to HB.out hb); clear hb hq) | (go_at_call 27; (with_reducible refine Calls.mono (K1.out _ (HT.out.next HB.out)) ?_); rintro e w7 ⟨rfl, hb⟩; have hq := HR.out.below hb; have x0_0 : w7.cell? ⟨w2.heap.size, 0, none⟩ = some (.string NQ) := (hq.at (x := (w2.heap.size, NQ, DQ)) 0 rfl).cell 0; have x0_1 : w7.cell? ⟨w2.heap.size, 1, none⟩ = some (.string DQ) := (hq.at (x := (w2.heap.size, NQ, DQ)) 0 rfl).cell 1; have y0 : w2.heap.size < w7.heap.size := (hq.at (x := (w2.heap.size, NQ, DQ)) 0 rfl).lt; replace HR := Lib.hid (hq.cons NQ DQ); replace HB := Lib.hid (below_to (below_to HB.out hb) (new_below _ (.cells #[.string NQ, .string DQ] 23))); clear hb hq) | (go_at_call 27; (with_reducible refine Calls.mono (K2.out _ (HT.out.next HB.out)) ?_); rintro e w8 ⟨rfl, hb⟩; have hq := HR.out.below hb; replace HR := Lib.hid (hq.cons NQ DQ); replace HB := Lib.hid (below_to (below_to HB.out hb) (new_below _ (.cells #[.string NQ, .string DQ] 23))); clear hb hq) | (go_at_call 27; (with_reducible refine Calls.mono (K3.out _ (HT.out.next HB.out)) ?_); rintro e w9 ⟨rfl, hb⟩; have hq := HR.out.below hb; replace HR := Lib.hid (hq.cons ⟨#[48]⟩ ⟨#[49]⟩); replace HB := Lib.hid (below_to (below_to HB.out hb) (new_below _ (.cells #[.string ⟨#[48]⟩, .string ⟨#[49]⟩] 23))); clear hb hq))
  obtain ⟨W9, hW9⟩ : ∃ W0, w9.alloc (.cells #[.string ⟨#[48]⟩, .string ⟨#[49]⟩] 23) = W0 := ⟨_, rfl⟩
  rw [hW9] at HR HB ⊢
  clear hW9
  have mkS : Hid (∀ u, Below w.heap.size w u → Bxs u [(w9.heap.size, ⟨#[48]⟩, ⟨#[49]⟩), (w8.heap.size, NQ, DQ), (w7.heap.size, NQ, DQ), (w2.heap.size, NQ, DQ)] → Below w.heap.size w u ∧ Bxs u [(w9.heap.size, ⟨#[48]⟩, ⟨#[49]⟩), (w8.heap.size, NQ, DQ), (w7.heap.size, NQ, DQ), (w2.heap.size, NQ, DQ)] ∧ u.cell? ⟨w7.heap.size, 0, none⟩ = some (.string NQ) ∧ u.cell? ⟨w7.heap.size, 1, none⟩ = some (.string DQ) ∧ u.cell? ⟨w8.heap.size, 0, none⟩ = some (.string NQ) ∧ u.cell? ⟨w8.heap.size, 1, none⟩ = some (.string DQ) ∧ u.cell? ⟨w2.heap.size, 0, none⟩ = some (.string NQ) ∧ u.cell? ⟨w2.heap.size, 1, none⟩ = some (.string DQ) ∧ u.cell? ⟨w9.heap.size, 0, none⟩ = some (.string ⟨#[48]⟩) ∧ u.cell? ⟨w9.heap.size, 1, none⟩ = some (.string ⟨#[49]⟩)) := Lib.hid (fun u h1 h2 => ⟨h1, h2, (h2 (w7.heap.size, NQ, DQ) (by simp)).cell 0, (h2 (w7.heap.size, NQ, DQ) (by simp)).cell 1, (h2 (w8.heap.size, NQ, DQ) (by simp)).cell 0, (h2 (w8.heap.size, NQ, DQ) (by simp)).cell 1, (h2 (w2.heap.size, NQ, DQ) (by simp)).cell 0, (h2 (w2.heap.size, NQ, DQ) (by simp)).cell 1, (h2 (w9.heap.size, ⟨#[48]⟩, ⟨#[49]⟩) (by simp)).cell 0, (h2 (w9.heap.size, ⟨#[48]⟩, ⟨#[49]⟩) (by simp)).cell 1⟩)
  go_region_held3 (fun u => Below w.heap.size w u ∧ Bxs u [(w9.heap.size, ⟨#[48]⟩, ⟨#[49]⟩), (w8.heap.size, NQ, DQ), (w7.heap.size, NQ, DQ), (w2.heap.size, NQ, DQ)] ∧ u.cell? ⟨w7.heap.size, 0, none⟩ = some (.string NQ) ∧ u.cell? ⟨w7.heap.size, 1, none⟩ = some (.string DQ) ∧ u.cell? ⟨w8.heap.size, 0, none⟩ = some (.string NQ) ∧ u.cell? ⟨w8.heap.size, 1, none⟩ = some (.string DQ) ∧ u.cell? ⟨w2.heap.size, 0, none⟩ = some (.string NQ) ∧ u.cell? ⟨w2.heap.size, 1, none⟩ = some (.string DQ) ∧ u.cell? ⟨w9.heap.size, 0, none⟩ = some (.string ⟨#[48]⟩) ∧ u.cell? ⟨w9.heap.size, 1, none⟩ = some (.string ⟨#[49]⟩)) (first | assumption | (exact mkS.out _ HB.out.drew (fun x hx => (HR.out x hx).drew)) | (exact mkS.out _ (below_to (‹Below w.heap.size w _ ∧ Bxs _ _ ∧ _ ∧ _ ∧ _ ∧ _ ∧ _ ∧ _ ∧ _ ∧ _›).1 b5) ((‹Below w.heap.size w _ ∧ Bxs _ _ ∧ _ ∧ _ ∧ _ ∧ _ ∧ _ ∧ _ ∧ _ ∧ _›).2.1.below b5))) (first | (go_at_call 29; ((with_reducible refine Calls.mono (VQ.out _ ?hu) ?_); (case hu => exact HT.out.next (‹Below w.heap.size w _ ∧ Bxs _ _ ∧ _ ∧ _ ∧ _ ∧ _ ∧ _ ∧ _ ∧ _ ∧ _›).1); rintro e v1 ⟨rfl, b5⟩)) | (go_at_call 20; ((with_reducible refine Calls.mono (CQ.out _ ?hu) ?_); (case hu => exact HT.out.next (‹Below w.heap.size w _ ∧ Bxs _ _ ∧ _ ∧ _ ∧ _ ∧ _ ∧ _ ∧ _ ∧ _ ∧ _›).1); rintro e v1 ⟨rfl, b5⟩)) | (go_at_call 41; ((with_reducible refine Calls.mono (IS.out _ _ _ ?hu) ?_); (case hu => exact HT.out.next (‹Below w.heap.size w _ ∧ Bxs _ _ ∧ _ ∧ _ ∧ _ ∧ _ ∧ _ ∧ _ ∧ _ ∧ _›).1); rintro e v1 ⟨rfl, b5⟩)) | (go_at_call 33; ((with_reducible refine Calls.mono (PQ.out _ ?hu) ?_); (case hu => exact HT.out.next (‹Below w.heap.size w _ ∧ Bxs _ _ ∧ _ ∧ _ ∧ _ ∧ _ ∧ _ ∧ _ ∧ _ ∧ _›).1); rintro e v1 ⟨rfl, b5⟩)))
  all_goals
    have HX := Lib.hid (‹Below w.heap.size w _ ∧ Bxs _ _ ∧ _ ∧ _ ∧ _ ∧ _ ∧ _ ∧ _ ∧ _ ∧ _›)
    go_wp2
    go_ret
    exact ⟨rfl, HX.out.1⟩
set_option maxRecDepth 100000 in
set_option maxHeartbeats 4000000 in
theorem lowest_no (a0 a1 a2 a3 factor : Int) (b0 : -9223372036854775808 ≤ a0 ∧ a0 ≤ 9223372036854775807) (b1 : -9223372036854775808 ≤ a1 ∧ a1 ≤ 9223372036854775807) (b2 : -9223372036854775808 ≤ a2 ∧ a2 ≤ 9223372036854775807) (b3 : -9223372036854775808 ≤ a3 ∧ a3 ≤ 9223372036854775807) (b4 : -9223372036854775808 ≤ factor ∧ factor ≤ 9223372036854775807) (w : World) (ht : TabP w) :
    Calls Tryz.prog 9 #[.agg #[.int .i64 a0, .int .i64 a1, .int .i64 a2, .int .i64 a3], .int .i64 factor, .bool false] w fun e w' => e = .returned (.bool true) ∧ Below w.heap.size w w' := by
  have LO := Lib.hid (long_c a0 a1 a2 a3 b0 b1 b2 b3)
  have hB := longQ_B a0 a1 a2 a3
  generalize longQ a0 a1 a2 a3 = q at *
  have hq := hB.ok (by decide)
  obtain ⟨q1, q2⟩ := okq_iff.1 hq
  have PK := Lib.hid (pickL_any factor 1000000 (by decide) (by decide) b4.1 b4.2)
  have lp := pickN_lt factor 1000000 (by decide)
  generalize pickN factor 1000000 = m at *
  have s1 : IntKind.i64.wrap (1 + (m : Int)) = 1 + (m : Int) := IntWalk.i64_in _ (by omega)
  have s2 : IntKind.i64.wrap (-(1 + (m : Int))) = -(1 + (m : Int)) := IntWalk.i64_in _ (by omega)
  obtain ⟨k, hk⟩ : ∃ k : Int, 1 + (m : Int) = k := ⟨_, rfl⟩
  have k0 : k ≠ 0 := by omega
  have kl : -9223372036854775808 ≤ k := by omega
  have ku : k ≤ 9223372036854775807 := by omega
  have kb : k.natAbs < 10 ^ 7 := by show _ < 10000000; omega
  have kok := okB kb (by decide)
  have FI := Lib.hid (fun u => rFromInt_ok k u (by omega) (by omega))
  have M1 := Lib.hid (rmulT q.num k _ rfl q1 kok (okB (mulB hB.1 kb) (by decide)))
  have M2 := Lib.hid (rmulT ((q.den : Nat) : Int) k _ rfl q2 kok (okB (mulB (a := ((q.den : Nat) : Int)) (by rw [Int.natAbs_natCast]; exact hB.2) kb) (by decide)))
  have K1 := Lib.hid (make_c (q.num * k) (((q.den : Nat) : Int) * k) q (by rw [Rat.divInt_mul_right k0, Rat.num_divInt_den]) (okB (mulB hB.1 kb) (by decide)) (okB (mulB (a := ((q.den : Nat) : Int)) (by rw [Int.natAbs_natCast]; exact hB.2) kb) (by decide)) (Int.mul_ne_zero (Qm.den_ne q) k0))
  have K2 := Lib.hid (make_c q.num ((q.den : Nat) : Int) q (Rat.num_divInt_den q) q1 q2 (Qm.den_ne q))
  have K3 : Hid (CallT 27 #[.string ⟨#[48]⟩, strOf (Lib.itoa k)] (.tuple #[rvB ⟨#[48]⟩ ⟨#[49]⟩, .int .i64 0])) := Lib.hid (by rw [← lit0, ← zero_lit]; exact make_c 0 k 0 (Rat.zero_divInt k) ok0 kok k0)
  have VQ := Lib.hid (val_q q hq)
  have CQ := Lib.hid (cmp_q q q hq hq)
  rw [Qm.qcmp_self] at CQ
  have PQ := Lib.hid (print_q q hq)
  have SA := Lib.hid sane_c
  have IS := Lib.hid is_any
  have HT := Lib.hid ht
  obtain ⟨W0, hW0⟩ : ∃ W0, w.alloc (.cells #[.int .i64 a0, .int .i64 a1, .int .i64 a2, .int .i64 a3] 24) = W0 := ⟨_, rfl⟩
  have hbw : Below w.heap.size w W0 := by
    rw [← hW0]
    exact (Below.refl _ _).alloc (Nat.le_refl _) _
  have HP : Hid (Row W0 (w.heap.size) 24 #[.int .i64 a0, .int .i64 a1, .int .i64 a2, .int .i64 a3]) := Lib.hid (by
    rw [← hW0]
    have h := Row.new w 24 #[.int .i64 a0, .int .i64 a1, .int .i64 a2, .int .i64 a3]
    exact h)
  have HW0 := Lib.hid hW0
  have HB := Lib.hid hbw
  have HR := Lib.hid (Bxs.nil W0)
  clear hW0 hbw
  have hk1 : 1 + (m : Int) = k := hk
  clear hB hq q1 q2 k0 kb kok lp ht b0 b1 b2 b3 b4 hk
  unfold qv rv strOf rvB at *
  generalize bs (Lib.itoa q.num) = NQ at *
  generalize bs (Lib.itoa ((q.den : Nat) : Int)) = DQ at *
  generalize bs (Lib.itoa (q.num * k)) = NK at *
  generalize bs (Lib.itoa (((q.den : Nat) : Int) * k)) = DK at *
  generalize bs (Lib.itoa k) = BK at *
  generalize bs (qtxt q) = TX at *
  go_enter Tryz.func9, Tryz.ntmps9
  go_wp2_with (first | (go_at_call 11; rw [HW0.out]; (with_reducible refine Calls.mono (SA.out _ (HT.out.next HB.out)) ?_); rintro e w1 ⟨rfl, hb⟩; have hq := HR.out.below hb; have hpHP := HP.out.below hb HP.out.lt; have pHP0 : w1.cell? ⟨w.heap.size, 0, none⟩ = some (.int .i64 a0) := hpHP.cell 0; have pHP1 : w1.cell? ⟨w.heap.size, 1, none⟩ = some (.int .i64 a1) := hpHP.cell 1; have pHP2 : w1.cell? ⟨w.heap.size, 2, none⟩ = some (.int .i64 a2) := hpHP.cell 2; have pHP3 : w1.cell? ⟨w.heap.size, 3, none⟩ = some (.int .i64 a3) := hpHP.cell 3; have lHP : w.heap.size < w1.heap.size := hpHP.lt; replace HP := Lib.hid (hpHP); clear hpHP; replace HR := Lib.hid hq; replace HB := Lib.hid (below_to HB.out hb); clear hb hq) | (go_at_call 13; (with_reducible refine Calls.mono (LO.out _ (HT.out.next HB.out)) ?_); rintro e w2 ⟨rfl, hb⟩; have hq := HR.out.below hb; replace HR := Lib.hid (hq.cons NQ DQ); replace HB := Lib.hid (below_to (below_to HB.out hb) (new_below _ (.cells #[.string NQ, .string DQ] 23))); clear hb hq) | (go_at_call 22; ((with_reducible refine Calls.mono (PK.out _) ?_); rintro e w3 ⟨rfl, rfl⟩)) | (go_at_call 43; (with_reducible refine Calls.mono (FI.out _) ?_); rintro e w4 ⟨rfl, hb⟩; have hq := HR.out.below hb; have x0_0 : w4.cell? ⟨w2.heap.size, 0, none⟩ = some (.string NQ) := (hq.at (x := (w2.heap.size, NQ, DQ)) 0 rfl).cell 0; have x0_1 : w4.cell? ⟨w2.heap.size, 1, none⟩ = some (.string DQ) := (hq.at (x := (w2.heap.size, NQ, DQ)) 0 rfl).cell 1; have y0 : w2.heap.size < w4.heap.size := (hq.at (x := (w2.heap.size, NQ, DQ)) 0 rfl).lt; replace HR := Lib.hid hq; replace HB := Lib.hid (below_to HB.out hb); clear hb hq) | (go_at_call 44; (with_reducible refine Calls.mono (M1.out _ (HT.out.next HB.out)) ?_); rintro e w5 ⟨rfl, hb⟩; have hq := HR.out.below hb; have x0_0 : w5.cell? ⟨w2.heap.size, 0, none⟩ = some (.string NQ) := (hq.at (x := (w2.heap.size, NQ, DQ)) 0 rfl).cell 0; have x0_1 : w5.cell? ⟨w2.heap.size, 1, none⟩ = some (.string DQ) := (hq.at (x := (w2.heap.size, NQ, DQ)) 0 rfl).cell 1; have y0 : w2.heap.size < w5.heap.size := (hq.at (x := (w2.heap.size, NQ, DQ)) 0 rfl).lt; replace HR := Lib.hid hq; replace HB := Lib.hid (below_to HB.out hb); clear hb hq) | (go_at_call 44; (with_reducible refine Calls.mono (M2.out _ (HT.out.next HB.out)) ?_); rintro e w6 ⟨rfl, hb⟩; have hq := HR.out.below hb; have x0_0 : w6.cell? ⟨w2.heap.size, 0, none⟩ = some (.string NQ) := (hq.at (x := (w2.heap.size, NQ, DQ)) 0 rfl).cell 0; have x0_1 : w6.cell? ⟨w2.heap.size, 1, none⟩ = some (.string DQ) := (hq.at (x := (w2.heap.size, NQ, DQ)) 0 rfl).cell 1; have y0 : w2.heap.size < w6.heap.size := (hq.at (x := (w2.heap.size, NQ, DQ)) 0 rfl).lt; replace HR := Lib.hid hq; replace HB := Lib.hid (below_to HB.out hb); clear hb hq) | (go_at_call 27; (with_reducible refine Calls.mono (K1.out _ (HT.out.next HB.out)) ?_); rintro e w7 ⟨rfl, hb⟩; have hq := HR.out.below hb; have x0_0 : w7.cell? ⟨w2.heap.size, 0, none⟩ = some (.string NQ) := (hq.at (x := (w2.heap.size, NQ, DQ)) 0 rfl).cell 0; have x0_1 : w7.cell? ⟨w2.heap.size, 1, none⟩ = some (.string DQ) := (hq.at (x := (w2.heap.size, NQ, DQ)) 0 rfl).cell 1; have y0 : w2.heap.size < w7.heap.size := (hq.at (x := (w2.heap.size, NQ, DQ)) 0 rfl).lt; replace HR := Lib.hid (hq.cons NQ DQ); replace HB := Lib.hid (below_to (below_to HB.out hb) (new_below _ (.cells #[.string NQ, .string DQ] 23))); clear hb hq) | (go_at_call 27; (with_reducible refine Calls.mono (K2.out _ (HT.out.next HB.out)) ?_); rintro e w8 ⟨rfl, hb⟩; have hq := HR.out.below hb; replace HR := Lib.hid (hq.cons NQ DQ); replace HB := Lib.hid (below_to (below_to HB.out hb) (new_below _ (.cells #[.string NQ, .string DQ] 23))); clear hb hq) | (go_at_call 27; (with_reducible refine Calls.mono (K3.out _ (HT.out.next HB.out)) ?_); rintro e w9 ⟨rfl, hb⟩; have hq := HR.out.below hb; replace HR := Lib.hid (hq.cons ⟨#[48]⟩ ⟨#[49]⟩); replace HB := Lib.hid (below_to (below_to HB.out hb) (new_below _ (.cells #[.string ⟨#[48]⟩, .string ⟨#[49]⟩] 23))); clear hb hq))
  obtain ⟨W9, hW9⟩ : ∃ W0, w9.alloc (.cells #[.string ⟨#[48]⟩, .string ⟨#[49]⟩] 23) = W0 := ⟨_, rfl⟩
  rw [hW9] at HR HB ⊢
  clear hW9
  have mkS : Hid (∀ u, Below w.heap.size w u → Bxs u [(w9.heap.size, ⟨#[48]⟩, ⟨#[49]⟩), (w8.heap.size, NQ, DQ), (w7.heap.size, NQ, DQ), (w2.heap.size, NQ, DQ)] → Below w.heap.size w u ∧ Bxs u [(w9.heap.size, ⟨#[48]⟩, ⟨#[49]⟩), (w8.heap.size, NQ, DQ), (w7.heap.size, NQ, DQ), (w2.heap.size, NQ, DQ)] ∧ u.cell? ⟨w7.heap.size, 0, none⟩ = some (.string NQ) ∧ u.cell? ⟨w7.heap.size, 1, none⟩ = some (.string DQ) ∧ u.cell? ⟨w8.heap.size, 0, none⟩ = some (.string NQ) ∧ u.cell? ⟨w8.heap.size, 1, none⟩ = some (.string DQ) ∧ u.cell? ⟨w2.heap.size, 0, none⟩ = some (.string NQ) ∧ u.cell? ⟨w2.heap.size, 1, none⟩ = some (.string DQ) ∧ u.cell? ⟨w9.heap.size, 0, none⟩ = some (.string ⟨#[48]⟩) ∧ u.cell? ⟨w9.heap.size, 1, none⟩ = some (.string ⟨#[49]⟩)) := Lib.hid (fun u h1 h2 => ⟨h1, h2, (h2 (w7.heap.size, NQ, DQ) (by simp)).cell 0, (h2 (w7.heap.size, NQ, DQ) (by simp)).cell 1, (h2 (w8.heap.size, NQ, DQ) (by simp)).cell 0, (h2 (w8.heap.size, NQ, DQ) (by simp)).cell 1, (h2 (w2.heap.size, NQ, DQ) (by simp)).cell 0, (h2 (w2.heap.size, NQ, DQ) (by simp)).cell 1, (h2 (w9.heap.size, ⟨#[48]⟩, ⟨#[49]⟩) (by simp)).cell 0, (h2 (w9.heap.size, ⟨#[48]⟩, ⟨#[49]⟩) (by simp)).cell 1⟩)
  go_region_held3 (fun u => Below w.heap.size w u ∧ Bxs u [(w9.heap.size, ⟨#[48]⟩, ⟨#[49]⟩), (w8.heap.size, NQ, DQ), (w7.heap.size, NQ, DQ), (w2.heap.size, NQ, DQ)] ∧ u.cell? ⟨w7.heap.size, 0, none⟩ = some (.string NQ) ∧ u.cell? ⟨w7.heap.size, 1, none⟩ = some (.string DQ) ∧ u.cell? ⟨w8.heap.size, 0, none⟩ = some (.string NQ) ∧ u.cell? ⟨w8.heap.size, 1, none⟩ = some (.string DQ) ∧ u.cell? ⟨w2.heap.size, 0, none⟩ = some (.string NQ) ∧ u.cell? ⟨w2.heap.size, 1, none⟩ = some (.string DQ) ∧ u.cell? ⟨w9.heap.size, 0, none⟩ = some (.string ⟨#[48]⟩) ∧ u.cell? ⟨w9.heap.size, 1, none⟩ = some (.string ⟨#[49]⟩)) (first | assumption | (exact mkS.out _ HB.out.drew (fun x hx => (HR.out x hx).drew)) | (exact mkS.out _ (below_to (‹Below w.heap.size w _ ∧ Bxs _ _ ∧ _ ∧ _ ∧ _ ∧ _ ∧ _ ∧ _ ∧ _ ∧ _›).1 b5) ((‹Below w.heap.size w _ ∧ Bxs _ _ ∧ _ ∧ _ ∧ _ ∧ _ ∧ _ ∧ _ ∧ _ ∧ _›).2.1.below b5))) (first | (go_at_call 29; ((with_reducible refine Calls.mono (VQ.out _ ?hu) ?_); (case hu => exact HT.out.next (‹Below w.heap.size w _ ∧ Bxs _ _ ∧ _ ∧ _ ∧ _ ∧ _ ∧ _ ∧ _ ∧ _ ∧ _›).1); rintro e v1 ⟨rfl, b5⟩)) | (go_at_call 20; ((with_reducible refine Calls.mono (CQ.out _ ?hu) ?_); (case hu => exact HT.out.next (‹Below w.heap.size w _ ∧ Bxs _ _ ∧ _ ∧ _ ∧ _ ∧ _ ∧ _ ∧ _ ∧ _ ∧ _›).1); rintro e v1 ⟨rfl, b5⟩)) | (go_at_call 41; ((with_reducible refine Calls.mono (IS.out _ _ _ ?hu) ?_); (case hu => exact HT.out.next (‹Below w.heap.size w _ ∧ Bxs _ _ ∧ _ ∧ _ ∧ _ ∧ _ ∧ _ ∧ _ ∧ _ ∧ _›).1); rintro e v1 ⟨rfl, b5⟩)) | (go_at_call 33; ((with_reducible refine Calls.mono (PQ.out _ ?hu) ?_); (case hu => exact HT.out.next (‹Below w.heap.size w _ ∧ Bxs _ _ ∧ _ ∧ _ ∧ _ ∧ _ ∧ _ ∧ _ ∧ _ ∧ _›).1); rintro e v1 ⟨rfl, b5⟩)))
  all_goals
    have HX := Lib.hid (‹Below w.heap.size w _ ∧ Bxs _ _ ∧ _ ∧ _ ∧ _ ∧ _ ∧ _ ∧ _ ∧ _ ∧ _›)
    go_wp2
    go_ret
    exact ⟨rfl, HX.out.1⟩
theorem lowest_walk (a0 a1 a2 a3 factor : Int) (sign : Bool) (b0 : -9223372036854775808 ≤ a0 ∧ a0 ≤ 9223372036854775807) (b1 : -9223372036854775808 ≤ a1 ∧ a1 ≤ 9223372036854775807) (b2 : -9223372036854775808 ≤ a2 ∧ a2 ≤ 9223372036854775807) (b3 : -9223372036854775808 ≤ a3 ∧ a3 ≤ 9223372036854775807) (b4 : -9223372036854775808 ≤ factor ∧ factor ≤ 9223372036854775807) (w : World) (ht : TabP w) :
    Calls Tryz.prog 9 #[.agg #[.int .i64 a0, .int .i64 a1, .int .i64 a2, .int .i64 a3], .int .i64 factor, .bool sign] w fun e w' => e = .returned (.bool true) ∧ Below w.heap.size w w' := by
  cases sign
  · exact lowest_no a0 a1 a2 a3 factor b0 b1 b2 b3 b4 w ht
  · exact lowest_yes a0 a1 a2 a3 factor b0 b1 b2 b3 b4 w ht
end Go.Proofs.YtabkodpjhpjgnaaGreatDoor
