/- The walk of RationalLimits. -/
import Derived.Test.YtabkodpjhpjgnaaGreatDoorX2
namespace Go.Proofs.YtabkodpjhpjgnaaGreatDoor
open Go.RowKit Go.Shelf

/-- Ten to a power, as a fraction; and the fraction of one by it. -/
def tenQ (p : Nat) : Rat := Rat.divInt ((10 ^ p : Nat) : Int) 1
theorem tenQ_num (p : Nat) : (tenQ p).num = ((10 ^ p : Nat) : Int) := (of_int_num _).1
theorem tenQ_den (p : Nat) : (((tenQ p).den : Nat) : Int) = 1 := (of_int_num _).2
theorem tenQ_ok {p : Nat} (h : p < 200) : okq (tenQ p) = true := okq_iff.2 ⟨by rw [tenQ_num]; exact ok_ten h, by rw [tenQ_den]; exact ok1⟩
theorem tenQ_val (p : Nat) : qv (tenQ p) = rvB (bs (49 :: zer p)) ⟨#[49]⟩ := by
  unfold qv rv strOf rvB
  rw [tenQ_num, tenQ_den, ten_text, show Lib.itoa 1 = [49] from by decide +kernel]; rfl
theorem one_by (q : Nat) : (1 / tenQ q).num = 1 ∧ (((1 / tenQ q).den : Nat) : Int) = ((10 ^ q : Nat) : Int) := by
  have hp : 0 < 10 ^ q := Nat.pow_pos (by decide)
  obtain ⟨r, h1, h2⟩ := Qm.of_coprime 1 ((10 ^ q : Nat) : Int) (by omega) (by rw [Int.natAbs_one, Nat.gcd_one_left])
  have : 1 / tenQ q = r := by
    rw [← Qm.div_eq, tenQ_num, tenQ_den]
    rw [show (1 : Rat).num = 1 from rfl, show (((1 : Rat).den : Nat) : Int) = 1 from rfl, Int.mul_one, Int.one_mul, ← h1, ← h2, Rat.num_divInt_den]
  rw [this]; exact ⟨h1, h2⟩
theorem ten_fits (p q : Nat) : okz (((10 ^ p : Nat) : Int) * ((10 ^ q : Nat) : Int)) = decide (p + q < 200) := by
  rw [← Int.natCast_mul, ← Nat.pow_add]
  unfold okz
  rw [Int.natAbs_natCast]
  by_cases h : p + q < 200
  · rw [decide_eq_true h]; exact decide_eq_true (Nat.pow_lt_pow_right (by decide) h)
  · rw [decide_eq_false h]; exact decide_eq_false (Nat.not_lt.2 (Nat.pow_le_pow_right (by decide) (by omega)))
theorem ten_fits1 (p q : Nat) : (okz (((10 ^ p : Nat) : Int) * ((10 ^ q : Nat) : Int)) && okz (((10 ^ p : Nat) : Int) * ((10 ^ q : Nat) : Int) + 1)) = decide (p + q < 200) := by
  by_cases h : p + q < 200
  · rw [ten_fits, decide_eq_true h, Bool.true_and]
    rw [← Int.natCast_mul, ← Nat.pow_add]
    refine decide_eq_true ?_
    have h1 : (10 : Nat) ^ (p + q) ≤ 10 ^ 199 := Nat.pow_le_pow_right (by decide) (by omega)
    have h2 : (10 : Nat) ^ 199 + 1 < 10 ^ 200 := by decide +kernel
    generalize 10 ^ (p + q) = c at *
    rw [show (((c : Nat) : Int) + 1).natAbs = c + 1 from by omega]
    exact Nat.lt_of_le_of_lt (Nat.succ_le_succ h1) h2
  · rw [ten_fits, decide_eq_false h, Bool.false_and]
theorem mulF_ten (p q : Nat) : mulF (tenQ p) (tenQ q) = decide (p + q < 200) := by
  unfold mulF
  rw [tenQ_num, tenQ_num, tenQ_den, tenQ_den, ten_fits, Int.mul_one, ok1, Bool.and_true]
theorem addF_ten (p q : Nat) (hq : q < 200) : addF (tenQ p) (1 / tenQ q) = decide (p + q < 200) := by
  obtain ⟨h1, h2⟩ := one_by q
  unfold addF
  rw [tenQ_num, tenQ_den, h1, h2, Int.one_mul, ok_ten hq, Int.one_mul, ok1, Bool.and_true, Bool.true_and]
  exact ten_fits1 p q
theorem divF_ten (q : Nat) (hq : q < 200) : divF 1 (tenQ q) = true := by
  unfold divF
  have hz : tenQ q ≠ 0 := fun e => by
    have h := tenQ_num q
    rw [e] at h
    have hp : 0 < 10 ^ q := Nat.pow_pos (by decide)
    have : ((0 : Rat).num) = 0 := rfl
    omega
  rw [tenQ_num, tenQ_den, show (1 : Rat).num = 1 from rfl, show (((1 : Rat).den : Nat) : Int) = 1 from rfl, Int.mul_one, Int.one_mul, ok1, ok_ten hq, decide_eq_false hz]; rfl
theorem cmp_ten (p q : Nat) : Qm.qcmp (tenQ p) (tenQ q) = if p < q then -1 else if q < p then 1 else 0 := by
  unfold Qm.qcmp Qm.cmp4
  rw [tenQ_num, tenQ_num, tenQ_den, tenQ_den, Int.mul_one, Int.mul_one]
  have h1 : (((10 ^ p : Nat) : Int) < ((10 ^ q : Nat) : Int)) ↔ p < q := by rw [Int.ofNat_lt]; exact Nat.pow_lt_pow_iff_right (by decide)
  have h2 : (((10 ^ q : Nat) : Int) < ((10 ^ p : Nat) : Int)) ↔ q < p := by rw [Int.ofNat_lt]; exact Nat.pow_lt_pow_iff_right (by decide)
  by_cases a : p < q
  · rw [if_pos a, if_pos (h1.2 a)]
  · rw [if_neg a, if_neg (fun h => a (h1.1 h))]
    by_cases b : q < p
    · rw [if_pos b, if_pos (h2.2 b)]
    · rw [if_neg b, if_neg (fun h => b (h2.1 h))]
theorem cmp_small (p q : Nat) : Qm.qcmp (tenQ p) (1 / tenQ q) = if p = 0 ∧ q = 0 then 0 else 1 := by
  obtain ⟨h1, h2⟩ := one_by q
  unfold Qm.qcmp Qm.cmp4
  rw [tenQ_num, tenQ_den, h1, h2, Int.mul_one]
  rw [← Int.natCast_mul, ← Nat.pow_add]
  have hp : 0 < 10 ^ (p + q) := Nat.pow_pos (by decide)
  rw [if_neg (by omega)]
  by_cases h : p = 0 ∧ q = 0
  · rw [if_pos h, h.1, h.2]; rfl
  · rw [if_neg h]
    have : 10 ^ 1 ≤ 10 ^ (p + q) := Nat.pow_le_pow_right (by decide) (by omega)
    rw [if_pos (by omega)]
theorem zer_next (k : Nat) : bs (49 :: zer k) ++ ⟨#[48]⟩ = bs (49 :: zer (k + 1)) := by
  rw [show (⟨#[48]⟩ : ByteArray) = bs [48] from rfl, bs_append]
  congr 1
  unfold zer
  rw [List.cons_append, List.replicate_succ']
theorem zer_size (k : Nat) : (bs (49 :: zer k)).size = k + 1 := by rw [bs_size]; unfold zer; simp

set_option maxRecDepth 100000 in
set_option maxHeartbeats 4000000 in
theorem limits_walk (n m : Int) (bn : -9223372036854775808 ≤ n ∧ n ≤ 9223372036854775807) (bm : -9223372036854775808 ≤ m ∧ m ≤ 9223372036854775807) (w : World) (ht : TabP w) :
    Calls Tryz.prog 10 #[.int .i64 n, .int .i64 m] w fun e w' => e = .returned (.bool true) ∧ Below w.heap.size w w' := by
  have P1 := Lib.hid (pickL_any n 200 (by decide) (by decide) bn.1 bn.2)
  have P2 := Lib.hid (pickL_any m 200 (by decide) (by decide) bm.1 bm.2)
  have lp := pickN_lt n 200 (by decide)
  have lq := pickN_lt m 200 (by decide)
  generalize pickN n 200 = p at *
  generalize pickN m 200 = q at *
  have hX := tenQ_ok lp
  have hY := tenQ_ok lq
  have hs : okq (1 / tenQ q) = true := okq_iff.2 ⟨by rw [(one_by q).1]; exact ok1, by rw [(one_by q).2]; exact ok_ten lq⟩
  obtain ⟨S1, T1, e1, q1, c1⟩ := mul_out _ _ hX hY
  obtain ⟨S3, T3, e3, q3, c3⟩ := add_out _ _ hX hs
  rw [tenQ_val, tenQ_val] at c1
  rw [tenQ_val] at c3
  rw [mulF_ten] at q1
  rw [addF_ten p q lq] at q3
  have DV : Hid (CallT 45 #[rvB ⟨#[49]⟩ ⟨#[49]⟩, rvB (bs (49 :: zer q)) ⟨#[49]⟩] (.tuple #[qv (1 / tenQ q), .int .i64 0])) := Lib.hid (by
    rw [← tenQ_val, ← show qv 1 = rvB ⟨#[49]⟩ ⟨#[49]⟩ from q_lit 1 [49] [49] (by decide +kernel) (by decide +kernel)]
    refine built _ _ _ fun u hu => ?_
    have h := div_q 1 (tenQ q) ok_one hY u hu
    rw [divF_ten q lq] at h; exact h)
  have KA : Hid (CallT 20 #[rvB (bs (49 :: zer p)) ⟨#[49]⟩, rvB (bs (49 :: zer q)) ⟨#[49]⟩] (.int .i64 (if p < q then -1 else if q < p then 1 else 0))) := Lib.hid (by rw [← tenQ_val, ← tenQ_val, ← cmp_ten]; exact cmp_q _ _ hX hY)
  have KB : Hid (CallT 20 #[rvB (bs (49 :: zer p)) ⟨#[49]⟩, qv (1 / tenQ q)] (.int .i64 (if p = 0 ∧ q = 0 then 0 else 1))) := Lib.hid (by rw [← tenQ_val, ← cmp_small]; exact cmp_q _ _ hX hs)
  have O1 := Lib.hid c1; have O3 := Lib.hid c3
  have F1 : Hid (p + q < 200 → e1 = 0) := Lib.hid (fun h => (q1.yes (decide_eq_true h)).2)
  have F3 : Hid (p + q < 200 → e3 = 0) := Lib.hid (fun h => (q3.yes (decide_eq_true h)).2)
  have N1 : Hid (¬ p + q < 200 → S1 = ⟨#[]⟩ ∧ T1 = ⟨#[]⟩ ∧ e1 = 40) := Lib.hid (fun h => q1.no (decide_eq_false h))
  have N3 : Hid (¬ p + q < 200 → S3 = ⟨#[]⟩ ∧ T3 = ⟨#[]⟩ ∧ e3 = 40) := Lib.hid (fun h => q3.no (decide_eq_false h))
  have SA := Lib.hid sane_c
  have IS := Lib.hid is_any
  have HT := Lib.hid ht
  have HB := Lib.hid (Below.refl w.heap.size w)
  have HR := Lib.hid (Bxs.nil w)
  clear c1 c3 q1 q3 hX hY hs ht bn bm
  obtain ⟨ka, hka⟩ : ∃ k, (if p < q then -1 else if q < p then (1 : Int) else 0) = k := ⟨_, rfl⟩
  obtain ⟨kb, hkb⟩ : ∃ k, (if p = 0 ∧ q = 0 then (0 : Int) else 1) = k := ⟨_, rfl⟩
  rw [hka] at KA
  rw [hkb] at KB
  have HA : Hid ((p < q ∧ ka = -1) ∨ (q < p ∧ ka = 1) ∨ (p = q ∧ ka = 0)) := Lib.hid (by
    rw [← hka]; split
    · exact .inl ⟨by assumption, rfl⟩
    · split
      · exact .inr (.inl ⟨by assumption, rfl⟩)
      · exact .inr (.inr ⟨by omega, rfl⟩))
  have HKB : Hid ((p = 0 ∧ q = 0 ∧ kb = 0) ∨ (¬ (p = 0 ∧ q = 0) ∧ kb = 1)) := Lib.hid (by
    rw [← hkb]; split
    · rename_i h; exact .inl ⟨h.1, h.2, rfl⟩
    · exact .inr ⟨by assumption, rfl⟩)
  clear hka hkb
  unfold qv rv strOf rvB at *
  generalize bs (Lib.itoa (1 / tenQ q).num) = NS at *
  generalize bs (Lib.itoa (((1 / tenQ q).den : Nat) : Int)) = DS at *
  go_enter Tryz.func10, Tryz.ntmps10
  go_wp2_with (first | (go_at_call 11; (with_reducible refine Calls.mono (SA.out _ (HT.out.next HB.out)) ?_); rintro e w1 ⟨rfl, hb⟩; have hq := HR.out.below hb; replace HR := Lib.hid hq; replace HB := Lib.hid (below_to HB.out hb); clear hb hq) | (go_at_call 22; ((with_reducible refine Calls.mono (P1.out _) ?_); rintro e w2 ⟨rfl, rfl⟩)) | (go_at_call 22; ((with_reducible refine Calls.mono (P2.out _) ?_); rintro e w3 ⟨rfl, rfl⟩)))
  go_loop [6, 7] (fun s i => ∃ k : Nat, k ≤ p ∧ s = .string (bs (49 :: zer k)) ∧ i = .int .i64 (k : Int)) (fun _ i => p - (intOf i).toNat)
  case atStart => exact ⟨0, Nat.zero_le _, rfl, rfl⟩
  case round =>
    obtain ⟨k, hk, rfl, rfl⟩ := hrel
    by_cases hlt : k < p
    · have hz := zer_size k
      have HN := Lib.hid (zer_next k)
      have k1 : ¬ ((bs (49 :: zer k)).size + (⟨#[48]⟩ : ByteArray).size > 9223372036854775807) := by rw [hz]; show ¬ (k + 1 + 1 > _); omega
      have k2 : ¬ (9223372036854775807 < (bs (49 :: zer k)).size + 1) := by omega
      clear hz
      generalize bs (49 :: zer k) = S at *
      go_wp2
      go_round
      case rel => exact ⟨k + 1, by omega, by rw [HN.out], by go_num⟩
      case measure => simp [intOf]; omega
    · obtain rfl : p = k := by omega
      clear hk
      go_wp2
      go_loop [8, 9] (fun s i => ∃ k : Nat, k ≤ q ∧ s = .string (bs (49 :: zer k)) ∧ i = .int .i64 (k : Int)) (fun _ i => q - (intOf i).toNat)
      case atStart => exact ⟨0, Nat.zero_le _, rfl, rfl⟩
      case round =>
        obtain ⟨k, hk, rfl, rfl⟩ := hrel
        by_cases hlt : k < q
        · have hz := zer_size k
          have HN := Lib.hid (zer_next k)
          have k1 : ¬ ((bs (49 :: zer k)).size + (⟨#[48]⟩ : ByteArray).size > 9223372036854775807) := by rw [hz]; show ¬ (k + 1 + 1 > _); omega
          have k2 : ¬ (9223372036854775807 < (bs (49 :: zer k)).size + 1) := by omega
          clear hz
          generalize bs (49 :: zer k) = S at *
          go_wp2
          go_round
          case rel => exact ⟨k + 1, by omega, by rw [HN.out], by go_num⟩
          case measure => simp [intOf]; omega
        · obtain rfl : q = k := by omega
          clear hk
          generalize bs (49 :: zer p) = BX at *
          generalize bs (49 :: zer q) = BY at *
          go_upto_region 17 with (first | (go_at_call 41; (with_reducible refine Calls.mono (IS.out BX _ _ (HT.out.next HB.out)) ?_); rintro e w6 ⟨rfl, hb⟩; have hq := HR.out.below hb; replace HR := Lib.hid (hq.cons BX ⟨#[49]⟩); replace HB := Lib.hid (below_to (below_to HB.out hb) (new_below _ (.cells #[.string BX, .string ⟨#[49]⟩] 23))); clear hb hq) | (go_at_call 41; (with_reducible refine Calls.mono (IS.out BY _ _ (HT.out.next HB.out)) ?_); rintro e w7 ⟨rfl, hb⟩; have hq := HR.out.below hb; have x0_0 : w7.cell? ⟨w6.heap.size, 0, none⟩ = some (.string BX) := (hq.at (x := (w6.heap.size, BX, ⟨#[49]⟩)) 0 rfl).cell 0; have x0_1 : w7.cell? ⟨w6.heap.size, 1, none⟩ = some (.string ⟨#[49]⟩) := (hq.at (x := (w6.heap.size, BX, ⟨#[49]⟩)) 0 rfl).cell 1; have y0 : w6.heap.size < w7.heap.size := (hq.at (x := (w6.heap.size, BX, ⟨#[49]⟩)) 0 rfl).lt; replace HR := Lib.hid (hq.cons BY ⟨#[49]⟩); replace HB := Lib.hid (below_to (below_to HB.out hb) (new_below _ (.cells #[.string BY, .string ⟨#[49]⟩] 23))); clear hb hq) | (go_at_call 39; (with_reducible refine Calls.mono (O1.out _ (HT.out.next HB.out)) ?_); rintro e w8 ⟨rfl, hb⟩; have hq := HR.out.below hb; have x0_0 : w8.cell? ⟨w7.heap.size, 0, none⟩ = some (.string BY) := (hq.at (x := (w7.heap.size, BY, ⟨#[49]⟩)) 0 rfl).cell 0; have x0_1 : w8.cell? ⟨w7.heap.size, 1, none⟩ = some (.string ⟨#[49]⟩) := (hq.at (x := (w7.heap.size, BY, ⟨#[49]⟩)) 0 rfl).cell 1; have y0 : w7.heap.size < w8.heap.size := (hq.at (x := (w7.heap.size, BY, ⟨#[49]⟩)) 0 rfl).lt; have x1_0 : w8.cell? ⟨w6.heap.size, 0, none⟩ = some (.string BX) := (hq.at (x := (w6.heap.size, BX, ⟨#[49]⟩)) 1 rfl).cell 0; have x1_1 : w8.cell? ⟨w6.heap.size, 1, none⟩ = some (.string ⟨#[49]⟩) := (hq.at (x := (w6.heap.size, BX, ⟨#[49]⟩)) 1 rfl).cell 1; have y1 : w6.heap.size < w8.heap.size := (hq.at (x := (w6.heap.size, BX, ⟨#[49]⟩)) 1 rfl).lt; replace HR := Lib.hid (hq.cons S1 T1); replace HB := Lib.hid (below_to (below_to HB.out hb) (new_below _ (.cells #[.string S1, .string T1] 23))); clear hb hq))
          obtain ⟨W8, hW8⟩ : ∃ W0, w8.alloc (.cells #[.string S1, .string T1] 23) = W0 := ⟨_, rfl⟩
          rw [hW8] at HR HB ⊢
          clear hW8
          go_cut [14, 15] (fun sb se wx => ∃ g, sb = .pointer (some ⟨g, 0, none⟩) ∧ se = .int .i64 0 ∧ Hid (Bxs wx ((g, NS, DS) :: [(w8.heap.size, S1, T1), (w7.heap.size, BY, ⟨#[49]⟩), (w6.heap.size, BX, ⟨#[49]⟩)])) ∧ Hid (Below w.heap.size w wx))
          case first =>
            have HRd : Hid (Bxs W8.drew [(w8.heap.size, S1, T1), (w7.heap.size, BY, ⟨#[49]⟩), (w6.heap.size, BX, ⟨#[49]⟩)]) := Lib.hid (fun x hx => (HR.out x hx).drew)
            have HBd : Hid (Below w.heap.size w W8.drew) := Lib.hid HB.out.drew
            have mkS : Hid (∀ u, Below w.heap.size w u → Bxs u [(w8.heap.size, S1, T1), (w7.heap.size, BY, ⟨#[49]⟩), (w6.heap.size, BX, ⟨#[49]⟩)] → Below w.heap.size w u ∧ Bxs u [(w8.heap.size, S1, T1), (w7.heap.size, BY, ⟨#[49]⟩), (w6.heap.size, BX, ⟨#[49]⟩)] ∧ u.cell? ⟨w7.heap.size, 0, none⟩ = some (.string BY) ∧ u.cell? ⟨w7.heap.size, 1, none⟩ = some (.string ⟨#[49]⟩)) := Lib.hid (fun u h1 h2 => ⟨h1, h2, (h2 (w7.heap.size, BY, ⟨#[49]⟩) (by simp)).cell 0, (h2 (w7.heap.size, BY, ⟨#[49]⟩) (by simp)).cell 1⟩)
            go_region_held3 (fun u => Below w.heap.size w u ∧ Bxs u [(w8.heap.size, S1, T1), (w7.heap.size, BY, ⟨#[49]⟩), (w6.heap.size, BX, ⟨#[49]⟩)] ∧ u.cell? ⟨w7.heap.size, 0, none⟩ = some (.string BY) ∧ u.cell? ⟨w7.heap.size, 1, none⟩ = some (.string ⟨#[49]⟩)) (first | assumption | (exact mkS.out _ HBd.out HRd.out) | (exact mkS.out _ (below_to (‹Below w.heap.size w _ ∧ Bxs _ _ ∧ _ ∧ _›).1 b5) ((‹Below w.heap.size w _ ∧ Bxs _ _ ∧ _ ∧ _›).2.1.below b5)) | (exact mkS.out _ (below_to (‹Below w.heap.size w _ ∧ Bxs _ _ ∧ _ ∧ _›).1 (new_below _ _)) ((‹Below w.heap.size w _ ∧ Bxs _ _ ∧ _ ∧ _›).2.1.below (new_below _ _))) | (exact mkS.out _ (below_to HBv2.out (new_below _ _)) (HRv2.out.below (new_below _ _))) | (exact mkS.out _ (put_below HB.out HBv2.out) (HRv2.out.far HR.out)) | (exact mkS.out _ (put_below HBv1.out HBv2.out) (HRv2.out.far HRv1.out))) (first | (go_at_call 41; ((with_reducible refine Calls.mono (IS.out _ _ _ ?hu) ?_); (case hu => exact HT.out.next (‹Below w.heap.size w _ ∧ Bxs _ _ ∧ _ ∧ _›).1); rintro e v1 ⟨rfl, b5⟩); have bb1 := Lib.hid b5; have HBv1 := Lib.hid (below_to (‹Below w.heap.size w _ ∧ Bxs _ _ ∧ _ ∧ _›).1 b5); have HRv1 := Lib.hid ((‹Below w.heap.size w _ ∧ Bxs _ _ ∧ _ ∧ _›).2.1.below b5); (try (have hrb : Row v1 W8.heap.size 23 #[.string ⟨#[]⟩, .string ⟨#[]⟩] := new_row (u := W8.drew) b5; have RB0_1 := Lib.hid hrb; clear hrb))) | (go_at_call 45; ((with_reducible refine Calls.mono (DV.out _ ?hu) ?_); (case hu => exact HT.out.next (‹Below w.heap.size w _ ∧ Bxs _ _ ∧ _ ∧ _›).1); rintro e v2 ⟨rfl, b5⟩); have bb2 := Lib.hid b5; have HBv2 := Lib.hid (below_to (‹Below w.heap.size w _ ∧ Bxs _ _ ∧ _ ∧ _›).1 b5); have HRv2 := Lib.hid ((‹Below w.heap.size w _ ∧ Bxs _ _ ∧ _ ∧ _›).2.1.below b5); (try (have hrb : Row v2 W8.heap.size 23 #[.string ⟨#[]⟩, .string ⟨#[]⟩] := RB0_1.out.below b5 RB0_1.out.lt; have RB0_2 := Lib.hid hrb; obtain ⟨z0, z1, z2, z3⟩ := rat_facts hrb; clear hrb)); (try (have hrb : Row v2 v1.heap.size 23 #[.string ⟨#[]⟩, .string ⟨#[]⟩] := new_row (u := v1) b5; have RB1_2 := Lib.hid hrb; obtain ⟨z0, z1, z2, z3⟩ := rat_facts hrb; clear hrb))))
            all_goals
              have HX := Lib.hid (‹Below w.heap.size w _ ∧ Bxs _ _ ∧ _ ∧ _›)
              go_wp2_with fail
              go_meet
              first | (exact ⟨_, rfl, rfl, Lib.hid (Bxs.put HX.out.2.1 (Row.new v2 _ _)), Lib.hid HX.out.1⟩) | (exact ⟨_, rfl, rfl, Lib.hid (Bxs.put HX.out.2.1 (rat_row RB0_2.out)), Lib.hid HX.out.1⟩) | (exact ⟨_, rfl, rfl, Lib.hid (Bxs.put HX.out.2.1 (rat_row RB1_2.out)), Lib.hid HX.out.1⟩)
          case rest =>
            obtain ⟨g, rfl, rfl, HR6, HB6⟩ := hcut
            replace HR := HR6
            replace HB := HB6
            clear HR6 HB6 O1 DV P1 P2
            have x0_0 : wc.cell? ⟨g, 0, none⟩ = some (.string NS) := (HR.out.at (x := (g, NS, DS)) 0 rfl).cell 0
            have x0_1 : wc.cell? ⟨g, 1, none⟩ = some (.string DS) := (HR.out.at (x := (g, NS, DS)) 0 rfl).cell 1
            have y0 : g < wc.heap.size := (HR.out.at (x := (g, NS, DS)) 0 rfl).lt
            have x3_0 : wc.cell? ⟨w6.heap.size, 0, none⟩ = some (.string BX) := (HR.out.at (x := (w6.heap.size, BX, ⟨#[49]⟩)) 3 rfl).cell 0
            have x3_1 : wc.cell? ⟨w6.heap.size, 1, none⟩ = some (.string ⟨#[49]⟩) := (HR.out.at (x := (w6.heap.size, BX, ⟨#[49]⟩)) 3 rfl).cell 1
            have y3 : w6.heap.size < wc.heap.size := (HR.out.at (x := (w6.heap.size, BX, ⟨#[49]⟩)) 3 rfl).lt
            go_upto_region 19 with (first | (go_at_call 38; (with_reducible refine Calls.mono (O3.out _ (HT.out.next HB.out)) ?_); rintro e w10 ⟨rfl, hb⟩; have hq := HR.out.below hb; have x0_0 : w10.cell? ⟨g, 0, none⟩ = some (.string NS) := (hq.at (x := (g, NS, DS)) 0 rfl).cell 0; have x0_1 : w10.cell? ⟨g, 1, none⟩ = some (.string DS) := (hq.at (x := (g, NS, DS)) 0 rfl).cell 1; have y0 : g < w10.heap.size := (hq.at (x := (g, NS, DS)) 0 rfl).lt; have x1_0 : w10.cell? ⟨w8.heap.size, 0, none⟩ = some (.string S1) := (hq.at (x := (w8.heap.size, S1, T1)) 1 rfl).cell 0; have x1_1 : w10.cell? ⟨w8.heap.size, 1, none⟩ = some (.string T1) := (hq.at (x := (w8.heap.size, S1, T1)) 1 rfl).cell 1; have y1 : w8.heap.size < w10.heap.size := (hq.at (x := (w8.heap.size, S1, T1)) 1 rfl).lt; have x2_0 : w10.cell? ⟨w7.heap.size, 0, none⟩ = some (.string BY) := (hq.at (x := (w7.heap.size, BY, ⟨#[49]⟩)) 2 rfl).cell 0; have x2_1 : w10.cell? ⟨w7.heap.size, 1, none⟩ = some (.string ⟨#[49]⟩) := (hq.at (x := (w7.heap.size, BY, ⟨#[49]⟩)) 2 rfl).cell 1; have y2 : w7.heap.size < w10.heap.size := (hq.at (x := (w7.heap.size, BY, ⟨#[49]⟩)) 2 rfl).lt; have x3_0 : w10.cell? ⟨w6.heap.size, 0, none⟩ = some (.string BX) := (hq.at (x := (w6.heap.size, BX, ⟨#[49]⟩)) 3 rfl).cell 0; have x3_1 : w10.cell? ⟨w6.heap.size, 1, none⟩ = some (.string ⟨#[49]⟩) := (hq.at (x := (w6.heap.size, BX, ⟨#[49]⟩)) 3 rfl).cell 1; have y3 : w6.heap.size < w10.heap.size := (hq.at (x := (w6.heap.size, BX, ⟨#[49]⟩)) 3 rfl).lt; replace HR := Lib.hid (hq.cons S3 T3); replace HB := Lib.hid (below_to (below_to HB.out hb) (new_below _ (.cells #[.string S3, .string T3] 23))); clear hb hq))
            obtain ⟨W10, hW10⟩ : ∃ W0, w10.alloc (.cells #[.string S3, .string T3] 23) = W0 := ⟨_, rfl⟩
            rw [hW10] at HR HB ⊢
            clear hW10
            have x1_0 : W10.cell? ⟨g, 0, none⟩ = some (.string NS) := (HR.out.at (x := (g, NS, DS)) 1 rfl).cell 0
            have x1_1 : W10.cell? ⟨g, 1, none⟩ = some (.string DS) := (HR.out.at (x := (g, NS, DS)) 1 rfl).cell 1
            have y1 : g < W10.heap.size := (HR.out.at (x := (g, NS, DS)) 1 rfl).lt
            have x2_0 : W10.cell? ⟨w8.heap.size, 0, none⟩ = some (.string S1) := (HR.out.at (x := (w8.heap.size, S1, T1)) 2 rfl).cell 0
            have x2_1 : W10.cell? ⟨w8.heap.size, 1, none⟩ = some (.string T1) := (HR.out.at (x := (w8.heap.size, S1, T1)) 2 rfl).cell 1
            have y2 : w8.heap.size < W10.heap.size := (HR.out.at (x := (w8.heap.size, S1, T1)) 2 rfl).lt
            have x3_0 : W10.cell? ⟨w7.heap.size, 0, none⟩ = some (.string BY) := (HR.out.at (x := (w7.heap.size, BY, ⟨#[49]⟩)) 3 rfl).cell 0
            have x3_1 : W10.cell? ⟨w7.heap.size, 1, none⟩ = some (.string ⟨#[49]⟩) := (HR.out.at (x := (w7.heap.size, BY, ⟨#[49]⟩)) 3 rfl).cell 1
            have y3 : w7.heap.size < W10.heap.size := (HR.out.at (x := (w7.heap.size, BY, ⟨#[49]⟩)) 3 rfl).lt
            have x4_0 : W10.cell? ⟨w6.heap.size, 0, none⟩ = some (.string BX) := (HR.out.at (x := (w6.heap.size, BX, ⟨#[49]⟩)) 4 rfl).cell 0
            have x4_1 : W10.cell? ⟨w6.heap.size, 1, none⟩ = some (.string ⟨#[49]⟩) := (HR.out.at (x := (w6.heap.size, BX, ⟨#[49]⟩)) 4 rfl).cell 1
            have y4 : w6.heap.size < W10.heap.size := (HR.out.at (x := (w6.heap.size, BX, ⟨#[49]⟩)) 4 rfl).lt
            by_cases hf : p + q < 200
            · obtain rfl : e1 = 0 := F1.out hf
              obtain rfl : e3 = 0 := F3.out hf
              go_wp2_with (first | (go_at_call 20; (with_reducible refine Calls.mono (KA.out _ (HT.out.next HB.out)) ?_); rintro e w11 ⟨rfl, hb⟩; have hq := HR.out.below hb; have x1_0 : w11.cell? ⟨g, 0, none⟩ = some (.string NS) := (hq.at (x := (g, NS, DS)) 1 rfl).cell 0; have x1_1 : w11.cell? ⟨g, 1, none⟩ = some (.string DS) := (hq.at (x := (g, NS, DS)) 1 rfl).cell 1; have y1 : g < w11.heap.size := (hq.at (x := (g, NS, DS)) 1 rfl).lt; have x4_0 : w11.cell? ⟨w6.heap.size, 0, none⟩ = some (.string BX) := (hq.at (x := (w6.heap.size, BX, ⟨#[49]⟩)) 4 rfl).cell 0; have x4_1 : w11.cell? ⟨w6.heap.size, 1, none⟩ = some (.string ⟨#[49]⟩) := (hq.at (x := (w6.heap.size, BX, ⟨#[49]⟩)) 4 rfl).cell 1; have y4 : w6.heap.size < w11.heap.size := (hq.at (x := (w6.heap.size, BX, ⟨#[49]⟩)) 4 rfl).lt; replace HR := Lib.hid hq; replace HB := Lib.hid (below_to HB.out hb); clear hb hq) | (go_at_call 20; (with_reducible refine Calls.mono (KB.out _ (HT.out.next HB.out)) ?_); rintro e w12 ⟨rfl, hb⟩; have hq := HR.out.below hb; replace HR := Lib.hid hq; replace HB := Lib.hid (below_to HB.out hb); clear hb hq))
              all_goals
                go_ret
                refine ⟨?_, HB.out⟩
                have ha := HA.out
                have hb := HKB.out
                first
                  | (exfalso; omega)
                  | (show Ending.returned (Value.bool (kb == 1)) = _; rw [show (kb == 1) = true from beq_iff_eq.2 (by omega)])
                  | (show Ending.returned (Value.bool (kb == 0)) = _; rw [show (kb == 0) = true from beq_iff_eq.2 (by omega)])
                  | (have h0 := beq_eq_false_iff_ne.1 ‹((q : Int) == 0) = false›; show Ending.returned (Value.bool (kb == 1)) = _; rw [show (kb == 1) = true from beq_iff_eq.2 (by omega)])
            · obtain ⟨rfl, rfl, rfl⟩ := N1.out hf
              obtain ⟨rfl, rfl, rfl⟩ := N3.out hf
              go_wp2_with (first | (go_at_call 20; (with_reducible refine Calls.mono (KA.out _ (HT.out.next HB.out)) ?_); rintro e w11 ⟨rfl, hb⟩; have hq := HR.out.below hb; have x1_0 : w11.cell? ⟨g, 0, none⟩ = some (.string NS) := (hq.at (x := (g, NS, DS)) 1 rfl).cell 0; have x1_1 : w11.cell? ⟨g, 1, none⟩ = some (.string DS) := (hq.at (x := (g, NS, DS)) 1 rfl).cell 1; have y1 : g < w11.heap.size := (hq.at (x := (g, NS, DS)) 1 rfl).lt; have x4_0 : w11.cell? ⟨w6.heap.size, 0, none⟩ = some (.string BX) := (hq.at (x := (w6.heap.size, BX, ⟨#[49]⟩)) 4 rfl).cell 0; have x4_1 : w11.cell? ⟨w6.heap.size, 1, none⟩ = some (.string ⟨#[49]⟩) := (hq.at (x := (w6.heap.size, BX, ⟨#[49]⟩)) 4 rfl).cell 1; have y4 : w6.heap.size < w11.heap.size := (hq.at (x := (w6.heap.size, BX, ⟨#[49]⟩)) 4 rfl).lt; replace HR := Lib.hid hq; replace HB := Lib.hid (below_to HB.out hb); clear hb hq) | (go_at_call 20; (with_reducible refine Calls.mono (KB.out _ (HT.out.next HB.out)) ?_); rintro e w12 ⟨rfl, hb⟩; have hq := HR.out.below hb; replace HR := Lib.hid hq; replace HB := Lib.hid (below_to HB.out hb); clear hb hq))
              all_goals
                go_ret
                refine ⟨?_, HB.out⟩
                have ha := HA.out
                have hb := HKB.out
                first
                  | (exfalso; omega)
                  | (show Ending.returned (Value.bool (kb == 1)) = _; rw [show (kb == 1) = true from beq_iff_eq.2 (by omega)])
                  | (show Ending.returned (Value.bool (kb == 0)) = _; rw [show (kb == 0) = true from beq_iff_eq.2 (by omega)])
                  | (have h0 := beq_eq_false_iff_ne.1 ‹((q : Int) == 0) = false›; show Ending.returned (Value.bool (kb == 1)) = _; rw [show (kb == 1) = true from beq_iff_eq.2 (by omega)])
end Go.Proofs.YtabkodpjhpjgnaaGreatDoor
