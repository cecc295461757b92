/- The walk of IntegerLimits. -/
import Derived.Test.YtcfgndbljnjheaaDoorKg
namespace Go.Proofs.YtcfgndbljnjheaaDoor
open Go.RowKit

theorem nines_c (n : Nat) (hn : n ≤ 300) : CallT 23 #[.int .i64 (n : Int)] (.string (bs (nin n))) := fun u _ => (nines_any n hn u).mono fun _ _ ⟨h1, h2⟩ => ⟨h1, h2 ▸ Below.refl _ _⟩
theorem pick_c (c : Int) (n : Nat) (hn : 0 < n) (hn2 : n ≤ 1000) (h0 : -9223372036854775808 ≤ c) (h1 : c ≤ 9223372036854775807) : CallT 24 #[.int .i64 c, .int .i64 (n : Int)] (.int .i64 ((pickN c n : Nat) : Int)) := fun u _ => (pick_any c n hn hn2 h0 h1 u).mono fun _ _ ⟨h1, h2⟩ => ⟨h1, h2 ▸ Below.refl _ _⟩
theorem out_bad {z : Int} (h : okz z = false) : outT z = [] := if_neg (by rw [h]; decide)
theorem err_bad {z : Int} (h : okz z = false) : errT z = 30 := if_neg (by rw [h]; decide)
theorem addb_c (a b : Int) (ha : okz a = true) (hb : okz b = true) (hc : okz (a + b) = false) : CallT 14 #[strOf (Lib.itoa a), strOf (Lib.itoa b)] (.tuple #[.string ⟨#[]⟩, .int .i64 30]) := fun u hu => by
  have h := Add_ok a b u hu ha hb
  unfold TextP at h
  rw [out_bad hc, err_bad hc] at h; exact h
theorem subb_c (a b : Int) (ha : okz a = true) (hb : okz b = true) (hc : okz (a - b) = false) : CallT 15 #[strOf (Lib.itoa a), strOf (Lib.itoa b)] (.tuple #[.string ⟨#[]⟩, .int .i64 30]) := fun u hu => by
  have h := Sub_ok a b u hu ha hb
  unfold TextP at h
  rw [out_bad hc, err_bad hc] at h; exact h
theorem mulb_c (a b : Int) (ha : okz a = true) (hb : okz b = true) (hc : okz (a * b) = false) : CallT 16 #[strOf (Lib.itoa a), strOf (Lib.itoa b)] (.tuple #[.string ⟨#[]⟩, .int .i64 30]) := fun u hu => by
  have h := Mul_ok a b u hu ha hb
  unfold TextP at h
  rw [out_bad hc, err_bad hc] at h; exact h
/-- The product of powers of ten: how many digits it has. -/
theorem prod_ge (m n : Nat) : 10 ^ (m + n) ≤ 10 ^ m * (2 * 10 ^ n - 1) := by
  have hp : 0 < 10 ^ n := Nat.pow_pos (by decide)
  rw [Nat.pow_add]
  exact Nat.mul_le_mul_left _ (by omega)
theorem prod_lt (m n : Nat) : 10 ^ m * (2 * 10 ^ n - 1) < 10 ^ (m + n + 1) := by
  have hp : 0 < 10 ^ n := Nat.pow_pos (by decide)
  rw [show m + n + 1 = m + (n + 1) by omega, Nat.pow_add, Nat.pow_succ]
  exact Nat.mul_lt_mul_of_pos_left (by omega) (Nat.pow_pos (by decide))
theorem len_of (v k : Nat) (h1 : 10 ^ k ≤ v) (h2 : v < 10 ^ (k + 1)) : (Lib.decDigits v).length = k + 1 := by
  have h3 := (Im.dd_len v (k + 1) (by omega)).2 h2
  rcases Nat.eq_zero_or_pos k with e | e
  · subst e
    have : Lib.decDigits v ≠ [] := Im.dd_ne v
    have h4 : (Lib.decDigits v).length ≠ 0 := fun h => this (List.eq_nil_of_length_eq_zero h)
    omega
  · have h4 : ¬ (Lib.decDigits v).length ≤ k := fun h => by
      have := (Im.dd_len v k e).1 h
      omega
    omega
/-- The greatest integer, in one place where its size can't be reckoned. -/
def big : Nat := 10 ^ 200
theorem big_def : big = 10 ^ 200 := rfl
theorem ok_iff (z : Int) : okz z = decide (z.natAbs < big) := rfl
theorem most_itoa : nin 200 = Lib.itoa ((big : Int) - 1) := by
  rw [nin_itoa 200 (by decide), ← big_def]
  have : 1 ≤ big := Nat.pow_pos (by decide)
  rw [Int.ofNat_sub this]; rfl
theorem big_ge : 1000000 ≤ big := by
  rw [big_def, show (1000000 : Nat) = 10 ^ 6 from rfl]
  exact Nat.pow_le_pow_right (by decide) (by decide)
theorem vld_more : Im.vld (nin 201) = false := by
  rw [nin_itoa 201 (by decide), Im.vld_itoa]
  refine decide_eq_false ?_
  have e : (10 : Nat) ^ 201 = 10 ^ 200 * 10 := by rw [show (201 : Nat) = 200 + 1 from rfl, Nat.pow_succ]
  rw [Int.natAbs_natCast, e, ← big_def]
  have := big_ge
  omega
set_option maxRecDepth 100000 in
set_option maxHeartbeats 40000000 in
theorem limits_walk (a : ByteArray) (m0 n0 : Int) (w : World) (ht : TabP w) (hm0 : -9223372036854775808 ≤ m0) (hm1 : m0 ≤ 9223372036854775807) (hn0 : -9223372036854775808 ≤ n0) (hn1 : n0 ≤ 9223372036854775807) : Calls Tryd.prog 10 #[.string a, .int .i64 m0, .int .i64 n0] w fun e w' => e = .returned (.bool true) ∧ Below w.heap.size w w' := by
  have hx := made_B a 5
  have M1 : Hid (CallT 20 #[.string a, .int .i64 5] (strOf (Lib.itoa (madeZ a 5)))) := Lib.hid (made_c a 5 (by decide))
  have S0 : Hid (CallT 11 #[] (.bool true)) := Lib.hid (sane_c)
  have K1 : Hid (CallT 24 #[.int .i64 m0, .int .i64 200] (.int .i64 ((pickN m0 200 : Nat) : Int))) := Lib.hid (pick_c m0 200 (by decide) (by decide) hm0 hm1)
  have K2 : Hid (CallT 24 #[.int .i64 n0, .int .i64 200] (.int .i64 ((pickN n0 200 : Nat) : Int))) := Lib.hid (pick_c n0 200 (by decide) (by decide) hn0 hn1)
  have hml := pickN_lt m0 200 (by decide)
  have hnl := pickN_lt n0 200 (by decide)
  have hx5 : (madeZ a 5).natAbs < 100000 := hx
  generalize madeZ a 5 = x at *
  generalize pickN m0 200 = m at *
  generalize pickN n0 200 = n at *
  have hbg := big_ge
  obtain ⟨M, hM⟩ : ∃ M : Int, (big : Int) - 1 = M := ⟨_, rfl⟩
  have okM : okz M = true := by rw [ok_iff]; exact decide_eq_true (by omega)
  have okN : okz (-M) = true := by rw [ok_iff]; exact decide_eq_true (by omega)
  have okx : okz x = true := by rw [ok_iff]; exact decide_eq_true (by omega)
  have hmost := most_itoa
  rw [hM] at hmost
  have N1 : Hid (CallT 23 #[.int .i64 200] (.string (bs (Lib.itoa M)))) := Lib.hid (by rw [← hmost]; exact nines_c 200 (by decide))
  have N2 : Hid (CallT 23 #[.int .i64 (m : Int)] (.string (bs (nin m)))) := Lib.hid (nines_c m (by omega))
  have N3 : Hid (CallT 23 #[.int .i64 (n : Int)] (.string (bs (nin n)))) := Lib.hid (nines_c n (by omega))
  have hneg : (⟨#[45]⟩ : ByteArray) ++ bs (Lib.itoa M) = bs (Lib.itoa (-M)) := by
    rw [show (⟨#[45]⟩ : ByteArray) = bs [45] from rfl, bs_append, neg_itoa (show -M < 0 by omega), pos_itoa (show ¬ M < 0 by omega), Int.natAbs_neg]; rfl
  have hmore : bs (Lib.itoa M) ++ (⟨#[57]⟩ : ByteArray) = bs (nin 201) := by
    rw [← hmost, show (⟨#[57]⟩ : ByteArray) = bs [57] from rfl, bs_append, ← nin_succ]
  have hone : (⟨#[49]⟩ : ByteArray) ++ bs (nin n) = bs (Lib.itoa ((2 * 10 ^ n - 1 : Nat) : Int)) := by
    rw [show (⟨#[49]⟩ : ByteArray) = bs [49] from rfl, bs_append, ← one_nin]; rfl
  obtain ⟨P, hP⟩ : ∃ P : Nat, 10 ^ m * (2 * 10 ^ n - 1) = P := ⟨_, rfl⟩
  have hPg := prod_ge m n
  have hPl := prod_lt m n
  rw [hP] at hPg hPl
  obtain ⟨tm, htm⟩ : ∃ tm : Nat, 10 ^ m = tm := ⟨_, rfl⟩
  obtain ⟨tn, htn⟩ : ∃ tn : Nat, 2 * 10 ^ n - 1 = tn := ⟨_, rfl⟩
  have hnp : 0 < 10 ^ n := Nat.pow_pos (by decide)
  have okm : okz (tm : Int) = true := by
    rw [ok_iff]; refine decide_eq_true ?_
    rw [Int.natAbs_natCast, ← htm, big_def]; exact Nat.pow_lt_pow_right (by decide) hml
  have okn : okz (tn : Int) = true := by
    rw [ok_iff]; refine decide_eq_true ?_
    have h1 : 10 ^ n * 10 ≤ 10 ^ 200 := by rw [← Nat.pow_succ]; exact Nat.pow_le_pow_right (by decide) (by omega)
    rw [← big_def] at h1
    rw [Int.natAbs_natCast]; omega
  rw [htn] at hone
  have hprod : (tm : Int) * (tn : Int) = (P : Int) := by rw [← Int.natCast_mul, ← hP, htm, htn]
  have s1 : (bs (Lib.itoa M)).size = 200 := by rw [← hmost, bs_size, nin_len]
  have s2 : (bs (nin n)).size = n := by rw [bs_size, nin_len]
  have hV1 : CallT 19 #[.string (bs (Lib.itoa M) ++ ⟨#[57]⟩)] (.bool false) := fun u _ => by
    rw [hmore]
    have h := valid_any (nin 201) u
    rw [vld_more] at h; exact h
  have hV2 : CallT 19 #[.string (⟨#[45]⟩ ++ bs (Lib.itoa M))] (.bool true) := by
    rw [hneg]; exact val_c (-M) okN
  have V1 := Lib.hid hV1; have V2 := Lib.hid hV2
  by_cases hgr : 0 < x
  · by_cases hm0' : m = 0
    · by_cases hsm : m + n < 200
      · have hA : CallT 14 #[.string (bs (Lib.itoa M)), strOf (Lib.itoa x)] (.tuple #[.string ⟨#[]⟩, .int .i64 30]) := addb_c M x okM okx (by rw [ok_iff]; exact decide_eq_false (by omega))
        have hS : CallT 15 #[.string (⟨#[45]⟩ ++ bs (Lib.itoa M)), strOf (Lib.itoa x)] (.tuple #[.string ⟨#[]⟩, .int .i64 30]) := by rw [hneg]; exact subb_c (-M) x okN okx (by rw [ok_iff]; exact decide_eq_false (by omega))
        have A1 := Lib.hid hA; have A2 := Lib.hid hS
        have hB : CallT 14 #[.string (bs (nin m)), .string ⟨#[49]⟩] (.tuple #[.string ⟨#[]⟩, .int .i64 30]) := fun u _ => by
          subst hm0'
          exact Add_bad [] [49] u (by decide +kernel)
        have hC : CallT 14 #[.string ⟨#[48]⟩, .string ⟨#[49]⟩] (.tuple #[.string (bs (Lib.itoa (tm : Int))), .int .i64 0]) := by
          rw [← lit0, ← lit1, show ((tm : Nat) : Int) = 1 from by rw [← htm, hm0']; rfl]
          exact add_c 0 1 1 rfl ok0 ok1 ok1
        have A3 := Lib.hid hB; have A4 := Lib.hid hC
        have okP : okz (P : Int) = true := by
          rw [ok_iff]; refine decide_eq_true ?_
          rw [Int.natAbs_natCast, big_def]
          exact Nat.lt_of_lt_of_le hPl (Nat.pow_le_pow_right (by decide) (by omega))
        have hL : (bs (Lib.itoa (P : Int))).size = m + n + 1 := by rw [bs_size, Lib.itoa_nonneg]; exact len_of P (m + n) hPg hPl
        have hQ : CallT 16 #[.string (bs (Lib.itoa (tm : Int))), .string (⟨#[49]⟩ ++ bs (nin n))] (.tuple #[.string (bs (Lib.itoa (P : Int))), .int .i64 0]) := by rw [hone]; exact mul_c _ _ _ hprod okm okn okP
        have tL : ((((bs (Lib.itoa (P : Int))).size : Nat) : Int) == (m : Int) + (n : Int) + 1) = true := by rw [hL]; simp
        have ts : decide ((m : Int) + (n : Int) < 200) = true := decide_eq_true (by omega)
        have A5 := Lib.hid hQ
        have w1 : IntKind.i64.wrap ((m : Int) + (n : Int)) = (m : Int) + (n : Int) := IntWalk.i64_in _ (by omega)
        have w2 : IntKind.i64.wrap ((m : Int) + (n : Int) + 1) = (m : Int) + (n : Int) + 1 := IntWalk.i64_in _ (by omega)
        have te : (⟨#[]⟩ : ByteArray).toList.isEmpty = true := by rw [ByteArray.toList_eq]; rfl
        have tz : ((m : Int) == 0) = true := by rw [beq_iff_eq]; omega
        have Q1 : Hid (CallT 17 #[strOf (Lib.itoa x), .string ⟨#[48]⟩] (.int .i64 (1))) := Lib.hid (by rw [← lit0]; exact cmp_c (x) (0) _ (sg_gt (by omega)) okx ok0)
        generalize bs (Lib.itoa M) = SM at *
        generalize bs (nin m) = SA at *
        generalize bs (nin n) = SB at *
        generalize bs (Lib.itoa (tm : Int)) = SC at *
        generalize bs (Lib.itoa (P : Int)) = SP at *
        have c1 : ¬ ((⟨#[45]⟩ : ByteArray).size + SM.size > 9223372036854775807) := by show ¬ (1 + SM.size > _); omega
        have c2 : ¬ (9223372036854775807 < 1 + SM.size) := by omega
        have c3 : ¬ (SM.size + (⟨#[57]⟩ : ByteArray).size > 9223372036854775807) := by show ¬ (SM.size + 1 > _); omega
        have c4 : ¬ (9223372036854775807 < SM.size + 1) := by omega
        have c5 : ¬ ((⟨#[49]⟩ : ByteArray).size + SB.size > 9223372036854775807) := by show ¬ (1 + SB.size > _); omega
        have c6 : ¬ (9223372036854775807 < 1 + SB.size) := by omega
        have HT := Lib.hid ht
        have HB := Lib.hid (Below.refl w.heap.size w)
        clear ht hx hx5 hmost hneg hmore hone hP hPg hPl htm htn hnp okm okn hprod okM okN okx hM hbg hV1 hV2 hA hS hB hQ okP hml hnl hm0 hm1 hn0 hn1 hm0' hgr hsm s1 s2 hC hL
        go_enter Tryd.func10, Tryd.ntmps10
        go_wp2_with (first | (go_at_call 20; (with_reducible refine Calls.mono (M1.out _ (HT.out.next HB.out)) ?_); rintro e w1 ⟨rfl, hb⟩; replace HB := Lib.hid (HB.out.trans (hb.mono HB.out.size)); clear hb) | (go_at_call 11; (with_reducible refine Calls.mono (S0.out _ (HT.out.next HB.out)) ?_); rintro e w1 ⟨rfl, hb⟩; replace HB := Lib.hid (HB.out.trans (hb.mono HB.out.size)); clear hb) | (go_at_call 24; (with_reducible refine Calls.mono (K1.out _ (HT.out.next HB.out)) ?_); rintro e w1 ⟨rfl, hb⟩; replace HB := Lib.hid (HB.out.trans (hb.mono HB.out.size)); clear hb) | (go_at_call 24; (with_reducible refine Calls.mono (K2.out _ (HT.out.next HB.out)) ?_); rintro e w1 ⟨rfl, hb⟩; replace HB := Lib.hid (HB.out.trans (hb.mono HB.out.size)); clear hb) | (go_at_call 23; (with_reducible refine Calls.mono (N1.out _ (HT.out.next HB.out)) ?_); rintro e w1 ⟨rfl, hb⟩; replace HB := Lib.hid (HB.out.trans (hb.mono HB.out.size)); clear hb) | (go_at_call 23; (with_reducible refine Calls.mono (N2.out _ (HT.out.next HB.out)) ?_); rintro e w1 ⟨rfl, hb⟩; replace HB := Lib.hid (HB.out.trans (hb.mono HB.out.size)); clear hb) | (go_at_call 23; (with_reducible refine Calls.mono (N3.out _ (HT.out.next HB.out)) ?_); rintro e w1 ⟨rfl, hb⟩; replace HB := Lib.hid (HB.out.trans (hb.mono HB.out.size)); clear hb) | (go_at_call 19; (with_reducible refine Calls.mono (V1.out _ (HT.out.next HB.out)) ?_); rintro e w1 ⟨rfl, hb⟩; replace HB := Lib.hid (HB.out.trans (hb.mono HB.out.size)); clear hb) | (go_at_call 19; (with_reducible refine Calls.mono (V2.out _ (HT.out.next HB.out)) ?_); rintro e w1 ⟨rfl, hb⟩; replace HB := Lib.hid (HB.out.trans (hb.mono HB.out.size)); clear hb) | (go_at_call 17; (with_reducible refine Calls.mono (Q1.out _ (HT.out.next HB.out)) ?_); rintro e w1 ⟨rfl, hb⟩; replace HB := Lib.hid (HB.out.trans (hb.mono HB.out.size)); clear hb) | (go_at_call 14; (with_reducible refine Calls.mono (A1.out _ (HT.out.next HB.out)) ?_); rintro e w1 ⟨rfl, hb⟩; replace HB := Lib.hid (HB.out.trans (hb.mono HB.out.size)); clear hb) | (go_at_call 15; (with_reducible refine Calls.mono (A2.out _ (HT.out.next HB.out)) ?_); rintro e w1 ⟨rfl, hb⟩; replace HB := Lib.hid (HB.out.trans (hb.mono HB.out.size)); clear hb) | (go_at_call 14; (with_reducible refine Calls.mono (A3.out _ (HT.out.next HB.out)) ?_); rintro e w1 ⟨rfl, hb⟩; replace HB := Lib.hid (HB.out.trans (hb.mono HB.out.size)); clear hb) | (go_at_call 14; (with_reducible refine Calls.mono (A4.out _ (HT.out.next HB.out)) ?_); rintro e w1 ⟨rfl, hb⟩; replace HB := Lib.hid (HB.out.trans (hb.mono HB.out.size)); clear hb) | (go_at_call 16; (with_reducible refine Calls.mono (A5.out _ (HT.out.next HB.out)) ?_); rintro e w1 ⟨rfl, hb⟩; replace HB := Lib.hid (HB.out.trans (hb.mono HB.out.size)); clear hb))
        go_ret
        exact ⟨rfl, HB.out⟩
      · have hA : CallT 14 #[.string (bs (Lib.itoa M)), strOf (Lib.itoa x)] (.tuple #[.string ⟨#[]⟩, .int .i64 30]) := addb_c M x okM okx (by rw [ok_iff]; exact decide_eq_false (by omega))
        have hS : CallT 15 #[.string (⟨#[45]⟩ ++ bs (Lib.itoa M)), strOf (Lib.itoa x)] (.tuple #[.string ⟨#[]⟩, .int .i64 30]) := by rw [hneg]; exact subb_c (-M) x okN okx (by rw [ok_iff]; exact decide_eq_false (by omega))
        have A1 := Lib.hid hA; have A2 := Lib.hid hS
        have hB : CallT 14 #[.string (bs (nin m)), .string ⟨#[49]⟩] (.tuple #[.string ⟨#[]⟩, .int .i64 30]) := fun u _ => by
          subst hm0'
          exact Add_bad [] [49] u (by decide +kernel)
        have hC : CallT 14 #[.string ⟨#[48]⟩, .string ⟨#[49]⟩] (.tuple #[.string (bs (Lib.itoa (tm : Int))), .int .i64 0]) := by
          rw [← lit0, ← lit1, show ((tm : Nat) : Int) = 1 from by rw [← htm, hm0']; rfl]
          exact add_c 0 1 1 rfl ok0 ok1 ok1
        have A3 := Lib.hid hB; have A4 := Lib.hid hC
        have okP : okz (P : Int) = false := by
          rw [ok_iff]; refine decide_eq_false ?_
          rw [Int.natAbs_natCast, big_def]
          have := Nat.pow_le_pow_right (show 0 < 10 by decide) (show 200 ≤ m + n by omega)
          exact Nat.not_lt.2 (Nat.le_trans this hPg)
        have hQ : CallT 16 #[.string (bs (Lib.itoa (tm : Int))), .string (⟨#[49]⟩ ++ bs (nin n))] (.tuple #[.string ⟨#[]⟩, .int .i64 30]) := by rw [hone]; exact mulb_c _ _ okm okn (by rw [hprod]; exact okP)
        have ts : decide ((m : Int) + (n : Int) < 200) = false := decide_eq_false (by omega)
        have A5 := Lib.hid hQ
        have w1 : IntKind.i64.wrap ((m : Int) + (n : Int)) = (m : Int) + (n : Int) := IntWalk.i64_in _ (by omega)
        have w2 : IntKind.i64.wrap ((m : Int) + (n : Int) + 1) = (m : Int) + (n : Int) + 1 := IntWalk.i64_in _ (by omega)
        have te : (⟨#[]⟩ : ByteArray).toList.isEmpty = true := by rw [ByteArray.toList_eq]; rfl
        have tz : ((m : Int) == 0) = true := by rw [beq_iff_eq]; omega
        have Q1 : Hid (CallT 17 #[strOf (Lib.itoa x), .string ⟨#[48]⟩] (.int .i64 (1))) := Lib.hid (by rw [← lit0]; exact cmp_c (x) (0) _ (sg_gt (by omega)) okx ok0)
        generalize bs (Lib.itoa M) = SM at *
        generalize bs (nin m) = SA at *
        generalize bs (nin n) = SB at *
        generalize bs (Lib.itoa (tm : Int)) = SC at *
        generalize bs (Lib.itoa (P : Int)) = SP at *
        have c1 : ¬ ((⟨#[45]⟩ : ByteArray).size + SM.size > 9223372036854775807) := by show ¬ (1 + SM.size > _); omega
        have c2 : ¬ (9223372036854775807 < 1 + SM.size) := by omega
        have c3 : ¬ (SM.size + (⟨#[57]⟩ : ByteArray).size > 9223372036854775807) := by show ¬ (SM.size + 1 > _); omega
        have c4 : ¬ (9223372036854775807 < SM.size + 1) := by omega
        have c5 : ¬ ((⟨#[49]⟩ : ByteArray).size + SB.size > 9223372036854775807) := by show ¬ (1 + SB.size > _); omega
        have c6 : ¬ (9223372036854775807 < 1 + SB.size) := by omega
        have HT := Lib.hid ht
        have HB := Lib.hid (Below.refl w.heap.size w)
        clear ht hx hx5 hmost hneg hmore hone hP hPg hPl htm htn hnp okm okn hprod okM okN okx hM hbg hV1 hV2 hA hS hB hQ okP hml hnl hm0 hm1 hn0 hn1 hm0' hgr hsm s1 s2 hC
        go_enter Tryd.func10, Tryd.ntmps10
        go_wp2_with (first | (go_at_call 20; (with_reducible refine Calls.mono (M1.out _ (HT.out.next HB.out)) ?_); rintro e w1 ⟨rfl, hb⟩; replace HB := Lib.hid (HB.out.trans (hb.mono HB.out.size)); clear hb) | (go_at_call 11; (with_reducible refine Calls.mono (S0.out _ (HT.out.next HB.out)) ?_); rintro e w1 ⟨rfl, hb⟩; replace HB := Lib.hid (HB.out.trans (hb.mono HB.out.size)); clear hb) | (go_at_call 24; (with_reducible refine Calls.mono (K1.out _ (HT.out.next HB.out)) ?_); rintro e w1 ⟨rfl, hb⟩; replace HB := Lib.hid (HB.out.trans (hb.mono HB.out.size)); clear hb) | (go_at_call 24; (with_reducible refine Calls.mono (K2.out _ (HT.out.next HB.out)) ?_); rintro e w1 ⟨rfl, hb⟩; replace HB := Lib.hid (HB.out.trans (hb.mono HB.out.size)); clear hb) | (go_at_call 23; (with_reducible refine Calls.mono (N1.out _ (HT.out.next HB.out)) ?_); rintro e w1 ⟨rfl, hb⟩; replace HB := Lib.hid (HB.out.trans (hb.mono HB.out.size)); clear hb) | (go_at_call 23; (with_reducible refine Calls.mono (N2.out _ (HT.out.next HB.out)) ?_); rintro e w1 ⟨rfl, hb⟩; replace HB := Lib.hid (HB.out.trans (hb.mono HB.out.size)); clear hb) | (go_at_call 23; (with_reducible refine Calls.mono (N3.out _ (HT.out.next HB.out)) ?_); rintro e w1 ⟨rfl, hb⟩; replace HB := Lib.hid (HB.out.trans (hb.mono HB.out.size)); clear hb) | (go_at_call 19; (with_reducible refine Calls.mono (V1.out _ (HT.out.next HB.out)) ?_); rintro e w1 ⟨rfl, hb⟩; replace HB := Lib.hid (HB.out.trans (hb.mono HB.out.size)); clear hb) | (go_at_call 19; (with_reducible refine Calls.mono (V2.out _ (HT.out.next HB.out)) ?_); rintro e w1 ⟨rfl, hb⟩; replace HB := Lib.hid (HB.out.trans (hb.mono HB.out.size)); clear hb) | (go_at_call 17; (with_reducible refine Calls.mono (Q1.out _ (HT.out.next HB.out)) ?_); rintro e w1 ⟨rfl, hb⟩; replace HB := Lib.hid (HB.out.trans (hb.mono HB.out.size)); clear hb) | (go_at_call 14; (with_reducible refine Calls.mono (A1.out _ (HT.out.next HB.out)) ?_); rintro e w1 ⟨rfl, hb⟩; replace HB := Lib.hid (HB.out.trans (hb.mono HB.out.size)); clear hb) | (go_at_call 15; (with_reducible refine Calls.mono (A2.out _ (HT.out.next HB.out)) ?_); rintro e w1 ⟨rfl, hb⟩; replace HB := Lib.hid (HB.out.trans (hb.mono HB.out.size)); clear hb) | (go_at_call 14; (with_reducible refine Calls.mono (A3.out _ (HT.out.next HB.out)) ?_); rintro e w1 ⟨rfl, hb⟩; replace HB := Lib.hid (HB.out.trans (hb.mono HB.out.size)); clear hb) | (go_at_call 14; (with_reducible refine Calls.mono (A4.out _ (HT.out.next HB.out)) ?_); rintro e w1 ⟨rfl, hb⟩; replace HB := Lib.hid (HB.out.trans (hb.mono HB.out.size)); clear hb) | (go_at_call 16; (with_reducible refine Calls.mono (A5.out _ (HT.out.next HB.out)) ?_); rintro e w1 ⟨rfl, hb⟩; replace HB := Lib.hid (HB.out.trans (hb.mono HB.out.size)); clear hb))
        go_ret
        exact ⟨rfl, HB.out⟩
    · by_cases hsm : m + n < 200
      · have hA : CallT 14 #[.string (bs (Lib.itoa M)), strOf (Lib.itoa x)] (.tuple #[.string ⟨#[]⟩, .int .i64 30]) := addb_c M x okM okx (by rw [ok_iff]; exact decide_eq_false (by omega))
        have hS : CallT 15 #[.string (⟨#[45]⟩ ++ bs (Lib.itoa M)), strOf (Lib.itoa x)] (.tuple #[.string ⟨#[]⟩, .int .i64 30]) := by rw [hneg]; exact subb_c (-M) x okN okx (by rw [ok_iff]; exact decide_eq_false (by omega))
        have A1 := Lib.hid hA; have A2 := Lib.hid hS
        have hB : CallT 14 #[.string (bs (nin m)), .string ⟨#[49]⟩] (.tuple #[.string (bs (Lib.itoa (tm : Int))), .int .i64 0]) := by
          rw [← lit1, nin_itoa m (by omega)]
          have hp : 0 < 10 ^ m := Nat.pow_pos (by decide)
          rw [ok_iff] at okm
          have okm' := of_decide_eq_true okm
          exact add_c _ 1 _ (by rw [← htm]; omega) (by rw [ok_iff]; exact decide_eq_true (by omega)) ok1 (by rw [ok_iff]; exact okm)
        have A3 := Lib.hid hB
        have okP : okz (P : Int) = true := by
          rw [ok_iff]; refine decide_eq_true ?_
          rw [Int.natAbs_natCast, big_def]
          exact Nat.lt_of_lt_of_le hPl (Nat.pow_le_pow_right (by decide) (by omega))
        have hL : (bs (Lib.itoa (P : Int))).size = m + n + 1 := by rw [bs_size, Lib.itoa_nonneg]; exact len_of P (m + n) hPg hPl
        have hQ : CallT 16 #[.string (bs (Lib.itoa (tm : Int))), .string (⟨#[49]⟩ ++ bs (nin n))] (.tuple #[.string (bs (Lib.itoa (P : Int))), .int .i64 0]) := by rw [hone]; exact mul_c _ _ _ hprod okm okn okP
        have tL : ((((bs (Lib.itoa (P : Int))).size : Nat) : Int) == (m : Int) + (n : Int) + 1) = true := by rw [hL]; simp
        have ts : decide ((m : Int) + (n : Int) < 200) = true := decide_eq_true (by omega)
        have A5 := Lib.hid hQ
        have w1 : IntKind.i64.wrap ((m : Int) + (n : Int)) = (m : Int) + (n : Int) := IntWalk.i64_in _ (by omega)
        have w2 : IntKind.i64.wrap ((m : Int) + (n : Int) + 1) = (m : Int) + (n : Int) + 1 := IntWalk.i64_in _ (by omega)
        have te : (⟨#[]⟩ : ByteArray).toList.isEmpty = true := by rw [ByteArray.toList_eq]; rfl
        have tz : ((m : Int) == 0) = false := by rw [beq_eq_false_iff_ne]; omega
        have Q1 : Hid (CallT 17 #[strOf (Lib.itoa x), .string ⟨#[48]⟩] (.int .i64 (1))) := Lib.hid (by rw [← lit0]; exact cmp_c (x) (0) _ (sg_gt (by omega)) okx ok0)
        generalize bs (Lib.itoa M) = SM at *
        generalize bs (nin m) = SA at *
        generalize bs (nin n) = SB at *
        generalize bs (Lib.itoa (tm : Int)) = SC at *
        generalize bs (Lib.itoa (P : Int)) = SP at *
        have c1 : ¬ ((⟨#[45]⟩ : ByteArray).size + SM.size > 9223372036854775807) := by show ¬ (1 + SM.size > _); omega
        have c2 : ¬ (9223372036854775807 < 1 + SM.size) := by omega
        have c3 : ¬ (SM.size + (⟨#[57]⟩ : ByteArray).size > 9223372036854775807) := by show ¬ (SM.size + 1 > _); omega
        have c4 : ¬ (9223372036854775807 < SM.size + 1) := by omega
        have c5 : ¬ ((⟨#[49]⟩ : ByteArray).size + SB.size > 9223372036854775807) := by show ¬ (1 + SB.size > _); omega
        have c6 : ¬ (9223372036854775807 < 1 + SB.size) := by omega
        have HT := Lib.hid ht
        have HB := Lib.hid (Below.refl w.heap.size w)
        clear ht hx hx5 hmost hneg hmore hone hP hPg hPl htm htn hnp okm okn hprod okM okN okx hM hbg hV1 hV2 hA hS hB hQ okP hml hnl hm0 hm1 hn0 hn1 hm0' hgr hsm s1 s2 hL
        go_enter Tryd.func10, Tryd.ntmps10
        go_wp2_with (first | (go_at_call 20; (with_reducible refine Calls.mono (M1.out _ (HT.out.next HB.out)) ?_); rintro e w1 ⟨rfl, hb⟩; replace HB := Lib.hid (HB.out.trans (hb.mono HB.out.size)); clear hb) | (go_at_call 11; (with_reducible refine Calls.mono (S0.out _ (HT.out.next HB.out)) ?_); rintro e w1 ⟨rfl, hb⟩; replace HB := Lib.hid (HB.out.trans (hb.mono HB.out.size)); clear hb) | (go_at_call 24; (with_reducible refine Calls.mono (K1.out _ (HT.out.next HB.out)) ?_); rintro e w1 ⟨rfl, hb⟩; replace HB := Lib.hid (HB.out.trans (hb.mono HB.out.size)); clear hb) | (go_at_call 24; (with_reducible refine Calls.mono (K2.out _ (HT.out.next HB.out)) ?_); rintro e w1 ⟨rfl, hb⟩; replace HB := Lib.hid (HB.out.trans (hb.mono HB.out.size)); clear hb) | (go_at_call 23; (with_reducible refine Calls.mono (N1.out _ (HT.out.next HB.out)) ?_); rintro e w1 ⟨rfl, hb⟩; replace HB := Lib.hid (HB.out.trans (hb.mono HB.out.size)); clear hb) | (go_at_call 23; (with_reducible refine Calls.mono (N2.out _ (HT.out.next HB.out)) ?_); rintro e w1 ⟨rfl, hb⟩; replace HB := Lib.hid (HB.out.trans (hb.mono HB.out.size)); clear hb) | (go_at_call 23; (with_reducible refine Calls.mono (N3.out _ (HT.out.next HB.out)) ?_); rintro e w1 ⟨rfl, hb⟩; replace HB := Lib.hid (HB.out.trans (hb.mono HB.out.size)); clear hb) | (go_at_call 19; (with_reducible refine Calls.mono (V1.out _ (HT.out.next HB.out)) ?_); rintro e w1 ⟨rfl, hb⟩; replace HB := Lib.hid (HB.out.trans (hb.mono HB.out.size)); clear hb) | (go_at_call 19; (with_reducible refine Calls.mono (V2.out _ (HT.out.next HB.out)) ?_); rintro e w1 ⟨rfl, hb⟩; replace HB := Lib.hid (HB.out.trans (hb.mono HB.out.size)); clear hb) | (go_at_call 17; (with_reducible refine Calls.mono (Q1.out _ (HT.out.next HB.out)) ?_); rintro e w1 ⟨rfl, hb⟩; replace HB := Lib.hid (HB.out.trans (hb.mono HB.out.size)); clear hb) | (go_at_call 14; (with_reducible refine Calls.mono (A1.out _ (HT.out.next HB.out)) ?_); rintro e w1 ⟨rfl, hb⟩; replace HB := Lib.hid (HB.out.trans (hb.mono HB.out.size)); clear hb) | (go_at_call 15; (with_reducible refine Calls.mono (A2.out _ (HT.out.next HB.out)) ?_); rintro e w1 ⟨rfl, hb⟩; replace HB := Lib.hid (HB.out.trans (hb.mono HB.out.size)); clear hb) | (go_at_call 14; (with_reducible refine Calls.mono (A3.out _ (HT.out.next HB.out)) ?_); rintro e w1 ⟨rfl, hb⟩; replace HB := Lib.hid (HB.out.trans (hb.mono HB.out.size)); clear hb) | (go_at_call 16; (with_reducible refine Calls.mono (A5.out _ (HT.out.next HB.out)) ?_); rintro e w1 ⟨rfl, hb⟩; replace HB := Lib.hid (HB.out.trans (hb.mono HB.out.size)); clear hb))
        go_ret
        exact ⟨rfl, HB.out⟩
      · have hA : CallT 14 #[.string (bs (Lib.itoa M)), strOf (Lib.itoa x)] (.tuple #[.string ⟨#[]⟩, .int .i64 30]) := addb_c M x okM okx (by rw [ok_iff]; exact decide_eq_false (by omega))
        have hS : CallT 15 #[.string (⟨#[45]⟩ ++ bs (Lib.itoa M)), strOf (Lib.itoa x)] (.tuple #[.string ⟨#[]⟩, .int .i64 30]) := by rw [hneg]; exact subb_c (-M) x okN okx (by rw [ok_iff]; exact decide_eq_false (by omega))
        have A1 := Lib.hid hA; have A2 := Lib.hid hS
        have hB : CallT 14 #[.string (bs (nin m)), .string ⟨#[49]⟩] (.tuple #[.string (bs (Lib.itoa (tm : Int))), .int .i64 0]) := by
          rw [← lit1, nin_itoa m (by omega)]
          have hp : 0 < 10 ^ m := Nat.pow_pos (by decide)
          rw [ok_iff] at okm
          have okm' := of_decide_eq_true okm
          exact add_c _ 1 _ (by rw [← htm]; omega) (by rw [ok_iff]; exact decide_eq_true (by omega)) ok1 (by rw [ok_iff]; exact okm)
        have A3 := Lib.hid hB
        have okP : okz (P : Int) = false := by
          rw [ok_iff]; refine decide_eq_false ?_
          rw [Int.natAbs_natCast, big_def]
          have := Nat.pow_le_pow_right (show 0 < 10 by decide) (show 200 ≤ m + n by omega)
          exact Nat.not_lt.2 (Nat.le_trans this hPg)
        have hQ : CallT 16 #[.string (bs (Lib.itoa (tm : Int))), .string (⟨#[49]⟩ ++ bs (nin n))] (.tuple #[.string ⟨#[]⟩, .int .i64 30]) := by rw [hone]; exact mulb_c _ _ okm okn (by rw [hprod]; exact okP)
        have ts : decide ((m : Int) + (n : Int) < 200) = false := decide_eq_false (by omega)
        have A5 := Lib.hid hQ
        have w1 : IntKind.i64.wrap ((m : Int) + (n : Int)) = (m : Int) + (n : Int) := IntWalk.i64_in _ (by omega)
        have w2 : IntKind.i64.wrap ((m : Int) + (n : Int) + 1) = (m : Int) + (n : Int) + 1 := IntWalk.i64_in _ (by omega)
        have te : (⟨#[]⟩ : ByteArray).toList.isEmpty = true := by rw [ByteArray.toList_eq]; rfl
        have tz : ((m : Int) == 0) = false := by rw [beq_eq_false_iff_ne]; omega
        have Q1 : Hid (CallT 17 #[strOf (Lib.itoa x), .string ⟨#[48]⟩] (.int .i64 (1))) := Lib.hid (by rw [← lit0]; exact cmp_c (x) (0) _ (sg_gt (by omega)) okx ok0)
        generalize bs (Lib.itoa M) = SM at *
        generalize bs (nin m) = SA at *
        generalize bs (nin n) = SB at *
        generalize bs (Lib.itoa (tm : Int)) = SC at *
        generalize bs (Lib.itoa (P : Int)) = SP at *
        have c1 : ¬ ((⟨#[45]⟩ : ByteArray).size + SM.size > 9223372036854775807) := by show ¬ (1 + SM.size > _); omega
        have c2 : ¬ (9223372036854775807 < 1 + SM.size) := by omega
        have c3 : ¬ (SM.size + (⟨#[57]⟩ : ByteArray).size > 9223372036854775807) := by show ¬ (SM.size + 1 > _); omega
        have c4 : ¬ (9223372036854775807 < SM.size + 1) := by omega
        have c5 : ¬ ((⟨#[49]⟩ : ByteArray).size + SB.size > 9223372036854775807) := by show ¬ (1 + SB.size > _); omega
        have c6 : ¬ (9223372036854775807 < 1 + SB.size) := by omega
        have HT := Lib.hid ht
        have HB := Lib.hid (Below.refl w.heap.size w)
        clear ht hx hx5 hmost hneg hmore hone hP hPg hPl htm htn hnp okm okn hprod okM okN okx hM hbg hV1 hV2 hA hS hB hQ okP hml hnl hm0 hm1 hn0 hn1 hm0' hgr hsm s1 s2
        go_enter Tryd.func10, Tryd.ntmps10
        go_wp2_with (first | (go_at_call 20; (with_reducible refine Calls.mono (M1.out _ (HT.out.next HB.out)) ?_); rintro e w1 ⟨rfl, hb⟩; replace HB := Lib.hid (HB.out.trans (hb.mono HB.out.size)); clear hb) | (go_at_call 11; (with_reducible refine Calls.mono (S0.out _ (HT.out.next HB.out)) ?_); rintro e w1 ⟨rfl, hb⟩; replace HB := Lib.hid (HB.out.trans (hb.mono HB.out.size)); clear hb) | (go_at_call 24; (with_reducible refine Calls.mono (K1.out _ (HT.out.next HB.out)) ?_); rintro e w1 ⟨rfl, hb⟩; replace HB := Lib.hid (HB.out.trans (hb.mono HB.out.size)); clear hb) | (go_at_call 24; (with_reducible refine Calls.mono (K2.out _ (HT.out.next HB.out)) ?_); rintro e w1 ⟨rfl, hb⟩; replace HB := Lib.hid (HB.out.trans (hb.mono HB.out.size)); clear hb) | (go_at_call 23; (with_reducible refine Calls.mono (N1.out _ (HT.out.next HB.out)) ?_); rintro e w1 ⟨rfl, hb⟩; replace HB := Lib.hid (HB.out.trans (hb.mono HB.out.size)); clear hb) | (go_at_call 23; (with_reducible refine Calls.mono (N2.out _ (HT.out.next HB.out)) ?_); rintro e w1 ⟨rfl, hb⟩; replace HB := Lib.hid (HB.out.trans (hb.mono HB.out.size)); clear hb) | (go_at_call 23; (with_reducible refine Calls.mono (N3.out _ (HT.out.next HB.out)) ?_); rintro e w1 ⟨rfl, hb⟩; replace HB := Lib.hid (HB.out.trans (hb.mono HB.out.size)); clear hb) | (go_at_call 19; (with_reducible refine Calls.mono (V1.out _ (HT.out.next HB.out)) ?_); rintro e w1 ⟨rfl, hb⟩; replace HB := Lib.hid (HB.out.trans (hb.mono HB.out.size)); clear hb) | (go_at_call 19; (with_reducible refine Calls.mono (V2.out _ (HT.out.next HB.out)) ?_); rintro e w1 ⟨rfl, hb⟩; replace HB := Lib.hid (HB.out.trans (hb.mono HB.out.size)); clear hb) | (go_at_call 17; (with_reducible refine Calls.mono (Q1.out _ (HT.out.next HB.out)) ?_); rintro e w1 ⟨rfl, hb⟩; replace HB := Lib.hid (HB.out.trans (hb.mono HB.out.size)); clear hb) | (go_at_call 14; (with_reducible refine Calls.mono (A1.out _ (HT.out.next HB.out)) ?_); rintro e w1 ⟨rfl, hb⟩; replace HB := Lib.hid (HB.out.trans (hb.mono HB.out.size)); clear hb) | (go_at_call 15; (with_reducible refine Calls.mono (A2.out _ (HT.out.next HB.out)) ?_); rintro e w1 ⟨rfl, hb⟩; replace HB := Lib.hid (HB.out.trans (hb.mono HB.out.size)); clear hb) | (go_at_call 14; (with_reducible refine Calls.mono (A3.out _ (HT.out.next HB.out)) ?_); rintro e w1 ⟨rfl, hb⟩; replace HB := Lib.hid (HB.out.trans (hb.mono HB.out.size)); clear hb) | (go_at_call 16; (with_reducible refine Calls.mono (A5.out _ (HT.out.next HB.out)) ?_); rintro e w1 ⟨rfl, hb⟩; replace HB := Lib.hid (HB.out.trans (hb.mono HB.out.size)); clear hb))
        go_ret
        exact ⟨rfl, HB.out⟩
  · by_cases hm0' : m = 0
    · by_cases hsm : m + n < 200
      · have hA : CallT 14 #[.string (bs (Lib.itoa M)), strOf (Lib.itoa x)] (.tuple #[strOf (Lib.itoa (M + x)), .int .i64 0]) := add_c M x _ rfl okM okx (by rw [ok_iff]; exact decide_eq_true (by omega))
        have hS : CallT 15 #[.string (⟨#[45]⟩ ++ bs (Lib.itoa M)), strOf (Lib.itoa x)] (.tuple #[strOf (Lib.itoa (-M - x)), .int .i64 0]) := by rw [hneg]; exact sub_c (-M) x _ rfl okN okx (by rw [ok_iff]; exact decide_eq_true (by omega))
        obtain ⟨g, hg⟩ : ∃ g, sg x 0 = g := ⟨_, rfl⟩
        have tg : decide (0 < g) = false := by
          rw [← hg]
          rcases Int.lt_trichotomy x 0 with h | h | h
          · rw [sg_lt h]; decide
          · rw [sg_eq h]; decide
          · exact absurd h hgr
        have A1 := Lib.hid hA; have A2 := Lib.hid hS
        have hB : CallT 14 #[.string (bs (nin m)), .string ⟨#[49]⟩] (.tuple #[.string ⟨#[]⟩, .int .i64 30]) := fun u _ => by
          subst hm0'
          exact Add_bad [] [49] u (by decide +kernel)
        have hC : CallT 14 #[.string ⟨#[48]⟩, .string ⟨#[49]⟩] (.tuple #[.string (bs (Lib.itoa (tm : Int))), .int .i64 0]) := by
          rw [← lit0, ← lit1, show ((tm : Nat) : Int) = 1 from by rw [← htm, hm0']; rfl]
          exact add_c 0 1 1 rfl ok0 ok1 ok1
        have A3 := Lib.hid hB; have A4 := Lib.hid hC
        have okP : okz (P : Int) = true := by
          rw [ok_iff]; refine decide_eq_true ?_
          rw [Int.natAbs_natCast, big_def]
          exact Nat.lt_of_lt_of_le hPl (Nat.pow_le_pow_right (by decide) (by omega))
        have hL : (bs (Lib.itoa (P : Int))).size = m + n + 1 := by rw [bs_size, Lib.itoa_nonneg]; exact len_of P (m + n) hPg hPl
        have hQ : CallT 16 #[.string (bs (Lib.itoa (tm : Int))), .string (⟨#[49]⟩ ++ bs (nin n))] (.tuple #[.string (bs (Lib.itoa (P : Int))), .int .i64 0]) := by rw [hone]; exact mul_c _ _ _ hprod okm okn okP
        have tL : ((((bs (Lib.itoa (P : Int))).size : Nat) : Int) == (m : Int) + (n : Int) + 1) = true := by rw [hL]; simp
        have ts : decide ((m : Int) + (n : Int) < 200) = true := decide_eq_true (by omega)
        have A5 := Lib.hid hQ
        have w1 : IntKind.i64.wrap ((m : Int) + (n : Int)) = (m : Int) + (n : Int) := IntWalk.i64_in _ (by omega)
        have w2 : IntKind.i64.wrap ((m : Int) + (n : Int) + 1) = (m : Int) + (n : Int) + 1 := IntWalk.i64_in _ (by omega)
        have te : (⟨#[]⟩ : ByteArray).toList.isEmpty = true := by rw [ByteArray.toList_eq]; rfl
        have tz : ((m : Int) == 0) = true := by rw [beq_iff_eq]; omega
        have Q1 : Hid (CallT 17 #[strOf (Lib.itoa x), .string ⟨#[48]⟩] (.int .i64 (g))) := Lib.hid (by rw [← lit0]; exact cmp_c (x) (0) _ (hg) okx ok0)
        generalize bs (Lib.itoa M) = SM at *
        generalize bs (nin m) = SA at *
        generalize bs (nin n) = SB at *
        generalize bs (Lib.itoa (tm : Int)) = SC at *
        generalize bs (Lib.itoa (P : Int)) = SP at *
        have c1 : ¬ ((⟨#[45]⟩ : ByteArray).size + SM.size > 9223372036854775807) := by show ¬ (1 + SM.size > _); omega
        have c2 : ¬ (9223372036854775807 < 1 + SM.size) := by omega
        have c3 : ¬ (SM.size + (⟨#[57]⟩ : ByteArray).size > 9223372036854775807) := by show ¬ (SM.size + 1 > _); omega
        have c4 : ¬ (9223372036854775807 < SM.size + 1) := by omega
        have c5 : ¬ ((⟨#[49]⟩ : ByteArray).size + SB.size > 9223372036854775807) := by show ¬ (1 + SB.size > _); omega
        have c6 : ¬ (9223372036854775807 < 1 + SB.size) := by omega
        have HT := Lib.hid ht
        have HB := Lib.hid (Below.refl w.heap.size w)
        clear ht hx hx5 hmost hneg hmore hone hP hPg hPl htm htn hnp okm okn hprod okM okN okx hM hbg hV1 hV2 hA hS hB hQ okP hml hnl hm0 hm1 hn0 hn1 hm0' hgr hsm s1 s2 hg hC hL
        go_enter Tryd.func10, Tryd.ntmps10
        go_wp2_with (first | (go_at_call 20; (with_reducible refine Calls.mono (M1.out _ (HT.out.next HB.out)) ?_); rintro e w1 ⟨rfl, hb⟩; replace HB := Lib.hid (HB.out.trans (hb.mono HB.out.size)); clear hb) | (go_at_call 11; (with_reducible refine Calls.mono (S0.out _ (HT.out.next HB.out)) ?_); rintro e w1 ⟨rfl, hb⟩; replace HB := Lib.hid (HB.out.trans (hb.mono HB.out.size)); clear hb) | (go_at_call 24; (with_reducible refine Calls.mono (K1.out _ (HT.out.next HB.out)) ?_); rintro e w1 ⟨rfl, hb⟩; replace HB := Lib.hid (HB.out.trans (hb.mono HB.out.size)); clear hb) | (go_at_call 24; (with_reducible refine Calls.mono (K2.out _ (HT.out.next HB.out)) ?_); rintro e w1 ⟨rfl, hb⟩; replace HB := Lib.hid (HB.out.trans (hb.mono HB.out.size)); clear hb) | (go_at_call 23; (with_reducible refine Calls.mono (N1.out _ (HT.out.next HB.out)) ?_); rintro e w1 ⟨rfl, hb⟩; replace HB := Lib.hid (HB.out.trans (hb.mono HB.out.size)); clear hb) | (go_at_call 23; (with_reducible refine Calls.mono (N2.out _ (HT.out.next HB.out)) ?_); rintro e w1 ⟨rfl, hb⟩; replace HB := Lib.hid (HB.out.trans (hb.mono HB.out.size)); clear hb) | (go_at_call 23; (with_reducible refine Calls.mono (N3.out _ (HT.out.next HB.out)) ?_); rintro e w1 ⟨rfl, hb⟩; replace HB := Lib.hid (HB.out.trans (hb.mono HB.out.size)); clear hb) | (go_at_call 19; (with_reducible refine Calls.mono (V1.out _ (HT.out.next HB.out)) ?_); rintro e w1 ⟨rfl, hb⟩; replace HB := Lib.hid (HB.out.trans (hb.mono HB.out.size)); clear hb) | (go_at_call 19; (with_reducible refine Calls.mono (V2.out _ (HT.out.next HB.out)) ?_); rintro e w1 ⟨rfl, hb⟩; replace HB := Lib.hid (HB.out.trans (hb.mono HB.out.size)); clear hb) | (go_at_call 17; (with_reducible refine Calls.mono (Q1.out _ (HT.out.next HB.out)) ?_); rintro e w1 ⟨rfl, hb⟩; replace HB := Lib.hid (HB.out.trans (hb.mono HB.out.size)); clear hb) | (go_at_call 14; (with_reducible refine Calls.mono (A1.out _ (HT.out.next HB.out)) ?_); rintro e w1 ⟨rfl, hb⟩; replace HB := Lib.hid (HB.out.trans (hb.mono HB.out.size)); clear hb) | (go_at_call 15; (with_reducible refine Calls.mono (A2.out _ (HT.out.next HB.out)) ?_); rintro e w1 ⟨rfl, hb⟩; replace HB := Lib.hid (HB.out.trans (hb.mono HB.out.size)); clear hb) | (go_at_call 14; (with_reducible refine Calls.mono (A3.out _ (HT.out.next HB.out)) ?_); rintro e w1 ⟨rfl, hb⟩; replace HB := Lib.hid (HB.out.trans (hb.mono HB.out.size)); clear hb) | (go_at_call 14; (with_reducible refine Calls.mono (A4.out _ (HT.out.next HB.out)) ?_); rintro e w1 ⟨rfl, hb⟩; replace HB := Lib.hid (HB.out.trans (hb.mono HB.out.size)); clear hb) | (go_at_call 16; (with_reducible refine Calls.mono (A5.out _ (HT.out.next HB.out)) ?_); rintro e w1 ⟨rfl, hb⟩; replace HB := Lib.hid (HB.out.trans (hb.mono HB.out.size)); clear hb))
        go_ret
        exact ⟨rfl, HB.out⟩
      · have hA : CallT 14 #[.string (bs (Lib.itoa M)), strOf (Lib.itoa x)] (.tuple #[strOf (Lib.itoa (M + x)), .int .i64 0]) := add_c M x _ rfl okM okx (by rw [ok_iff]; exact decide_eq_true (by omega))
        have hS : CallT 15 #[.string (⟨#[45]⟩ ++ bs (Lib.itoa M)), strOf (Lib.itoa x)] (.tuple #[strOf (Lib.itoa (-M - x)), .int .i64 0]) := by rw [hneg]; exact sub_c (-M) x _ rfl okN okx (by rw [ok_iff]; exact decide_eq_true (by omega))
        obtain ⟨g, hg⟩ : ∃ g, sg x 0 = g := ⟨_, rfl⟩
        have tg : decide (0 < g) = false := by
          rw [← hg]
          rcases Int.lt_trichotomy x 0 with h | h | h
          · rw [sg_lt h]; decide
          · rw [sg_eq h]; decide
          · exact absurd h hgr
        have A1 := Lib.hid hA; have A2 := Lib.hid hS
        have hB : CallT 14 #[.string (bs (nin m)), .string ⟨#[49]⟩] (.tuple #[.string ⟨#[]⟩, .int .i64 30]) := fun u _ => by
          subst hm0'
          exact Add_bad [] [49] u (by decide +kernel)
        have hC : CallT 14 #[.string ⟨#[48]⟩, .string ⟨#[49]⟩] (.tuple #[.string (bs (Lib.itoa (tm : Int))), .int .i64 0]) := by
          rw [← lit0, ← lit1, show ((tm : Nat) : Int) = 1 from by rw [← htm, hm0']; rfl]
          exact add_c 0 1 1 rfl ok0 ok1 ok1
        have A3 := Lib.hid hB; have A4 := Lib.hid hC
        have okP : okz (P : Int) = false := by
          rw [ok_iff]; refine decide_eq_false ?_
          rw [Int.natAbs_natCast, big_def]
          have := Nat.pow_le_pow_right (show 0 < 10 by decide) (show 200 ≤ m + n by omega)
          exact Nat.not_lt.2 (Nat.le_trans this hPg)
        have hQ : CallT 16 #[.string (bs (Lib.itoa (tm : Int))), .string (⟨#[49]⟩ ++ bs (nin n))] (.tuple #[.string ⟨#[]⟩, .int .i64 30]) := by rw [hone]; exact mulb_c _ _ okm okn (by rw [hprod]; exact okP)
        have ts : decide ((m : Int) + (n : Int) < 200) = false := decide_eq_false (by omega)
        have A5 := Lib.hid hQ
        have w1 : IntKind.i64.wrap ((m : Int) + (n : Int)) = (m : Int) + (n : Int) := IntWalk.i64_in _ (by omega)
        have w2 : IntKind.i64.wrap ((m : Int) + (n : Int) + 1) = (m : Int) + (n : Int) + 1 := IntWalk.i64_in _ (by omega)
        have te : (⟨#[]⟩ : ByteArray).toList.isEmpty = true := by rw [ByteArray.toList_eq]; rfl
        have tz : ((m : Int) == 0) = true := by rw [beq_iff_eq]; omega
        have Q1 : Hid (CallT 17 #[strOf (Lib.itoa x), .string ⟨#[48]⟩] (.int .i64 (g))) := Lib.hid (by rw [← lit0]; exact cmp_c (x) (0) _ (hg) okx ok0)
        generalize bs (Lib.itoa M) = SM at *
        generalize bs (nin m) = SA at *
        generalize bs (nin n) = SB at *
        generalize bs (Lib.itoa (tm : Int)) = SC at *
        generalize bs (Lib.itoa (P : Int)) = SP at *
        have c1 : ¬ ((⟨#[45]⟩ : ByteArray).size + SM.size > 9223372036854775807) := by show ¬ (1 + SM.size > _); omega
        have c2 : ¬ (9223372036854775807 < 1 + SM.size) := by omega
        have c3 : ¬ (SM.size + (⟨#[57]⟩ : ByteArray).size > 9223372036854775807) := by show ¬ (SM.size + 1 > _); omega
        have c4 : ¬ (9223372036854775807 < SM.size + 1) := by omega
        have c5 : ¬ ((⟨#[49]⟩ : ByteArray).size + SB.size > 9223372036854775807) := by show ¬ (1 + SB.size > _); omega
        have c6 : ¬ (9223372036854775807 < 1 + SB.size) := by omega
        have HT := Lib.hid ht
        have HB := Lib.hid (Below.refl w.heap.size w)
        clear ht hx hx5 hmost hneg hmore hone hP hPg hPl htm htn hnp okm okn hprod okM okN okx hM hbg hV1 hV2 hA hS hB hQ okP hml hnl hm0 hm1 hn0 hn1 hm0' hgr hsm s1 s2 hg hC
        go_enter Tryd.func10, Tryd.ntmps10
        go_wp2_with (first | (go_at_call 20; (with_reducible refine Calls.mono (M1.out _ (HT.out.next HB.out)) ?_); rintro e w1 ⟨rfl, hb⟩; replace HB := Lib.hid (HB.out.trans (hb.mono HB.out.size)); clear hb) | (go_at_call 11; (with_reducible refine Calls.mono (S0.out _ (HT.out.next HB.out)) ?_); rintro e w1 ⟨rfl, hb⟩; replace HB := Lib.hid (HB.out.trans (hb.mono HB.out.size)); clear hb) | (go_at_call 24; (with_reducible refine Calls.mono (K1.out _ (HT.out.next HB.out)) ?_); rintro e w1 ⟨rfl, hb⟩; replace HB := Lib.hid (HB.out.trans (hb.mono HB.out.size)); clear hb) | (go_at_call 24; (with_reducible refine Calls.mono (K2.out _ (HT.out.next HB.out)) ?_); rintro e w1 ⟨rfl, hb⟩; replace HB := Lib.hid (HB.out.trans (hb.mono HB.out.size)); clear hb) | (go_at_call 23; (with_reducible refine Calls.mono (N1.out _ (HT.out.next HB.out)) ?_); rintro e w1 ⟨rfl, hb⟩; replace HB := Lib.hid (HB.out.trans (hb.mono HB.out.size)); clear hb) | (go_at_call 23; (with_reducible refine Calls.mono (N2.out _ (HT.out.next HB.out)) ?_); rintro e w1 ⟨rfl, hb⟩; replace HB := Lib.hid (HB.out.trans (hb.mono HB.out.size)); clear hb) | (go_at_call 23; (with_reducible refine Calls.mono (N3.out _ (HT.out.next HB.out)) ?_); rintro e w1 ⟨rfl, hb⟩; replace HB := Lib.hid (HB.out.trans (hb.mono HB.out.size)); clear hb) | (go_at_call 19; (with_reducible refine Calls.mono (V1.out _ (HT.out.next HB.out)) ?_); rintro e w1 ⟨rfl, hb⟩; replace HB := Lib.hid (HB.out.trans (hb.mono HB.out.size)); clear hb) | (go_at_call 19; (with_reducible refine Calls.mono (V2.out _ (HT.out.next HB.out)) ?_); rintro e w1 ⟨rfl, hb⟩; replace HB := Lib.hid (HB.out.trans (hb.mono HB.out.size)); clear hb) | (go_at_call 17; (with_reducible refine Calls.mono (Q1.out _ (HT.out.next HB.out)) ?_); rintro e w1 ⟨rfl, hb⟩; replace HB := Lib.hid (HB.out.trans (hb.mono HB.out.size)); clear hb) | (go_at_call 14; (with_reducible refine Calls.mono (A1.out _ (HT.out.next HB.out)) ?_); rintro e w1 ⟨rfl, hb⟩; replace HB := Lib.hid (HB.out.trans (hb.mono HB.out.size)); clear hb) | (go_at_call 15; (with_reducible refine Calls.mono (A2.out _ (HT.out.next HB.out)) ?_); rintro e w1 ⟨rfl, hb⟩; replace HB := Lib.hid (HB.out.trans (hb.mono HB.out.size)); clear hb) | (go_at_call 14; (with_reducible refine Calls.mono (A3.out _ (HT.out.next HB.out)) ?_); rintro e w1 ⟨rfl, hb⟩; replace HB := Lib.hid (HB.out.trans (hb.mono HB.out.size)); clear hb) | (go_at_call 14; (with_reducible refine Calls.mono (A4.out _ (HT.out.next HB.out)) ?_); rintro e w1 ⟨rfl, hb⟩; replace HB := Lib.hid (HB.out.trans (hb.mono HB.out.size)); clear hb) | (go_at_call 16; (with_reducible refine Calls.mono (A5.out _ (HT.out.next HB.out)) ?_); rintro e w1 ⟨rfl, hb⟩; replace HB := Lib.hid (HB.out.trans (hb.mono HB.out.size)); clear hb))
        go_ret
        exact ⟨rfl, HB.out⟩
    · by_cases hsm : m + n < 200
      · have hA : CallT 14 #[.string (bs (Lib.itoa M)), strOf (Lib.itoa x)] (.tuple #[strOf (Lib.itoa (M + x)), .int .i64 0]) := add_c M x _ rfl okM okx (by rw [ok_iff]; exact decide_eq_true (by omega))
        have hS : CallT 15 #[.string (⟨#[45]⟩ ++ bs (Lib.itoa M)), strOf (Lib.itoa x)] (.tuple #[strOf (Lib.itoa (-M - x)), .int .i64 0]) := by rw [hneg]; exact sub_c (-M) x _ rfl okN okx (by rw [ok_iff]; exact decide_eq_true (by omega))
        obtain ⟨g, hg⟩ : ∃ g, sg x 0 = g := ⟨_, rfl⟩
        have tg : decide (0 < g) = false := by
          rw [← hg]
          rcases Int.lt_trichotomy x 0 with h | h | h
          · rw [sg_lt h]; decide
          · rw [sg_eq h]; decide
          · exact absurd h hgr
        have A1 := Lib.hid hA; have A2 := Lib.hid hS
        have hB : CallT 14 #[.string (bs (nin m)), .string ⟨#[49]⟩] (.tuple #[.string (bs (Lib.itoa (tm : Int))), .int .i64 0]) := by
          rw [← lit1, nin_itoa m (by omega)]
          have hp : 0 < 10 ^ m := Nat.pow_pos (by decide)
          rw [ok_iff] at okm
          have okm' := of_decide_eq_true okm
          exact add_c _ 1 _ (by rw [← htm]; omega) (by rw [ok_iff]; exact decide_eq_true (by omega)) ok1 (by rw [ok_iff]; exact okm)
        have A3 := Lib.hid hB
        have okP : okz (P : Int) = true := by
          rw [ok_iff]; refine decide_eq_true ?_
          rw [Int.natAbs_natCast, big_def]
          exact Nat.lt_of_lt_of_le hPl (Nat.pow_le_pow_right (by decide) (by omega))
        have hL : (bs (Lib.itoa (P : Int))).size = m + n + 1 := by rw [bs_size, Lib.itoa_nonneg]; exact len_of P (m + n) hPg hPl
        have hQ : CallT 16 #[.string (bs (Lib.itoa (tm : Int))), .string (⟨#[49]⟩ ++ bs (nin n))] (.tuple #[.string (bs (Lib.itoa (P : Int))), .int .i64 0]) := by rw [hone]; exact mul_c _ _ _ hprod okm okn okP
        have tL : ((((bs (Lib.itoa (P : Int))).size : Nat) : Int) == (m : Int) + (n : Int) + 1) = true := by rw [hL]; simp
        have ts : decide ((m : Int) + (n : Int) < 200) = true := decide_eq_true (by omega)
        have A5 := Lib.hid hQ
        have w1 : IntKind.i64.wrap ((m : Int) + (n : Int)) = (m : Int) + (n : Int) := IntWalk.i64_in _ (by omega)
        have w2 : IntKind.i64.wrap ((m : Int) + (n : Int) + 1) = (m : Int) + (n : Int) + 1 := IntWalk.i64_in _ (by omega)
        have te : (⟨#[]⟩ : ByteArray).toList.isEmpty = true := by rw [ByteArray.toList_eq]; rfl
        have tz : ((m : Int) == 0) = false := by rw [beq_eq_false_iff_ne]; omega
        have Q1 : Hid (CallT 17 #[strOf (Lib.itoa x), .string ⟨#[48]⟩] (.int .i64 (g))) := Lib.hid (by rw [← lit0]; exact cmp_c (x) (0) _ (hg) okx ok0)
        generalize bs (Lib.itoa M) = SM at *
        generalize bs (nin m) = SA at *
        generalize bs (nin n) = SB at *
        generalize bs (Lib.itoa (tm : Int)) = SC at *
        generalize bs (Lib.itoa (P : Int)) = SP at *
        have c1 : ¬ ((⟨#[45]⟩ : ByteArray).size + SM.size > 9223372036854775807) := by show ¬ (1 + SM.size > _); omega
        have c2 : ¬ (9223372036854775807 < 1 + SM.size) := by omega
        have c3 : ¬ (SM.size + (⟨#[57]⟩ : ByteArray).size > 9223372036854775807) := by show ¬ (SM.size + 1 > _); omega
        have c4 : ¬ (9223372036854775807 < SM.size + 1) := by omega
        have c5 : ¬ ((⟨#[49]⟩ : ByteArray).size + SB.size > 9223372036854775807) := by show ¬ (1 + SB.size > _); omega
        have c6 : ¬ (9223372036854775807 < 1 + SB.size) := by omega
        have HT := Lib.hid ht
        have HB := Lib.hid (Below.refl w.heap.size w)
        clear ht hx hx5 hmost hneg hmore hone hP hPg hPl htm htn hnp okm okn hprod okM okN okx hM hbg hV1 hV2 hA hS hB hQ okP hml hnl hm0 hm1 hn0 hn1 hm0' hgr hsm s1 s2 hg hL
        go_enter Tryd.func10, Tryd.ntmps10
        go_wp2_with (first | (go_at_call 20; (with_reducible refine Calls.mono (M1.out _ (HT.out.next HB.out)) ?_); rintro e w1 ⟨rfl, hb⟩; replace HB := Lib.hid (HB.out.trans (hb.mono HB.out.size)); clear hb) | (go_at_call 11; (with_reducible refine Calls.mono (S0.out _ (HT.out.next HB.out)) ?_); rintro e w1 ⟨rfl, hb⟩; replace HB := Lib.hid (HB.out.trans (hb.mono HB.out.size)); clear hb) | (go_at_call 24; (with_reducible refine Calls.mono (K1.out _ (HT.out.next HB.out)) ?_); rintro e w1 ⟨rfl, hb⟩; replace HB := Lib.hid (HB.out.trans (hb.mono HB.out.size)); clear hb) | (go_at_call 24; (with_reducible refine Calls.mono (K2.out _ (HT.out.next HB.out)) ?_); rintro e w1 ⟨rfl, hb⟩; replace HB := Lib.hid (HB.out.trans (hb.mono HB.out.size)); clear hb) | (go_at_call 23; (with_reducible refine Calls.mono (N1.out _ (HT.out.next HB.out)) ?_); rintro e w1 ⟨rfl, hb⟩; replace HB := Lib.hid (HB.out.trans (hb.mono HB.out.size)); clear hb) | (go_at_call 23; (with_reducible refine Calls.mono (N2.out _ (HT.out.next HB.out)) ?_); rintro e w1 ⟨rfl, hb⟩; replace HB := Lib.hid (HB.out.trans (hb.mono HB.out.size)); clear hb) | (go_at_call 23; (with_reducible refine Calls.mono (N3.out _ (HT.out.next HB.out)) ?_); rintro e w1 ⟨rfl, hb⟩; replace HB := Lib.hid (HB.out.trans (hb.mono HB.out.size)); clear hb) | (go_at_call 19; (with_reducible refine Calls.mono (V1.out _ (HT.out.next HB.out)) ?_); rintro e w1 ⟨rfl, hb⟩; replace HB := Lib.hid (HB.out.trans (hb.mono HB.out.size)); clear hb) | (go_at_call 19; (with_reducible refine Calls.mono (V2.out _ (HT.out.next HB.out)) ?_); rintro e w1 ⟨rfl, hb⟩; replace HB := Lib.hid (HB.out.trans (hb.mono HB.out.size)); clear hb) | (go_at_call 17; (with_reducible refine Calls.mono (Q1.out _ (HT.out.next HB.out)) ?_); rintro e w1 ⟨rfl, hb⟩; replace HB := Lib.hid (HB.out.trans (hb.mono HB.out.size)); clear hb) | (go_at_call 14; (with_reducible refine Calls.mono (A1.out _ (HT.out.next HB.out)) ?_); rintro e w1 ⟨rfl, hb⟩; replace HB := Lib.hid (HB.out.trans (hb.mono HB.out.size)); clear hb) | (go_at_call 15; (with_reducible refine Calls.mono (A2.out _ (HT.out.next HB.out)) ?_); rintro e w1 ⟨rfl, hb⟩; replace HB := Lib.hid (HB.out.trans (hb.mono HB.out.size)); clear hb) | (go_at_call 14; (with_reducible refine Calls.mono (A3.out _ (HT.out.next HB.out)) ?_); rintro e w1 ⟨rfl, hb⟩; replace HB := Lib.hid (HB.out.trans (hb.mono HB.out.size)); clear hb) | (go_at_call 16; (with_reducible refine Calls.mono (A5.out _ (HT.out.next HB.out)) ?_); rintro e w1 ⟨rfl, hb⟩; replace HB := Lib.hid (HB.out.trans (hb.mono HB.out.size)); clear hb))
        go_ret
        exact ⟨rfl, HB.out⟩
      · have hA : CallT 14 #[.string (bs (Lib.itoa M)), strOf (Lib.itoa x)] (.tuple #[strOf (Lib.itoa (M + x)), .int .i64 0]) := add_c M x _ rfl okM okx (by rw [ok_iff]; exact decide_eq_true (by omega))
        have hS : CallT 15 #[.string (⟨#[45]⟩ ++ bs (Lib.itoa M)), strOf (Lib.itoa x)] (.tuple #[strOf (Lib.itoa (-M - x)), .int .i64 0]) := by rw [hneg]; exact sub_c (-M) x _ rfl okN okx (by rw [ok_iff]; exact decide_eq_true (by omega))
        obtain ⟨g, hg⟩ : ∃ g, sg x 0 = g := ⟨_, rfl⟩
        have tg : decide (0 < g) = false := by
          rw [← hg]
          rcases Int.lt_trichotomy x 0 with h | h | h
          · rw [sg_lt h]; decide
          · rw [sg_eq h]; decide
          · exact absurd h hgr
        have A1 := Lib.hid hA; have A2 := Lib.hid hS
        have hB : CallT 14 #[.string (bs (nin m)), .string ⟨#[49]⟩] (.tuple #[.string (bs (Lib.itoa (tm : Int))), .int .i64 0]) := by
          rw [← lit1, nin_itoa m (by omega)]
          have hp : 0 < 10 ^ m := Nat.pow_pos (by decide)
          rw [ok_iff] at okm
          have okm' := of_decide_eq_true okm
          exact add_c _ 1 _ (by rw [← htm]; omega) (by rw [ok_iff]; exact decide_eq_true (by omega)) ok1 (by rw [ok_iff]; exact okm)
        have A3 := Lib.hid hB
        have okP : okz (P : Int) = false := by
          rw [ok_iff]; refine decide_eq_false ?_
          rw [Int.natAbs_natCast, big_def]
          have := Nat.pow_le_pow_right (show 0 < 10 by decide) (show 200 ≤ m + n by omega)
          exact Nat.not_lt.2 (Nat.le_trans this hPg)
        have hQ : CallT 16 #[.string (bs (Lib.itoa (tm : Int))), .string (⟨#[49]⟩ ++ bs (nin n))] (.tuple #[.string ⟨#[]⟩, .int .i64 30]) := by rw [hone]; exact mulb_c _ _ okm okn (by rw [hprod]; exact okP)
        have ts : decide ((m : Int) + (n : Int) < 200) = false := decide_eq_false (by omega)
        have A5 := Lib.hid hQ
        have w1 : IntKind.i64.wrap ((m : Int) + (n : Int)) = (m : Int) + (n : Int) := IntWalk.i64_in _ (by omega)
        have w2 : IntKind.i64.wrap ((m : Int) + (n : Int) + 1) = (m : Int) + (n : Int) + 1 := IntWalk.i64_in _ (by omega)
        have te : (⟨#[]⟩ : ByteArray).toList.isEmpty = true := by rw [ByteArray.toList_eq]; rfl
        have tz : ((m : Int) == 0) = false := by rw [beq_eq_false_iff_ne]; omega
        have Q1 : Hid (CallT 17 #[strOf (Lib.itoa x), .string ⟨#[48]⟩] (.int .i64 (g))) := Lib.hid (by rw [← lit0]; exact cmp_c (x) (0) _ (hg) okx ok0)
        generalize bs (Lib.itoa M) = SM at *
        generalize bs (nin m) = SA at *
        generalize bs (nin n) = SB at *
        generalize bs (Lib.itoa (tm : Int)) = SC at *
        generalize bs (Lib.itoa (P : Int)) = SP at *
        have c1 : ¬ ((⟨#[45]⟩ : ByteArray).size + SM.size > 9223372036854775807) := by show ¬ (1 + SM.size > _); omega
        have c2 : ¬ (9223372036854775807 < 1 + SM.size) := by omega
        have c3 : ¬ (SM.size + (⟨#[57]⟩ : ByteArray).size > 9223372036854775807) := by show ¬ (SM.size + 1 > _); omega
        have c4 : ¬ (9223372036854775807 < SM.size + 1) := by omega
        have c5 : ¬ ((⟨#[49]⟩ : ByteArray).size + SB.size > 9223372036854775807) := by show ¬ (1 + SB.size > _); omega
        have c6 : ¬ (9223372036854775807 < 1 + SB.size) := by omega
        have HT := Lib.hid ht
        have HB := Lib.hid (Below.refl w.heap.size w)
        clear ht hx hx5 hmost hneg hmore hone hP hPg hPl htm htn hnp okm okn hprod okM okN okx hM hbg hV1 hV2 hA hS hB hQ okP hml hnl hm0 hm1 hn0 hn1 hm0' hgr hsm s1 s2 hg
        go_enter Tryd.func10, Tryd.ntmps10
        go_wp2_with (first | (go_at_call 20; (with_reducible refine Calls.mono (M1.out _ (HT.out.next HB.out)) ?_); rintro e w1 ⟨rfl, hb⟩; replace HB := Lib.hid (HB.out.trans (hb.mono HB.out.size)); clear hb) | (go_at_call 11; (with_reducible refine Calls.mono (S0.out _ (HT.out.next HB.out)) ?_); rintro e w1 ⟨rfl, hb⟩; replace HB := Lib.hid (HB.out.trans (hb.mono HB.out.size)); clear hb) | (go_at_call 24; (with_reducible refine Calls.mono (K1.out _ (HT.out.next HB.out)) ?_); rintro e w1 ⟨rfl, hb⟩; replace HB := Lib.hid (HB.out.trans (hb.mono HB.out.size)); clear hb) | (go_at_call 24; (with_reducible refine Calls.mono (K2.out _ (HT.out.next HB.out)) ?_); rintro e w1 ⟨rfl, hb⟩; replace HB := Lib.hid (HB.out.trans (hb.mono HB.out.size)); clear hb) | (go_at_call 23; (with_reducible refine Calls.mono (N1.out _ (HT.out.next HB.out)) ?_); rintro e w1 ⟨rfl, hb⟩; replace HB := Lib.hid (HB.out.trans (hb.mono HB.out.size)); clear hb) | (go_at_call 23; (with_reducible refine Calls.mono (N2.out _ (HT.out.next HB.out)) ?_); rintro e w1 ⟨rfl, hb⟩; replace HB := Lib.hid (HB.out.trans (hb.mono HB.out.size)); clear hb) | (go_at_call 23; (with_reducible refine Calls.mono (N3.out _ (HT.out.next HB.out)) ?_); rintro e w1 ⟨rfl, hb⟩; replace HB := Lib.hid (HB.out.trans (hb.mono HB.out.size)); clear hb) | (go_at_call 19; (with_reducible refine Calls.mono (V1.out _ (HT.out.next HB.out)) ?_); rintro e w1 ⟨rfl, hb⟩; replace HB := Lib.hid (HB.out.trans (hb.mono HB.out.size)); clear hb) | (go_at_call 19; (with_reducible refine Calls.mono (V2.out _ (HT.out.next HB.out)) ?_); rintro e w1 ⟨rfl, hb⟩; replace HB := Lib.hid (HB.out.trans (hb.mono HB.out.size)); clear hb) | (go_at_call 17; (with_reducible refine Calls.mono (Q1.out _ (HT.out.next HB.out)) ?_); rintro e w1 ⟨rfl, hb⟩; replace HB := Lib.hid (HB.out.trans (hb.mono HB.out.size)); clear hb) | (go_at_call 14; (with_reducible refine Calls.mono (A1.out _ (HT.out.next HB.out)) ?_); rintro e w1 ⟨rfl, hb⟩; replace HB := Lib.hid (HB.out.trans (hb.mono HB.out.size)); clear hb) | (go_at_call 15; (with_reducible refine Calls.mono (A2.out _ (HT.out.next HB.out)) ?_); rintro e w1 ⟨rfl, hb⟩; replace HB := Lib.hid (HB.out.trans (hb.mono HB.out.size)); clear hb) | (go_at_call 14; (with_reducible refine Calls.mono (A3.out _ (HT.out.next HB.out)) ?_); rintro e w1 ⟨rfl, hb⟩; replace HB := Lib.hid (HB.out.trans (hb.mono HB.out.size)); clear hb) | (go_at_call 16; (with_reducible refine Calls.mono (A5.out _ (HT.out.next HB.out)) ?_); rintro e w1 ⟨rfl, hb⟩; replace HB := Lib.hid (HB.out.trans (hb.mono HB.out.size)); clear hb))
        go_ret
        exact ⟨rfl, HB.out⟩
end Go.Proofs.YtcfgndbljnjheaaDoor
