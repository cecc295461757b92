/- The walk of RationalGrid. -/
import Derived.Test.YtpphpolhigdnjaaGreatDoorX5
import Derived.Test.YtpphpolhigdnjaaGreatDoorQy
namespace Go.Proofs.YtpphpolhigdnjaaGreatDoor
open Go.RowKit Go.Shelf

theorem minus_q (q : Rat) (hq : okq q = true) : CallT 42 #[qv q] (qv (0 - q)) := by
  refine minusL_any _ _ _ _ 0 ?_
  rw [show (rvB ⟨#[48]⟩ ⟨#[49]⟩) = qv 0 from zero_lit.symm]
  refine built _ _ _ fun u hu => ?_
  have h := sub_q 0 q ok_zero hq u hu
  obtain ⟨q1, q2⟩ := okq_iff.1 hq
  have hf : subF 0 q = true := by
    unfold subF
    rw [show (0 : Rat).num = 0 from rfl, show (((0 : Rat).den : Nat) : Int) = 1 from rfl, Int.zero_mul, Int.one_mul, Int.mul_one, Int.zero_sub, ok0, q2, q1, ok_neg q1]; rfl
  rw [hf] at h; exact h
theorem grid_walk (a0 a1 a2 a3 places : Int) (b0 : -9223372036854775808 ≤ a0 ∧ a0 ≤ 9223372036854775807) (b1 : -9223372036854775808 ≤ a1 ∧ a1 ≤ 9223372036854775807) (b2 : -9223372036854775808 ≤ a2 ∧ a2 ≤ 9223372036854775807) (b3 : -9223372036854775808 ≤ a3 ∧ a3 ≤ 9223372036854775807) (bp : -9223372036854775808 ≤ places ∧ places ≤ 9223372036854775807) (w : World) (ht : TabP w) :
    Calls Tryz.prog 8 #[.agg #[.int .i64 a0, .int .i64 a1, .int .i64 a2, .int .i64 a3], .int .i64 places] w fun e w' => e = .returned (.bool true) ∧ Below w.heap.size w w' := by
  have LO := long_c a0 a1 a2 a3 b0 b1 b2 b3
  have hB := longQ_B a0 a1 a2 a3
  generalize longQ a0 a1 a2 a3 = q at *
  have hq := hB.ok (by decide)
  have PK := pickL_any places 31 (by decide) (by decide) bp.1 bp.2
  have lp := pickN_lt places 31 (by decide)
  generalize pickN places 31 = p at *
  have hT : (0 : Int) < ((10 ^ p : Nat) : Int) := by have : 0 < 10 ^ p := Nat.pow_pos (by decide); omega
  have bT : ((10 ^ p : Nat) : Int).natAbs < 10 ^ 31 := by rw [Int.natAbs_natCast]; exact Nat.pow_lt_pow_right (by decide) lp
  have hBT : bs (49 :: zer p) = bs (Lib.itoa ((10 ^ p : Nat) : Int)) := by rw [ten_text]
  have hd := Qm.den_pos q
  have bN : (q.num * ((10 ^ p : Nat) : Int)).natAbs < 10 ^ 131 := mulB hB.1 bT
  have bN2 : ((-q.num) * ((10 ^ p : Nat) : Int)).natAbs < 10 ^ 131 := by rw [Int.neg_mul, Int.natAbs_neg]; exact bN
  have bv : (q.num * ((10 ^ p : Nat) : Int) / ((q.den : Nat) : Int)).natAbs < 10 ^ 131 := Nat.lt_of_le_of_lt (ediv_abs hd) bN
  have bv2 : ((-q.num) * ((10 ^ p : Nat) : Int) / ((q.den : Nat) : Int)).natAbs < 10 ^ 131 := Nat.lt_of_le_of_lt (ediv_abs hd) bN2
  have bu : (cl (q.num * ((10 ^ p : Nat) : Int)) ((q.den : Nat) : Int)).natAbs < 10 ^ 132 := by
    have h := cl_sub (q.num * ((10 ^ p : Nat) : Int)) ((q.den : Nat) : Int)
    have h10 : (10 : Nat) ^ 131 + 1 < 10 ^ 132 := by decide +kernel
    split at h <;> omega
  have hgd := grid_down q.num ((q.den : Nat) : Int) ((10 ^ p : Nat) : Int) hd hT
  have hgu := grid_up q.num ((q.den : Nat) : Int) ((10 ^ p : Nat) : Int) hd hT
  have hng := neg_grid q.num ((q.den : Nat) : Int) ((10 ^ p : Nat) : Int) hd
  have hcs := cl_sub (q.num * ((10 ^ p : Nat) : Int)) ((q.den : Nat) : Int)
  have hwd := width_grid (cl (q.num * ((10 ^ p : Nat) : Int)) ((q.den : Nat) : Int)) (q.num * ((10 ^ p : Nat) : Int) / ((q.den : Nat) : Int)) ((10 ^ p : Nat) : Int) hT
  have htm := times_grid (q.num * ((10 ^ p : Nat) : Int) / ((q.den : Nat) : Int)) ((10 ^ p : Nat) : Int) hT
  rw [Rat.num_divInt_den] at hgd hgu
  have D1 : CallT 23 #[qv q, .int .i64 (p : Int)] (.tuple #[qv (Rat.divInt (q.num * ((10 ^ p : Nat) : Int) / ((q.den : Nat) : Int)) ((10 ^ p : Nat) : Int)), .int .i64 0]) := built _ _ _ fun u hu => by
    have h := down_q q p hq (by omega) u hu
    rw [okB bN (by decide)] at h; exact h
  have U1 : CallT 25 #[qv q, .int .i64 (p : Int)] (.tuple #[qv (Rat.divInt (cl (q.num * ((10 ^ p : Nat) : Int)) ((q.den : Nat) : Int)) ((10 ^ p : Nat) : Int)), .int .i64 0]) := built _ _ _ fun u hu => by
    have h := up_q q p hq (by omega) u hu
    rw [okB bN (by decide)] at h; exact h
  have hqn : okq (0 - q) = true := by
    obtain ⟨q1, q2⟩ := okq_iff.1 hq
    rw [Rat.sub_eq_add_neg, Rat.zero_add]
    exact okq_iff.2 ⟨by rw [Rat.neg_num]; exact ok_neg q1, by rw [Rat.neg_den]; exact q2⟩
  have D2 : CallT 23 #[qv (0 - q), .int .i64 (p : Int)] (.tuple #[qv (Rat.divInt ((-q.num) * ((10 ^ p : Nat) : Int) / ((q.den : Nat) : Int)) ((10 ^ p : Nat) : Int)), .int .i64 0]) := built _ _ _ fun u hu => by
    have h := down_q (0 - q) p hqn (by omega) u hu
    rw [Rat.sub_eq_add_neg, Rat.zero_add, Rat.neg_num, Rat.neg_den, okB bN2 (by decide)] at h
    rw [Rat.sub_eq_add_neg, Rat.zero_add]; exact h
  have okg : ∀ (x : Int), x.natAbs < 10 ^ 132 → okq (Rat.divInt x ((10 ^ p : Nat) : Int)) = true ∧ (Rat.divInt x ((10 ^ p : Nat) : Int)).num.natAbs < 10 ^ 132 ∧ (((Rat.divInt x ((10 ^ p : Nat) : Int)).den : Nat) : Int).natAbs < 10 ^ 31 := fun x hx => by
    have h1 := Qm.red_num_le x ((10 ^ p : Nat) : Int) (by omega)
    have h2 := Qm.red_den_le x ((10 ^ p : Nat) : Int) (by omega)
    refine ⟨red_ok (okB hx (by decide)) (okB bT (by decide)) (by omega), Nat.lt_of_le_of_lt h1 hx, ?_⟩
    rw [Int.natAbs_natCast]; exact Nat.lt_of_le_of_lt h2 bT
  have bv' := Nat.lt_trans bv (show 10 ^ 131 < 10 ^ 132 by decide +kernel)
  have bv2' := Nat.lt_trans bv2 (show 10 ^ 131 < 10 ^ 132 by decide +kernel)
  obtain ⟨oka, bna, bda⟩ := okg _ bv'
  obtain ⟨okb, bnb, bdb⟩ := okg _ bu
  obtain ⟨okc, -, -⟩ := okg _ bv2'
  have hga := on_grid (q.num * ((10 ^ p : Nat) : Int) / ((q.den : Nat) : Int)) ((10 ^ p : Nat) : Int) hT
  have hgb := on_grid (cl (q.num * ((10 ^ p : Nat) : Int)) ((q.den : Nat) : Int)) ((10 ^ p : Nat) : Int) hT
  generalize hv : q.num * ((10 ^ p : Nat) : Int) / ((q.den : Nat) : Int) = v at *
  generalize hu : cl (q.num * ((10 ^ p : Nat) : Int)) ((q.den : Nat) : Int) = u at *
  generalize hc : Rat.divInt ((-q.num) * ((10 ^ p : Nat) : Int) / ((q.den : Nat) : Int)) ((10 ^ p : Nat) : Int) = c at *
  have hT2 : Rat.divInt ((10 ^ p : Nat) : Int) 1 = tenQ p := rfl
  rw [hT2] at htm
  have hav : (Rat.divInt v ((10 ^ p : Nat) : Int) * tenQ p).num = v ∧ (((Rat.divInt v ((10 ^ p : Nat) : Int) * tenQ p).den : Nat) : Int) = 1 := by rw [htm]; exact of_int_num v
  generalize ha : Rat.divInt v ((10 ^ p : Nat) : Int) = a at *
  generalize hb : Rat.divInt u ((10 ^ p : Nat) : Int) = b at *
  have D3 : CallT 23 #[qv b, .int .i64 (p : Int)] (.tuple #[qv b, .int .i64 0]) := built _ _ _ fun x hx => by
    have h := down_q b p okb (by omega) x hx
    rw [okB (mulB bnb bT) (by decide), hgb.1, hb] at h; exact h
  have U2 : CallT 25 #[qv a, .int .i64 (p : Int)] (.tuple #[qv a, .int .i64 0]) := built _ _ _ fun x hx => by
    have h := up_q a p oka (by omega) x hx
    rw [okB (mulB bna bT) (by decide), hga.2, ha] at h; exact h
  have M1 : CallT 42 #[qv c] (qv b) := by
    have h := minus_q c okc
    rw [hng] at h; exact h
  have ML : CallT 39 #[qv a, rvB (bs (Lib.itoa ((10 ^ p : Nat) : Int))) ⟨#[49]⟩] (.tuple #[rvB (bs (Lib.itoa v)) ⟨#[49]⟩, .int .i64 0]) := by
    have e1 : qv (a * tenQ p) = rvB (bs (Lib.itoa v)) ⟨#[49]⟩ := by
      unfold qv rv strOf rvB
      rw [hav.1, hav.2, show Lib.itoa 1 = [49] from by decide +kernel]; rfl
    rw [← e1, ← hBT, ← tenQ_val]
    refine built _ _ _ fun x hx => ?_
    have h := mul_q a (tenQ p) oka (tenQ_ok (by omega)) x hx
    have hf : mulF a (tenQ p) = true := by
      unfold mulF
      rw [tenQ_num, tenQ_den, Int.mul_one, okB (mulB bna bT) (by decide), okB bda (by decide)]; rfl
    rw [hf] at h; exact h
  have WS : CallT 40 #[qv b, qv a] (.tuple #[qv (b - a), .int .i64 0]) := built _ _ _ fun x hx => by
    have h := sub_q b a okb oka x hx
    have hf : subF b a = true := by
      unfold subF
      have k1 := mulB bnb bda
      have k2 := mulB bna bdb
      have k3 := mulB (a := ((b.den : Nat) : Int)) bdb bda
      have k4 : (b.num * ((a.den : Nat) : Int) - a.num * ((b.den : Nat) : Int)).natAbs < 10 ^ 164 := by
        have h10 : (10 : Nat) ^ (132 + 31) + 10 ^ (132 + 31) < 10 ^ 164 := by decide +kernel
        omega
      rw [okB k1 (by decide), okB k2 (by decide), okB k3 (by decide), okB k4 (by decide)]; rfl
    rw [hf] at h; exact h
  have hka := Qm.qcmp_01 a q
  have hkb := Qm.qcmp_01 b q
  have hone : qv (Rat.divInt 1 ((10 ^ p : Nat) : Int)) = rvB ⟨#[49]⟩ (bs (Lib.itoa ((10 ^ p : Nat) : Int))) := by
    obtain ⟨r, h1, h2⟩ := Qm.of_coprime 1 ((10 ^ p : Nat) : Int) hT (by rw [Int.natAbs_one, Nat.gcd_one_left])
    have hr : Rat.divInt 1 ((10 ^ p : Nat) : Int) = r := by rw [← h1, ← h2, Rat.num_divInt_den]
    unfold qv rv strOf rvB
    rw [hr, h1, h2, show Lib.itoa 1 = [49] from by decide +kernel]; rfl
  have hwq : qv (b - a) = if q.num * ((10 ^ p : Nat) : Int) % ((q.den : Nat) : Int) = 0 then rvB ⟨#[48]⟩ ⟨#[49]⟩ else rvB ⟨#[49]⟩ (bs (Lib.itoa ((10 ^ p : Nat) : Int))) := by
    rw [hwd, hcs]
    split
    · rw [Rat.zero_divInt]; exact zero_lit
    · exact hone
  by_cases hr : q.num * ((10 ^ p : Nat) : Int) % ((q.den : Nat) : Int) = 0
  · rw [if_pos hr] at hgd hgu hwq
    rw [hwq] at WS
    exact grid_core a0 a1 a2 a3 places p lp _ _ (by rw [hgd]; decide) (by rw [hgu]; decide) _ _ _ _ _ _ _ _ _ _ _ _ _ _ hBT (.inl ⟨hgd, hgu, rfl, rfl⟩) LO PK D1 U1 (minus_q q hq) D2 M1 (cmp_q a q oka hq) (cmp_q b q okb hq) D3 U2 ML WS w ht
  · rw [if_neg hr] at hgd hgu hwq
    rw [hwq] at WS
    exact grid_core a0 a1 a2 a3 places p lp _ _ (by rw [hgd]; decide) (by rw [hgu]; decide) _ _ _ _ _ _ _ _ _ _ _ _ _ _ hBT (.inr ⟨by rw [hgd]; decide, by rw [hgu]; decide, rfl, rfl⟩) LO PK D1 U1 (minus_q q hq) D2 M1 (cmp_q a q oka hq) (cmp_q b q okb hq) D3 U2 ML WS w ht
end Go.Proofs.YtpphpolhigdnjaaGreatDoor
