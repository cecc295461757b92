/- Atoi at the texts of integers; contract of ToInt. -/
import Derived.Test.YtflpfmkfjccmiaaGreatDoorKf
import Derived.Lib.AtoiAllCases
namespace Go.Proofs.YtflpfmkfjccmiaaGreatDoor
open Go.RowKit

namespace Im
def fv (acc : Nat) (l : List UInt8) : Nat := l.foldl (fun s c => 10 * s + (c.toNat - 48)) acc
theorem fv_ge : ∀ (l : List UInt8) (acc : Nat), acc ≤ fv acc l
  | [], _ => Nat.le_refl _
  | c :: r, acc => by
    have h := fv_ge r (10 * acc + (c.toNat - 48))
    show acc ≤ fv (10 * acc + (c.toNat - 48)) r
    omega
theorem parse_fv : ∀ (l : List UInt8) (acc : Nat), acc < 18446744073709551616 → digs l = true → Lib.parseUint10 acc l = if fv acc l < 18446744073709551616 then .ok (fv acc l) else .range
  | [], acc, ha, _ => by
    show Lib.NumEnd.ok acc = if acc < 18446744073709551616 then .ok acc else .range
    rw [if_pos ha]
  | c :: r, acc, ha, hd => by
    have h1 : (decide (48 ≤ c.toNat) && decide (c.toNat ≤ 57) && digs r) = true := hd
    simp only [Bool.and_eq_true, decide_eq_true_eq] at h1
    have hg := fv_ge r (10 * acc + (c.toNat - 48))
    have e : fv acc (c :: r) = fv (10 * acc + (c.toNat - 48)) r := rfl
    unfold Lib.parseUint10
    rw [if_pos h1.1, e]
    by_cases h2 : 1844674407370955162 ≤ acc
    · rw [if_pos h2, if_neg (by omega)]
    · rw [if_neg h2]
      by_cases h3 : 18446744073709551616 ≤ acc * 10 + (c.toNat - 48)
      · rw [if_pos h3, if_neg (by omega)]
      · rw [if_neg h3, show acc * 10 + (c.toNat - 48) = 10 * acc + (c.toNat - 48) by omega]
        exact parse_fv r _ (by omega) h1.2
theorem parse_dd (n : Nat) : Lib.parseMag (Lib.decDigits n) = if n < 18446744073709551616 then .ok n else .range := by
  unfold Lib.parseMag
  rw [if_neg (dd_ne n), parse_fv _ 0 (by decide) (dd_digs n)]
  have : fv 0 (Lib.decDigits n) = n := dd_dv n
  rw [this]
theorem atoi_in (z : Int) (h0 : -9223372036854775808 ≤ z) (h1 : z ≤ 9223372036854775807) : Lib.atoiAll (Lib.itoa z) = .ok z := by
  by_cases hn : z < 0
  · rw [show Lib.itoa z = 45 :: Lib.decDigits z.natAbs from by unfold Lib.itoa; rw [if_pos hn], Lib.atoiAll_minus, parse_dd, if_pos (by omega)]
    show (if 9223372036854775808 < z.natAbs then Lib.NumEnd.range else .ok (-(z.natAbs : Int))) = _
    rw [if_neg (by omega), show -(z.natAbs : Int) = z by omega]
  · rw [show Lib.itoa z = Lib.decDigits z.natAbs from by unfold Lib.itoa; rw [if_neg hn, show z.toNat = z.natAbs by omega]]
    have hp := parse_dd z.natAbs
    have hd := dd_digs z.natAbs
    cases hl : Lib.decDigits z.natAbs with
    | nil => exact absurd hl (dd_ne _)
    | cons c r =>
      rw [hl] at hp hd
      have h2 : (decide (48 ≤ c.toNat) && decide (c.toNat ≤ 57) && digs r) = true := hd
      simp only [Bool.and_eq_true, decide_eq_true_eq] at h2
      rw [Lib.atoiAll_plain c r (by omega) (by omega), hp, if_pos (by omega)]
      show (if 9223372036854775808 ≤ z.natAbs then Lib.NumEnd.range else .ok (z.natAbs : Int)) = _
      rw [if_neg (by omega), show (z.natAbs : Int) = z by omega]
theorem atoi_out (z : Int) (h : ¬ (-9223372036854775808 ≤ z ∧ z ≤ 9223372036854775807)) : Lib.atoiAll (Lib.itoa z) = .range := by
  by_cases hn : z < 0
  · rw [show Lib.itoa z = 45 :: Lib.decDigits z.natAbs from by unfold Lib.itoa; rw [if_pos hn], Lib.atoiAll_minus, parse_dd]
    by_cases h2 : z.natAbs < 18446744073709551616
    · rw [if_pos h2]
      show (if 9223372036854775808 < z.natAbs then Lib.NumEnd.range else .ok (-(z.natAbs : Int))) = _
      rw [if_pos (by omega)]
    · rw [if_neg h2]; rfl
  · rw [show Lib.itoa z = Lib.decDigits z.natAbs from by unfold Lib.itoa; rw [if_neg hn, show z.toNat = z.natAbs by omega]]
    have hp := parse_dd z.natAbs
    have hd := dd_digs z.natAbs
    cases hl : Lib.decDigits z.natAbs with
    | nil => exact absurd hl (dd_ne _)
    | cons c r =>
      rw [hl] at hp hd
      have h2 : (decide (48 ≤ c.toNat) && decide (c.toNat ≤ 57) && digs r) = true := hd
      simp only [Bool.and_eq_true, decide_eq_true_eq] at h2
      rw [Lib.atoiAll_plain c r (by omega) (by omega), hp]
      by_cases h3 : z.natAbs < 18446744073709551616
      · rw [if_pos h3]
        show (if 9223372036854775808 ≤ z.natAbs then Lib.NumEnd.range else .ok (z.natAbs : Int)) = _
        rw [if_pos (by omega)]
      · rw [if_neg h3]; rfl
end Im

/-- The variable of the range's error holds an error. -/
def ErrP (w : World) : Prop := ∃ tp p, w.var? Tryz.prog "strconv.ErrRange" = some #[.iface tp p]
theorem ErrP.next {w w' : World} (h : ErrP w) (hb : Below w.heap.size w w') : ErrP w' := by
  obtain ⟨tp, p, h⟩ := h
  exact ⟨tp, p, Joins.var_stays (g := 1) (by kernel_rfl) h hb (Nat.le_refl _)⟩
theorem atoi_ok (z : Int) (w : World) (hz : okz z = true) (h0 : -9223372036854775808 ≤ z) (h1 : z ≤ 9223372036854775807) :
    Calls Tryz.prog 49 #[strOf (Lib.itoa z)] w fun e w' => e = .returned (.tuple #[.int .i64 z, .nilIface]) ∧ Below w.heap.size w w' := by
  have hl : (Lib.itoa z).length ≤ 300 := by
    have h2 : (Lib.decDigits z.natAbs).length ≤ 200 := (Im.dd_len _ 200 (by decide)).2 (of_decide_eq_true hz)
    by_cases hn : z < 0
    · rw [neg_itoa hn, List.length_cons]; omega
    · rw [pos_itoa hn]; omega
  refine (Tryz.strconv_Atoi_ok (bs (Lib.itoa z)) (by rw [bs_size]; omega) z (by rw [bs_list]; exact Im.atoi_in z h0 h1) w).mono ?_
  rintro e w' ⟨rfl, h⟩
  refine ⟨rfl, ?_⟩
  rcases h with rfl | ⟨t, rfl⟩
  · exact Below.refl _ _
  · exact Joins.below_bytesWorld _ w _ t (Nat.le_refl _)
theorem atoi_out (z : Int) (w : World) (hz : okz z = true) (he : ErrP w) (h : ¬ (-9223372036854775808 ≤ z ∧ z ≤ 9223372036854775807)) :
    Calls Tryz.prog 49 #[strOf (Lib.itoa z)] w fun e w' => (∃ v t p, e = .returned (.tuple #[.int .i64 v, .iface t p])) ∧ Below w.heap.size w w' := by
  obtain ⟨tp, p, he⟩ := he
  have hl : (Lib.itoa z).length ≤ 300 := by
    have h2 : (Lib.decDigits z.natAbs).length ≤ 200 := (Im.dd_len _ 200 (by decide)).2 (of_decide_eq_true hz)
    by_cases hn : z < 0
    · rw [neg_itoa hn, List.length_cons]; omega
    · rw [pos_itoa hn]; omega
  refine (Tryz.strconv_Atoi_range_var (bs (Lib.itoa z)) (by rw [bs_size]; omega) (by rw [bs_list]; exact Im.atoi_out z h) tp p w he).mono ?_
  rintro e w' ⟨N, rfl, _, _, hb⟩
  exact ⟨⟨_, _, _, rfl⟩, hb⟩
end Go.Proofs.YtflpfmkfjccmiaaGreatDoor
