/- Fractions as values of the program: valid ones, and the contract of Valid. -/
import Derived.Test.YtabkodpjhpjgnaaGreatDoorA6
import Derived.Test.YtabkodpjhpjgnaaGreatDoorQa
namespace Go.Proofs.YtabkodpjhpjgnaaGreatDoor
open Go.RowKit Go.Shelf

/-- A fraction of two strings. -/
abbrev rv (l r : List UInt8) : Value := .agg #[strOf l, strOf r]
/-- Fractions whose integers are not too large. -/
def okq (q : Rat) : Bool := okz q.num && okz ((q.den : Nat) : Int)
theorem okq_iff {q : Rat} : okq q = true ↔ okz q.num = true ∧ okz ((q.den : Nat) : Int) = true := by unfold okq; rw [Bool.and_eq_true]
abbrev qv (q : Rat) : Value := rv (Lib.itoa q.num) (Lib.itoa ((q.den : Nat) : Int))
/-- Are these the strings of a valid fraction? -/
noncomputable def vldR (l r : List UInt8) : Bool := @decide (∃ q : Rat, okq q = true ∧ l = Lib.itoa q.num ∧ r = Lib.itoa ((q.den : Nat) : Int)) (Classical.propDecidable _)
theorem vldR_q {q : Rat} (h : okq q = true) : vldR (Lib.itoa q.num) (Lib.itoa ((q.den : Nat) : Int)) = true := by
  unfold vldR; exact @decide_eq_true _ (Classical.propDecidable _) ⟨q, h, rfl, rfl⟩
theorem vldR_of {l r : List UInt8} (h : vldR l r = true) : ∃ q : Rat, okq q = true ∧ l = Lib.itoa q.num ∧ r = Lib.itoa ((q.den : Nat) : Int) := by
  unfold vldR at h; exact @of_decide_eq_true _ (Classical.propDecidable _) h
theorem vldR_ints {a b : Int} (ha : okz a = true) (hb : okz b = true) (h0 : 0 < b) (hg : Nat.gcd a.natAbs b.natAbs = 1) : vldR (Lib.itoa a) (Lib.itoa b) = true := by
  obtain ⟨q, h1, h2⟩ := Qm.of_coprime a b h0 hg
  have := vldR_q (q := q) (okq_iff.2 ⟨by rw [h1]; exact ha, by rw [h2]; exact hb⟩)
  rw [h1, h2] at this; exact this
theorem split2 (l r : List UInt8) : (Im.vld l && Im.vld r) = false ∨ ∃ a b : Int, l = Lib.itoa a ∧ r = Lib.itoa b ∧ okz a = true ∧ okz b = true := by
  by_cases h : (Im.vld l && Im.vld r) = true
  · rw [Bool.and_eq_true] at h
    obtain ⟨a, h1, ha⟩ := Im.vld_of l h.1
    obtain ⟨b, h2, hb⟩ := Im.vld_of r h.2
    exact .inr ⟨a, b, h1, h2, decide_eq_true ha, decide_eq_true hb⟩
  · exact .inl (by simpa using h)
theorem ok_gcd {a b : Int} (ha : okz a = true) (hb : okz b = true) : okz ((Nat.gcd a.natAbs b.natAbs : Nat) : Int) = true := by
  have h1 := of_decide_eq_true ha
  have h2 := of_decide_eq_true hb
  refine decide_eq_true ?_
  rw [Int.natAbs_natCast]
  by_cases h : a.natAbs = 0
  · rw [h, Nat.gcd_zero_left]; exact h2
  · exact Nat.lt_of_le_of_lt (Nat.gcd_le_left _ (by omega)) h1

/-- Which way Valid goes: what Gcd returns, and whether Compare is asked. -/
theorem valid_ways (l r : List UInt8) : (∃ s e, vldR l r = false ∧ ((bs s).toList == [49]) = false ∧ CallT 62 #[strOf l, strOf r] (.tuple #[strOf s, .int .i64 e])) ∨
    (∃ g : Int, decide (0 < g) = vldR l r ∧ CallT 62 #[strOf l, strOf r] (.tuple #[strOf (Lib.itoa 1), .int .i64 0]) ∧ CallT 63 #[strOf r, .string ⟨#[48]⟩] (.int .i64 g)) := by
  have hv : ∀ q : Rat, okq q = true → l = Lib.itoa q.num → r = Lib.itoa ((q.den : Nat) : Int) → vldR l r = true := fun q h1 h2 h3 => by rw [h2, h3]; exact vldR_q h1
  rcases split2 l r with h | ⟨a, b, rfl, rfl, ha, hb⟩
  · refine .inl ⟨[], 30, ?_, by rw [ByteArray.toList_eq, bs_list]; rfl, fun u _ => Gcd_bad l r u h⟩
    cases hx : vldR l r with
    | false => rfl
    | true =>
      obtain ⟨q, h1, h2, h3⟩ := vldR_of hx
      rw [h2, h3, vld_ok (okq_iff.1 h1).1, vld_ok (okq_iff.1 h1).2] at h; cases h
  · by_cases hg : Nat.gcd a.natAbs b.natAbs = 1
    · refine .inr ⟨sg b 0, ?_, by rw [show (1 : Int) = ((Nat.gcd a.natAbs b.natAbs : Nat) : Int) from by rw [hg]; rfl]; exact gcd_c a b _ rfl ha hb (ok_gcd ha hb), by rw [← lit0]; exact cmp_c b 0 _ rfl hb ok0⟩
      by_cases h0 : 0 < b
      · rw [vldR_ints ha hb h0 hg, sg_gt h0]; rfl
      · have hx : vldR (Lib.itoa a) (Lib.itoa b) = false := by
          cases hx : vldR (Lib.itoa a) (Lib.itoa b) with
          | false => rfl
          | true =>
            obtain ⟨q, h1, h2, h3⟩ := vldR_of hx
            have := Im.itoa_inj h3
            have := Qm.den_pos q
            omega
        rw [hx]
        refine decide_eq_false ?_
        unfold sg
        repeat' split
        all_goals omega
    · refine .inl ⟨Lib.itoa ((Nat.gcd a.natAbs b.natAbs : Nat) : Int), 0, ?_, by rw [txt_one]; exact decide_eq_false (by omega), gcd_c a b _ rfl ha hb (ok_gcd ha hb)⟩
      cases hx : vldR (Lib.itoa a) (Lib.itoa b) with
      | false => rfl
      | true =>
        obtain ⟨q, h1, h2, h3⟩ := vldR_of hx
        have e2 := Im.itoa_inj h2
        have e3 := Im.itoa_inj h3
        exfalso
        apply hg
        rw [e2, e3, Int.natAbs_natCast]; exact Qm.qgcd q

set_option maxRecDepth 100000 in
set_option maxHeartbeats 1000000 in
theorem valid_r (l r : List UInt8) : CallT 29 #[rv l r] (.bool (vldR l r)) := fun w hw => by
  have HT := Lib.hid hw
  rcases valid_ways l r with ⟨s, e, hv, hs, hg⟩ | ⟨g, hv, hg, hc⟩
  · rw [hv]
    have HG := Lib.hid hg
    clear hv hg hw
    unfold rv strOf at *
    generalize bs l = L at *
    generalize bs r = R at *
    generalize bs s = S at *
    have HB := Lib.hid ((Below.refl w.heap.size w).alloc (Nat.le_refl _) (.cells #[.string L, .string R] 23))
    go_enter Tryz.func29, Tryz.ntmps29
    go_wp2_with (go_at_call 62; (with_reducible refine Calls.mono (HG.out _ (HT.out.next HB.out)) ?_); rintro e w1 ⟨rfl, hb⟩; replace HB := Lib.hid (below_to HB.out hb); clear hb)
    go_ret
    exact ⟨rfl, HB.out⟩
  · rw [← hv]
    have HG := Lib.hid hg
    have HC := Lib.hid hc
    clear hv hg hc hw
    have h1 : (bs (Lib.itoa 1)).toList = [49] := by rw [show Lib.itoa 1 = [49] from by decide +kernel, ByteArray.toList_eq, bs_list]
    unfold rv strOf at *
    generalize bs l = L at *
    generalize bs r = R at *
    generalize bs (Lib.itoa 1) = S at *
    have hr := Row.new w 23 #[.string L, .string R]
    have HR := Lib.hid hr
    have HB := Lib.hid ((Below.refl w.heap.size w).alloc (Nat.le_refl _) (.cells #[.string L, .string R] 23))
    have hs : w.heap.size < (w.alloc (.cells #[.string L, .string R] 23)).heap.size := by simp
    clear hr
    go_enter Tryz.func29, Tryz.ntmps29
    go_wp2_with (first | (go_at_call 62; (with_reducible refine Calls.mono (HG.out _ (HT.out.next HB.out)) ?_); rintro e w1 ⟨rfl, hb⟩; have hc1 : w1.cell? ⟨w.heap.size, 1, none⟩ = some (.string R) := (HR.out.below hb hs).cell 1; replace HB := Lib.hid (below_to HB.out hb); clear hb) | (go_at_call 63; (with_reducible refine Calls.mono (HC.out _ (HT.out.next HB.out)) ?_); rintro e w2 ⟨rfl, hb⟩; replace HB := Lib.hid (below_to HB.out hb); clear hb))
    go_ret
    exact ⟨rfl, HB.out⟩
end Go.Proofs.YtabkodpjhpjgnaaGreatDoor
