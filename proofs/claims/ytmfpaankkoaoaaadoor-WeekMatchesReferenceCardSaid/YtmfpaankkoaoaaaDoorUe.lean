/- Contracts of has, run and the closures of And, Or, Not. -/
import Derived.Test.YtmfpaankkoaoaaaDoorUd
import Derived.Laws.BitsLemmas
namespace Go.Proofs.YtmfpaankkoaoaaaDoor
open Go.RowKit

theorem wraps_i64 (n : Int) (h₀ : 0 ≤ n) (h₁ : n < 2 ^ 62) : IntKind.i64.wrap n = n := by rw [IntKind.wrap_i64]; omega
theorem bits_and64 (a b : Nat) (ha : a < 2 ^ 62) (hb : b < 2 ^ 62) : bits .and .i64 (a : Int) (b : Int) = ((a &&& b : Nat) : Int) := (bits_nat .i64 62 (by decide) wraps_i64 a b ha hb).1
theorem bits_or64 (a b : Nat) (ha : a < 2 ^ 62) (hb : b < 2 ^ 62) : bits .or .i64 (a : Int) (b : Int) = ((a ||| b : Nat) : Int) := (bits_nat .i64 62 (by decide) wraps_i64 a b ha hb).2
theorem shift_cast (s k : Nat) : (s : Int) / 2 ^ k = ((s / 2 ^ k : Nat) : Int) := by simp
theorem has_bit (s k : Nat) (hs : s ≤ 16777215) : (bits BinOp.and IntKind.i64 ((s : Int) / 2 ^ k) 1 == 1) = s.testBit k := by
  have hlt : s / 2 ^ k < 2 ^ 62 := Nat.lt_of_le_of_lt (Nat.div_le_self _ _) (by omega)
  rw [shift_cast, show (1 : Int) = ((1 : Nat) : Int) from rfl, bits_and64 _ _ hlt (by decide), Nat.and_one_is_mod, Nat.testBit_eq_decide_div_mod_eq]
  rcases Nat.mod_two_eq_zero_or_one (s / 2 ^ k) with h | h <;> simp [h]
set_option maxHeartbeats 400000 in
theorem has_any (s k : Nat) (hs : s ≤ 16777215) (hk : k < 63) (w : World) : Calls Tryd.prog 33 #[.int .i64 (s : Int), .int .i64 (k : Int)] w fun e w' => e = .returned (.bool (s.testBit k)) ∧ w = w' := by
  have i1 : (0 : Int) ≤ (k : Int) := by omega
  have i2 : (k : Int) < 63 := by omega
  have i3 : (0 : Int) ≤ (s : Int) := by omega
  have HB := Lib.hid (has_bit s k hs)
  go_enter Tryd.func33, Tryd.ntmps33
  go_wp2
  go_ret
  exact ⟨by rw [← HB.out]; rfl, rfl⟩
def AllH : Nat := 16777215
theorem and_c (a b : Nat) (h2 : a ≤ 16777215) (h4 : b ≤ 16777215) (w : World) : Calls Tryd.prog 37 #[.int .i64 (a : Int), .int .i64 (b : Int)] w fun e w' => e = .returned (.int .i64 ((a &&& b : Nat) : Int)) ∧ w = w' := by
  have HB := Lib.hid (bits_and64 a b (by omega) (by omega))
  go_enter Tryd.func37, Tryd.ntmps37
  go_wp2
  go_ret
  exact ⟨by rw [← HB.out]; rfl, rfl⟩
theorem or_c (a b : Nat) (h2 : a ≤ 16777215) (h4 : b ≤ 16777215) (w : World) : Calls Tryd.prog 38 #[.int .i64 (a : Int), .int .i64 (b : Int)] w fun e w' => e = .returned (.int .i64 ((a ||| b : Nat) : Int)) ∧ w = w' := by
  have HB := Lib.hid (bits_or64 a b (by omega) (by omega))
  go_enter Tryd.func38, Tryd.ntmps38
  go_wp2
  go_ret
  exact ⟨by rw [← HB.out]; rfl, rfl⟩
theorem andNot_all (a : Nat) (h : a ≤ 16777215) : bits .andNot .i64 16777215 (a : Int) = 16777215 - (a : Int) := by
  have hb : (BitVec.ofInt 64 (a : Int)).toNat = a := by rw [BitVec.ofInt_natCast, BitVec.toNat_ofNat]; exact Nat.mod_eq_of_lt (by omega)
  have e : (BitVec.ofInt 64 (16777215 : Int) &&& ~~~(BitVec.ofInt 64 (a : Int))).toNat = 16777215 - a := by
    have h2 : BitVec.ofInt 64 (16777215 : Int) &&& ~~~(BitVec.ofInt 64 (a : Int)) = BitVec.ofNat 64 (2 ^ 24 - (a + 1)) := by
      apply BitVec.eq_of_getLsbD_eq
      intro i hi
      rw [BitVec.getLsbD_and, BitVec.getLsbD_not, BitVec.ofInt_natCast, BitVec.getLsbD_ofNat, BitVec.getLsbD_ofNat, Nat.testBit_two_pow_sub_succ (by omega)]
      have : (BitVec.ofInt 64 (16777215 : Int)).getLsbD i = decide (i < 24) := by
        rw [show (16777215 : Int) = ((2 ^ 24 - 1 : Nat) : Int) from rfl, BitVec.ofInt_natCast, BitVec.getLsbD_ofNat, Nat.testBit_two_pow_sub_one]
        simp [hi]
      rw [this]
      simp [hi]
    rw [h2, BitVec.toNat_ofNat, Nat.mod_eq_of_lt (by omega)]
    omega
  show IntKind.i64.wrap ((BitVec.ofInt 64 (16777215 : Int) &&& ~~~(BitVec.ofInt 64 (a : Int))).toNat : Int) = _
  rw [e, wraps_i64 _ (by omega) (by omega)]
  omega
theorem not_c (a : Nat) (b : Int) (h2 : a ≤ 16777215) (w : World) : Calls Tryd.prog 39 #[.int .i64 (a : Int), .int .i64 b] w fun e w' => e = .returned (.int .i64 (16777215 - (a : Int))) ∧ w = w' := by
  have HB := Lib.hid (andNot_all a h2)
  go_enter Tryd.func39, Tryd.ntmps39
  go_wp2
  go_ret
  exact ⟨by rw [← HB.out]; rfl, rfl⟩
theorem wrap64_nat (n : Nat) (hn : n < 2 ^ 62) : wrap64 (n : Int) = (n : Int) := by
  unfold wrap64; omega
set_option maxHeartbeats 400000 in
theorem run_c (a b : Nat) (h1 : a ≤ b) (h3 : b ≤ 25) (w : World) : Calls Tryd.prog 56 #[.int .i64 (a : Int), .int .i64 (b : Int)] w fun e w' => e = .returned (.int .i64 ((2 ^ b - 2 ^ a : Nat) : Int)) ∧ Below w.heap.size w w' := by
  have i1 : (0 : Int) ≤ (a : Int) := by omega
  have i2 : (0 : Int) ≤ (b : Int) := by omega
  have ha : (2 : Nat) ^ a ≤ 2 ^ b := Nat.pow_le_pow_right (by decide) h1
  have hb : (2 : Nat) ^ b ≤ 2 ^ 25 := Nat.pow_le_pow_right (by decide) h3
  have hp : (2 : Nat) ^ 25 = 33554432 := by decide
  have hw : ∀ n : Nat, n < 2 ^ 62 → wrap64 (n : Int) = (n : Int) := fun n hn => wrap64_nat n hn
  have e1 : wrap64 ((2 : Int) ^ b) = ((2 ^ b : Nat) : Int) := by
    rw [show ((2 : Int) ^ b) = ((2 ^ b : Nat) : Int) by simp]
    exact hw _ (by omega)
  have e2 : wrap64 ((2 : Int) ^ a) = ((2 ^ a : Nat) : Int) := by
    rw [show ((2 : Int) ^ a) = ((2 ^ a : Nat) : Int) by simp]
    exact hw _ (by omega)
  have e3 : wrap64 (wrap64 ((2 : Int) ^ b) - wrap64 ((2 : Int) ^ a)) = ((2 ^ b - 2 ^ a : Nat) : Int) := by
    rw [e1, e2, show (((2 ^ b : Nat) : Int) - ((2 ^ a : Nat) : Int)) = ((2 ^ b - 2 ^ a : Nat) : Int) by omega]
    exact hw _ (Nat.lt_of_le_of_lt (Nat.sub_le _ _) (by omega))
  have HE := Lib.hid e3
  clear e1 e2 e3 ha hb hw hp
  go_enter Tryd.func56, Tryd.ntmps56
  go_wp2
  go_quiet (fail)
  go_wp2
  go_ret
  exact ⟨by rw [← HE.out]; rfl, belowN (Below.refl _ _) _⟩
end Go.Proofs.YtmfpaankkoaoaaaDoor
