/- What the walks of the laws have in common: bounds, and each call of the program at integers. -/
import Derived.Test.YtflpfmkfjccmiaaGreatDoorKe
namespace Go.Proofs.YtflpfmkfjccmiaaGreatDoor
open Go.RowKit

/-- At most k digits. -/
def B (k : Nat) (z : Int) : Prop := z.natAbs < 10 ^ k
theorem B.mono {j k : Nat} {z : Int} (h : B j z) (hk : j ≤ k) : B k z := Nat.lt_of_lt_of_le h (Nat.pow_le_pow_right (by decide) hk)
theorem B.add {k : Nat} {a b : Int} (ha : B k a) (hb : B k b) : B (k + 1) (a + b) := by
  unfold B at *
  rw [Nat.pow_succ]; omega
theorem B.sub {k : Nat} {a b : Int} (ha : B k a) (hb : B k b) : B (k + 1) (a - b) := by
  unfold B at *
  rw [Nat.pow_succ]; omega
theorem B.mul {j k : Nat} {a b : Int} (ha : B j a) (hb : B k b) : B (j + k) (a * b) := by
  unfold B at *
  rw [Int.natAbs_mul, Nat.pow_add]
  exact Nat.mul_lt_mul'' ha hb
theorem B.ok {k : Nat} {z : Int} (h : B k z) (hk : k ≤ 200) : okz z = true := decide_eq_true (h.mono hk)
theorem made_B (s : ByteArray) (m : Nat) : B m (madeZ s m) := madeZ_lt s m
theorem outT_ok {z : Int} (h : okz z = true) : outT z = Lib.itoa z := if_pos h
theorem errT_ok {z : Int} (h : okz z = true) : errT z = 0 := if_pos h

theorem add_c (a b z : Int) (hz : a + b = z) (ha : okz a = true) (hb : okz b = true) (hc : okz z = true) : CallT 7 #[strOf (Lib.itoa a), strOf (Lib.itoa b)] (.tuple #[strOf (Lib.itoa z), .int .i64 0]) := fun u hu => by
  subst hz
  have h := Add_ok a b u hu ha hb
  unfold TextP at h
  rw [outT_ok hc, errT_ok hc] at h; exact h
theorem sub_c (a b z : Int) (hz : a - b = z) (ha : okz a = true) (hb : okz b = true) (hc : okz z = true) : CallT 9 #[strOf (Lib.itoa a), strOf (Lib.itoa b)] (.tuple #[strOf (Lib.itoa z), .int .i64 0]) := fun u hu => by
  subst hz
  have h := Sub_ok a b u hu ha hb
  unfold TextP at h
  rw [outT_ok hc, errT_ok hc] at h; exact h
theorem mul_c (a b z : Int) (hz : a * b = z) (ha : okz a = true) (hb : okz b = true) (hc : okz z = true) : CallT 11 #[strOf (Lib.itoa a), strOf (Lib.itoa b)] (.tuple #[strOf (Lib.itoa z), .int .i64 0]) := fun u hu => by
  subst hz
  have h := Mul_ok a b u hu ha hb
  unfold TextP at h
  rw [outT_ok hc, errT_ok hc] at h; exact h
theorem gcd_c (a b z : Int) (hz : ((Nat.gcd a.natAbs b.natAbs : Nat) : Int) = z) (ha : okz a = true) (hb : okz b = true) (hc : okz z = true) : CallT 15 #[strOf (Lib.itoa a), strOf (Lib.itoa b)] (.tuple #[strOf (Lib.itoa z), .int .i64 0]) := fun u hu => by
  subst hz
  have h := Gcd_ok a b u hu ha hb
  unfold TextP at h
  rw [outT_ok hc, errT_ok hc] at h; exact h
theorem div_c (a b q r : Int) (hq : a / b = q) (hr : a % b = r) (ha : okz a = true) (hb : okz b = true) (h0 : b ≠ 0) (hc : okz q = true) (hd : okz r = true) : CallT 13 #[strOf (Lib.itoa a), strOf (Lib.itoa b)] (.tuple #[strOf (Lib.itoa q), strOf (Lib.itoa r), .int .i64 0]) := fun u hu => by
  subst hq hr
  have h := div_ok a b u hu ha hb h0
  rw [outT_ok hc, outT_ok hd] at h; exact h
theorem div0_c (a : Int) (ha : okz a = true) : CallT 13 #[strOf (Lib.itoa a), strOf (Lib.itoa 0)] (.tuple #[strOf [], strOf [], .int .i64 30]) := fun u _ => div_zero a u ha
theorem root_c (a z : Int) (hz : ((Im.isqrt a.natAbs : Nat) : Int) = z) (hn : ¬ a < 0) (ha : okz a = true) (hc : okz z = true) : CallT 17 #[strOf (Lib.itoa a)] (.tuple #[strOf (Lib.itoa z), .int .i64 0]) := fun u hu => by
  subst hz
  have h := root_ok a u hu ha hn
  unfold TextP at h
  rw [outT_ok hc, errT_ok hc] at h; exact h
theorem rootn_c (a : Int) (hn : a < 0) (ha : okz a = true) : CallT 17 #[strOf (Lib.itoa a)] (.tuple #[strOf [], .int .i64 30]) := fun u _ => root_neg a u ha hn
theorem cmp_c (a b z : Int) (hz : sg a b = z) (ha : okz a = true) (hb : okz b = true) : CallT 23 #[strOf (Lib.itoa a), strOf (Lib.itoa b)] (.int .i64 z) := fun u _ => by
  subst hz; exact cmpI_ok a b u ha hb
theorem val_c (a : Int) (ha : okz a = true) : CallT 21 #[strOf (Lib.itoa a)] (.bool true) := fun u _ => by
  have h := valid_itoa a u
  rw [ha] at h; exact h
theorem made_c (s : ByteArray) (m : Nat) (hm : m ≤ 200) : CallT 5 #[.string s, .int .i64 (m : Int)] (strOf (Lib.itoa (madeZ s m))) := fun u _ => made_any s m hm u
theorem sane_c : CallT 4 #[] (.bool true) := fun u hu => sane_any u hu
theorem lit0 : strOf (Lib.itoa 0) = .string ⟨#[48]⟩ := by rw [show Lib.itoa 0 = [48] from by decide +kernel]; rfl
theorem lit1 : strOf (Lib.itoa 1) = .string ⟨#[49]⟩ := by rw [show Lib.itoa 1 = [49] from by decide +kernel]; rfl
theorem ok0 : okz 0 = true := by decide +kernel
theorem ok1 : okz 1 = true := by decide +kernel
theorem B0 (k : Nat) : B k 0 := Nat.pow_pos (by decide)
theorem B1 (k : Nat) (h : 1 ≤ k) : B k 1 := by
  have : B 1 1 := by unfold B; decide
  exact this.mono h
/-- Equality of texts is equality of the integers. -/
theorem txt_eqb (a b : Int) : ((bs (Lib.itoa a)).toList == (bs (Lib.itoa b)).toList) = decide (a = b) := by
  rw [bs_eqb]
  by_cases h : a = b
  · rw [h, decide_eq_true rfl]; simp
  · rw [decide_eq_false h, beq_eq_false_iff_ne]
    exact fun e => h (Im.itoa_inj e)
theorem txt_zero (a : Int) : ((bs (Lib.itoa a)).toList == [48]) = decide (a = 0) := by
  have h := txt_eqb a 0
  rw [show (bs (Lib.itoa 0)).toList = [48] from by rw [show Lib.itoa 0 = [48] from by decide +kernel]; rw [ByteArray.toList_eq, bs_list]] at h
  exact h
theorem txt_one (a : Int) : ((bs (Lib.itoa a)).toList == [49]) = decide (a = 1) := by
  have h := txt_eqb a 1
  rw [show (bs (Lib.itoa 1)).toList = [49] from by rw [show Lib.itoa 1 = [49] from by decide +kernel]; rw [ByteArray.toList_eq, bs_list]] at h
  exact h
end Go.Proofs.YtflpfmkfjccmiaaGreatDoor
