/- Plain facts of the grid: a fraction rounded down and up, again, the other way round, and the distance between both. -/
import Derived.Test.YtpphpolhigdnjaaGreatDoorQm
import Derived.Test.YtpphpolhigdnjaaGreatDoorQe
namespace Go.Proofs.YtpphpolhigdnjaaGreatDoor

theorem ediv_mul_le' (a d : Int) (hd : 0 < d) : a / d * d ≤ a ∧ (a / d * d = a ↔ a % d = 0) := by
  have h1 := Int.emod_add_mul_ediv a d
  have h2 := Int.emod_nonneg a (show d ≠ 0 by omega)
  rw [Int.mul_comm d (a / d)] at h1
  constructor
  · omega
  · constructor <;> intro h <;> omega
theorem grid_down (n d T : Int) (hd : 0 < d) (hT : 0 < T) : Qm.qcmp (Rat.divInt (n * T / d) T) (Rat.divInt n d) = if n * T % d = 0 then 0 else -1 := by
  rw [Qm.cmp_of _ _ _ _ hT hd]
  obtain ⟨h1, h2⟩ := ediv_mul_le' (n * T) d hd
  unfold Qm.cmp4
  by_cases h : n * T % d = 0
  · have := h2.2 h
    rw [if_pos h, if_neg (by omega), if_neg (by omega)]
  · have : ¬ n * T / d * d = n * T := fun e => h (h2.1 e)
    rw [if_neg h, if_pos (by omega)]
theorem grid_up (n d T : Int) (hd : 0 < d) (hT : 0 < T) : Qm.qcmp (Rat.divInt (cl (n * T) d) T) (Rat.divInt n d) = if n * T % d = 0 then 0 else 1 := by
  rw [Qm.cmp_of _ _ _ _ hT hd]
  obtain ⟨h1, h2⟩ := ediv_mul_le' (n * T) d hd
  have h3 := Int.emod_lt_of_pos (n * T) hd
  have h4 := Int.emod_add_mul_ediv (n * T) d
  rw [Int.mul_comm d (n * T / d)] at h4
  unfold Qm.cmp4 cl
  by_cases h : n * T % d = 0
  · have := h2.2 h
    rw [if_pos h, if_pos h, if_neg (by omega), if_neg (by omega)]
  · have : (n * T / d + 1) * d = n * T / d * d + d := by rw [Int.add_mul, Int.one_mul]
    rw [if_neg h, if_neg h, if_neg (by omega), if_pos (by omega)]
theorem on_grid (u T : Int) (hT : 0 < T) : (Rat.divInt u T).num * T / (((Rat.divInt u T).den : Nat) : Int) = u ∧ cl ((Rat.divInt u T).num * T) (((Rat.divInt u T).den : Nat) : Int) = u := by
  have h := Qm.cross (q := Rat.divInt u T) (by omega) rfl
  have hd := Qm.den_pos (Rat.divInt u T)
  rw [h]
  have h1 : u * (((Rat.divInt u T).den : Nat) : Int) / (((Rat.divInt u T).den : Nat) : Int) = u := Int.mul_ediv_cancel u (by omega)
  refine ⟨h1, ?_⟩
  unfold cl
  rw [if_pos (Int.mul_emod_left _ _), h1]
theorem neg_grid (n d T : Int) (hd : 0 < d) : 0 - Rat.divInt ((-n) * T / d) T = Rat.divInt (cl (n * T) d) T := by
  rw [Rat.sub_eq_add_neg, Rat.zero_add, Rat.neg_divInt]
  congr 1
  rw [Int.neg_mul]
  unfold cl
  have h1 := Int.emod_add_mul_ediv (n * T) d
  have h2 := Int.emod_nonneg (n * T) (show d ≠ 0 by omega)
  have h3 := Int.emod_lt_of_pos (n * T) hd
  generalize n * T = x at *
  by_cases h : x % d = 0
  · rw [if_pos h, Int.neg_ediv_of_dvd (Int.dvd_of_emod_eq_zero h), Int.neg_neg]
  · rw [if_neg h]
    have h5 : d * -(x / d + 1) = -(d * (x / d)) - d := by rw [Int.mul_neg, Int.mul_add, Int.mul_one]; omega
    have h4 : -x / d = -(x / d + 1) := ((Int.ediv_emod_unique (a := -x) (q := -(x / d + 1)) (r := d - x % d) hd).2 ⟨by omega, by omega, by omega⟩).1
    omega
theorem times_grid (v T : Int) (hT : 0 < T) : Rat.divInt v T * Rat.divInt T 1 = Rat.divInt v 1 := by
  rw [Rat.divInt_mul_divInt, Int.mul_one, Int.mul_comm v T]
  conv => lhs; rw [show T = T * 1 from (Int.mul_one T).symm]
  rw [Int.mul_assoc, Int.one_mul, Rat.divInt_mul_left (by omega)]
theorem width_grid (u v T : Int) (hT : 0 < T) : Rat.divInt u T - Rat.divInt v T = Rat.divInt (u - v) T := by
  rw [Rat.divInt_sub_divInt _ _ (by omega) (by omega), ← Int.sub_mul, Rat.divInt_mul_right (by omega)]
theorem cl_sub (a d : Int) : cl a d - a / d = if a % d = 0 then 0 else 1 := by
  unfold cl
  by_cases h : a % d = 0
  · rw [if_pos h, if_pos h, Int.sub_self]
  · rw [if_neg h, if_neg h]; omega
end Go.Proofs.YtpphpolhigdnjaaGreatDoor
