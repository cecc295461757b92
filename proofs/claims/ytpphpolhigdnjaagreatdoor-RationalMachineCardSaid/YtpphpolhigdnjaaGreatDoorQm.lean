/- Plain facts on fractions made of two integers: their sums and products, and their order, crosswise. -/
import Derived.Test.YtpphpolhigdnjaaGreatDoorQa
namespace Go.Proofs.YtpphpolhigdnjaaGreatDoor
namespace Qm

theorem cross {a b : Int} {q : Rat} (hb : b ≠ 0) (h : Rat.divInt a b = q) : q.num * b = a * q.den := by
  have h1 : Rat.divInt q.num q.den = Rat.divInt a b := by rw [Rat.num_divInt_den, h]
  exact (Rat.divInt_eq_divInt_iff (den_ne q) hb).1 h1
theorem add4 (n d m c : Int) (hd : d ≠ 0) (hc : c ≠ 0) : Rat.divInt (n * c + m * d) (d * c) = Rat.divInt n d + Rat.divInt m c := (Rat.divInt_add_divInt _ _ hd hc).symm
theorem sub4 (n d m c : Int) (hd : d ≠ 0) (hc : c ≠ 0) : Rat.divInt (n * c - m * d) (d * c) = Rat.divInt n d - Rat.divInt m c := (Rat.divInt_sub_divInt _ _ hd hc).symm
theorem mul4 (n d m c : Int) : Rat.divInt (n * m) (d * c) = Rat.divInt n d * Rat.divInt m c := (Rat.divInt_mul_divInt _ _).symm
theorem div4 (n d m c : Int) : Rat.divInt (n * c) (d * m) = Rat.divInt n d / Rat.divInt m c := by
  rw [Rat.div_def, Rat.inv_divInt, Rat.divInt_mul_divInt]
theorem cmp_of (n d m c : Int) (hd : 0 < d) (hc : 0 < c) : qcmp (Rat.divInt n d) (Rat.divInt m c) = cmp4 n d m c := by
  have e1 := cross (q := Rat.divInt n d) (by omega) rfl
  have e2 := cross (q := Rat.divInt m c) (by omega) rfl
  generalize Rat.divInt n d = p at *
  generalize Rat.divInt m c = q at *
  have hp := den_pos p
  have hq := den_pos q
  unfold qcmp
  generalize ((p.den : Nat) : Int) = u at *
  generalize ((q.den : Nat) : Int) = v at *
  generalize p.num = x at *
  generalize q.num = y at *
  have hdc : 0 < d * c := Int.mul_pos hd hc
  have huv : 0 < u * v := Int.mul_pos hp hq
  have k1 : (x * v) * (d * c) = (n * c) * (u * v) := by
    rw [show (x * v) * (d * c) = (x * d) * (v * c) from by simp only [Int.mul_left_comm, Int.mul_comm], e1]
    simp only [Int.mul_left_comm, Int.mul_comm]
  have k2 : (y * u) * (d * c) = (m * d) * (u * v) := by
    rw [show (y * u) * (d * c) = (y * c) * (u * d) from by simp only [Int.mul_left_comm, Int.mul_comm], e2]
    simp only [Int.mul_left_comm, Int.mul_comm]
  have f1 : x * v < y * u ↔ n * c < m * d := by
    constructor
    · intro h
      have := Int.mul_lt_mul_of_pos_right h hdc
      rw [k1, k2] at this
      exact Int.lt_of_mul_lt_mul_right this (by omega)
    · intro h
      have := Int.mul_lt_mul_of_pos_right h huv
      rw [← k1, ← k2] at this
      exact Int.lt_of_mul_lt_mul_right this (by omega)
  have f2 : y * u < x * v ↔ m * d < n * c := by
    constructor
    · intro h
      have := Int.mul_lt_mul_of_pos_right h hdc
      rw [k1, k2] at this
      exact Int.lt_of_mul_lt_mul_right this (by omega)
    · intro h
      have := Int.mul_lt_mul_of_pos_right h huv
      rw [← k1, ← k2] at this
      exact Int.lt_of_mul_lt_mul_right this (by omega)
  unfold cmp4
  by_cases h1 : x * v < y * u
  · rw [if_pos h1, if_pos (f1.1 h1)]
  · rw [if_neg h1, if_neg (fun h => h1 (f1.2 h))]
    by_cases h2 : y * u < x * v
    · rw [if_pos h2, if_pos (f2.1 h2)]
    · rw [if_neg h2, if_neg (fun h => h2 (f2.2 h))]
end Qm
end Go.Proofs.YtpphpolhigdnjaaGreatDoor
