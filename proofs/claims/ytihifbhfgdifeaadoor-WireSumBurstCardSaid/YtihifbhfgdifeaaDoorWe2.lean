/- Plain facts on numbers made of bytes: flipping one bit, and a window of flipped bits. -/
import Derived.Test.YtihifbhfgdifeaaDoorWm
namespace Go.Proofs.YtihifbhfgdifeaaDoor

theorem mul_xor (n x y : Nat) : 2 ^ n * (x ^^^ y) = 2 ^ n * x ^^^ 2 ^ n * y := by
  have := @Nat.shiftLeft_xor_distrib n x y
  simp only [Nat.shiftLeft_eq] at this
  rw [Nat.mul_comm, this, Nat.mul_comm x, Nat.mul_comm y]
theorem flip_bit : ∀ (L : List UInt8) (k : Nat) (b : UInt8), k < 8 * L.length → b.toNat = (L.getD (k / 8) 0).toNat ^^^ 2 ^ (k % 8) → Wm.num (L.set (k / 8) b) = Wm.num L ^^^ 2 ^ k
  | [], k, b, h, _ => by simp at h
  | c :: L, k, b, h, hb => by
    by_cases hk : k < 8
    · have h0 : k / 8 = 0 := by omega
      have h1 : k % 8 = k := by omega
      rw [h0, h1] at hb
      rw [h0, List.set_cons_zero, Wm.num, Wm.num, Wm.byte_xor, Wm.byte_xor, hb]
      simp only [List.getD_cons_zero]
      ac_rfl
    · obtain ⟨j, rfl⟩ : ∃ j, k = 8 + j := ⟨k - 8, by omega⟩
      have h0 : (8 + j) / 8 = j / 8 + 1 := by omega
      have h1 : (8 + j) % 8 = j % 8 := by omega
      rw [h0, h1] at hb
      rw [h0, List.set_cons_succ, Wm.num, Wm.num]
      have ih := flip_bit L j b (by simp at h; omega) (by simpa using hb)
      have e : (256 : Nat) = 2 ^ 8 := rfl
      rw [ih, Wm.byte_xor, Wm.byte_xor, e, mul_xor, Nat.pow_add, Nat.xor_assoc]
theorem low_next (x i : Nat) : x % 2 ^ (i + 1) = x % 2 ^ i + 2 ^ i * (x / 2 ^ i % 2) := by
  rw [Nat.pow_succ, Nat.mod_mul]
theorem low_set (x i : Nat) (h : x / 2 ^ i % 2 = 1) : x % 2 ^ (i + 1) = x % 2 ^ i ^^^ 2 ^ i := by
  have hlt : x % 2 ^ i < 2 ^ i := Nat.mod_lt _ (Nat.two_pow_pos i)
  rw [low_next, h, Nat.mul_one]
  have h2 := Nat.two_pow_add_eq_or_of_lt hlt 1
  rw [Nat.mul_one] at h2
  rw [Nat.add_comm, h2]
  apply Nat.eq_of_testBit_eq
  intro j
  rw [Nat.testBit_or, Nat.testBit_xor, Nat.testBit_two_pow]
  by_cases hj : i = j
  · subst hj
    rw [Nat.testBit_lt_two_pow hlt]; simp
  · simp [hj]
theorem low_clear (x i : Nat) (h : ¬ x / 2 ^ i % 2 = 1) : x % 2 ^ (i + 1) = x % 2 ^ i := by
  rw [low_next, show x / 2 ^ i % 2 = 0 from by omega, Nat.mul_zero, Nat.add_zero]
/-- The loop's state: the list so far, and what it differs by. -/
def Flipped (U L : List UInt8) (fr bt i : Nat) : Prop := L.length = U.length ∧ Wm.num L = Wm.num U ^^^ 2 ^ fr * (bt % 2 ^ i)
theorem Flipped.start (U : List UInt8) (fr bt : Nat) : Flipped U U fr bt 0 := ⟨rfl, by simp [Nat.mod_one]⟩
theorem Flipped.skip {U L : List UInt8} {fr bt i : Nat} (h : Flipped U L fr bt i) (hb : ¬ bt / 2 ^ i % 2 = 1) : Flipped U L fr bt (i + 1) := ⟨h.1, by rw [low_clear bt i hb]; exact h.2⟩
theorem Flipped.flip {U L : List UInt8} {fr bt i k : Nat} {b : UInt8} (h : Flipped U L fr bt i) (hb : bt / 2 ^ i % 2 = 1) (hk : fr + i = k) (hlt : k < 8 * U.length)
    (e : b.toNat = (L.getD (k / 8) 0).toNat ^^^ 2 ^ (k % 8)) : Flipped U (L.set (k / 8) b) fr bt (i + 1) := by
  refine ⟨by rw [List.length_set]; exact h.1, ?_⟩
  rw [flip_bit L k b (by rw [h.1]; exact hlt) e, h.2, low_set bt i hb, mul_xor, ← hk, Nat.pow_add, Nat.xor_assoc]
theorem Flipped.crc {U L : List UInt8} {fr bt i : Nat} (h : Flipped U L fr bt i) (hf : fr ≤ 8 * U.length) (hi : i ≤ 32) : Wm.crc L = Wm.crc U ↔ bt % 2 ^ i = 0 := by
  refine Wm.crc_window L U fr (bt % 2 ^ i) h.1 (by rw [h.1]; exact hf) ?_ h.2
  have : bt % 2 ^ i < 2 ^ i := Nat.mod_lt _ (Nat.two_pow_pos i)
  have : 2 ^ i ≤ 2 ^ 32 := Nat.pow_le_pow_right (by decide) hi
  omega
theorem low_zero_next (bt i : Nat) (hb : ¬ bt / 2 ^ i % 2 = 1) : (bt % 2 ^ (i + 1) = 0 ↔ bt % 2 ^ i = 0) := by rw [low_clear bt i hb]
theorem low_pos_next (bt i : Nat) (hb : bt / 2 ^ i % 2 = 1) : bt % 2 ^ (i + 1) ≠ 0 := by
  rw [low_next, hb, Nat.mul_one]
  have := Nat.two_pow_pos i
  omega
end Go.Proofs.YtihifbhfgdifeaaDoor
