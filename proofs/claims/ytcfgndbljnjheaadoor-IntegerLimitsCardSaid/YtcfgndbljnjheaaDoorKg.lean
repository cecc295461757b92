/- Contracts of nines and pick; the numbers of IntegerLimits. -/
import Derived.Test.YtcfgndbljnjheaaDoorKf
namespace Go.Proofs.YtcfgndbljnjheaaDoor
open Go.RowKit

def nin (k : Nat) : List UInt8 := List.replicate k 57
theorem nin_len (k : Nat) : (nin k).length = k := List.length_replicate
theorem nin_succ (k : Nat) : nin (k + 1) = nin k ++ [57] := by unfold nin; rw [List.replicate_succ']
set_option maxRecDepth 100000 in
set_option maxHeartbeats 1000000 in
theorem nines_any (n : Nat) (hn : n ≤ 300) (w : World) : Calls Tryd.prog 23 #[.int .i64 (n : Int)] w fun e w' => e = .returned (.string (bs (nin n))) ∧ w = w' := by
  go_enter Tryd.func23, Tryd.ntmps23
  go_wp2
  go_loopw [3, 4] (fun o i wr => ∃ k : Nat, k ≤ n ∧ i = .int .i64 (k : Int) ∧ o = .string (bs (nin k)) ∧ wr = w) (fun _ i _ => n - (intOf i).toNat)
  case atStart => exact ⟨0, by omega, by go_num, rfl, rfl⟩
  case round =>
    obtain ⟨k, hk, rfl, rfl, rfl⟩ := hrel
    by_cases hlt : k < n
    · have hs : (bs (nin k)).size = k := by rw [bs_size, nin_len]
      have hc : bs (nin k) ++ (⟨#[57]⟩ : ByteArray) = bs (nin (k + 1)) := by rw [show (⟨#[57]⟩ : ByteArray) = bs [57] from rfl, bs_append, nin_succ]
      obtain ⟨S, hS⟩ : ∃ S, bs (nin k) = S := ⟨_, rfl⟩
      rw [hS] at hs hc ⊢
      have h1 : ¬ (S.size + (⟨#[57]⟩ : ByteArray).size > 9223372036854775807) := by show ¬ (S.size + 1 > _); omega
      have h2 : ¬ (9223372036854775807 < S.size + 1) := by omega
      have HC := Lib.hid hc
      clear hc hS hs
      go_wp2
      go_roundw
      case rel => exact ⟨k + 1, by omega, by go_num, by rw [← HC.out], trivial⟩
      case measure => simp [intOf]; omega
    · obtain rfl : k = n := by omega
      go_wp2
      go_ret
      exact ⟨rfl, rfl⟩
def pickN (c : Int) (n : Nat) : Nat := ((if c < 0 then -(c + 1) else c) % (n : Int)).toNat
theorem pickN_lt (c : Int) (n : Nat) (hn : 0 < n) : pickN c n < n := by
  have h := Int.emod_lt_of_pos (if c < 0 then -(c + 1) else c) (show (0 : Int) < (n : Int) by omega)
  have h2 := Int.emod_nonneg (if c < 0 then -(c + 1) else c) (show (n : Int) ≠ 0 by omega)
  unfold pickN; omega
set_option maxHeartbeats 1000000 in
theorem pick_any (c : Int) (n : Nat) (hn : 0 < n) (hn2 : n ≤ 1000) (h0 : -9223372036854775808 ≤ c) (h1 : c ≤ 9223372036854775807) (w : World) :
    Calls Tryd.prog 24 #[.int .i64 c, .int .i64 (n : Int)] w fun e w' => e = .returned (.int .i64 ((pickN c n : Nat) : Int)) ∧ w = w' := by
  obtain ⟨q, hq⟩ : ∃ q : Int, (if c < 0 then -(c + 1) else c) = q := ⟨_, rfl⟩
  have hq0 : 0 ≤ q := by rw [← hq]; split <;> omega
  have hqm : q ≤ 9223372036854775807 := by rw [← hq]; split <;> omega
  have e1 : q.tmod (n : Int) = ((pickN c n : Nat) : Int) := by
    unfold pickN
    rw [hq, Int.tmod_eq_emod_of_nonneg hq0]
    have h2 := Int.emod_nonneg q (show (n : Int) ≠ 0 by omega)
    omega
  have hlt := pickN_lt c n hn
  obtain ⟨k, hk⟩ : ∃ k, pickN c n = k := ⟨_, rfl⟩
  rw [hk] at e1 hlt ⊢
  have e2 : IntKind.i64.wrap (k : Int) = (k : Int) := IntWalk.i64_in _ (by omega)
  have e3 : ((n : Int) == 0) = false := by rw [beq_eq_false_iff_ne]; omega
  clear hk
  by_cases hc : c < 0
  · rw [if_pos hc] at hq
    have t1 : decide (c < 0) = true := decide_eq_true hc
    have s1 : IntKind.i64.wrap (c + 1) = c + 1 := IntWalk.i64_in _ (by omega)
    have s2 : IntKind.i64.wrap (-(c + 1)) = -(c + 1) := IntWalk.i64_in _ (by omega)
    subst hq
    clear hq0 hqm h0 h1
    go_enter Tryd.func24, Tryd.ntmps24
    go_wp2
    go_ret
    exact ⟨rfl, rfl⟩
  · rw [if_neg hc] at hq
    have t1 : decide (c < 0) = false := decide_eq_false hc
    subst hq
    clear hq0 hqm h0 h1
    go_enter Tryd.func24, Tryd.ntmps24
    go_wp2
    go_ret
    exact ⟨rfl, rfl⟩
/-- The integer of k nines behind digits. -/
theorem dd_nines (q k : Nat) (hq : 0 < q) : Lib.decDigits (q * 10 ^ k + (10 ^ k - 1)) = Lib.decDigits q ++ nin k := by
  induction k with
  | zero => simp [nin]
  | succ k ih =>
    have hp : 0 < 10 ^ k := Nat.pow_pos (by decide)
    have hq1 : 1 ≤ q * 10 ^ k := Nat.mul_pos hq hp
    rw [nin_succ, ← List.append_assoc, ← ih, Im.dd_big _ (by rw [Nat.pow_succ, ← Nat.mul_assoc]; omega)]
    have e : q * 10 ^ (k + 1) + (10 ^ (k + 1) - 1) = 10 * (q * 10 ^ k + (10 ^ k - 1)) + 9 := by
      rw [Nat.pow_succ, ← Nat.mul_assoc]; omega
    rw [e, show (10 * (q * 10 ^ k + (10 ^ k - 1)) + 9) / 10 = q * 10 ^ k + (10 ^ k - 1) by omega, show (10 * (q * 10 ^ k + (10 ^ k - 1)) + 9) % 10 = 9 by omega]
    rfl
theorem nin_itoa (k : Nat) (hk : 1 ≤ k) : nin k = Lib.itoa (((10 ^ k - 1 : Nat)) : Int) := by
  rw [Lib.itoa_nonneg]
  obtain ⟨j, rfl⟩ : ∃ j, k = j + 1 := ⟨k - 1, by omega⟩
  have hp : 0 < 10 ^ j := Nat.pow_pos (by decide)
  have e : 10 ^ (j + 1) - 1 = 9 * 10 ^ j + (10 ^ j - 1) := by rw [Nat.pow_succ]; omega
  rw [e, dd_nines 9 j (by decide), Im.dd_small 9 (by decide)]
  rfl
theorem one_nin (k : Nat) : 49 :: nin k = Lib.itoa ((2 * 10 ^ k - 1 : Nat) : Int) := by
  rw [Lib.itoa_nonneg]
  have hp : 0 < 10 ^ k := Nat.pow_pos (by decide)
  have e : 2 * 10 ^ k - 1 = 1 * 10 ^ k + (10 ^ k - 1) := by omega
  rw [e, dd_nines 1 k (by decide), Im.dd_small 1 (by decide)]
  rfl
end Go.Proofs.YtcfgndbljnjheaaDoor
