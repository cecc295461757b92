/- The longest runs of a set, plainly; TrailingZeros; the iterator runs. -/
import Derived.RangeFuncNested
import Derived.RangeFuncBound
import Derived.RangeFuncCalls
import Derived.RangeFuncLeaves
import Derived.Shelf.Abstract
import Derived.Shelf.RegionOpen
import Derived.WalkKit
import Derived.OwnWalkIn
import Derived.TacticsInMore
import Derived.LoopNIn
import Derived.LoopIn
import Derived.Laws.Bits64
import Derived.Test.YtmfpaankkoaoaaaDoorUh
import Derived.Test.YtmfpaankkoaoaaaDoorShelt
namespace Go.Proofs.YtmfpaankkoaoaaaDoor
open Go.RowKit Go.Shelf
attribute [local go_sem] Oper.semAt_some

/-- Where the run that is the first one from the bit e on begins, and where the run that begins at a ends. -/
def rfrom (s e : Nat) : Nat := e + Lib.ctz 64 (s / 2 ^ e)
def rto (s a : Nat) : Nat := a + Lib.ctz 64 (18446744073709551615 - s / 2 ^ a)
/-- The longest runs of ones of s from the bit e on. -/
def rl : Nat → Nat → Nat → List (Nat × Nat)
  | 0, _, _ => []
  | f + 1, s, e => if s / 2 ^ e = 0 then [] else (rfrom s e, rto s (rfrom s e)) :: rl f s (rto s (rfrom s e))
theorem ctz_spec (x : Nat) (h0 : x ≠ 0) (h : x < 2 ^ 64) : ∃ m, x = 2 ^ Lib.ctz 64 x * (2 * m + 1) := by
  obtain ⟨m, hm, _⟩ := Lib.ctzFrom_spec 64 x (by omega) h
  exact ⟨m, by unfold Lib.ctz; rw [if_neg h0]; exact hm⟩
theorem div_lt24 (s e : Nat) (hs : s ≤ 16777215) (he : e ≤ 24) : s / 2 ^ e < 2 ^ (24 - e) := by
  rw [Nat.div_lt_iff_lt_mul (Nat.pow_pos (by decide)), ← Nat.pow_add, show 24 - e + e = 24 by omega]
  omega
theorem rfrom_facts (s e : Nat) (hs : s ≤ 16777215) (he : e ≤ 24) (h0 : s / 2 ^ e ≠ 0) : e ≤ rfrom s e ∧ rfrom s e < 24 ∧ (s / 2 ^ rfrom s e) % 2 = 1 := by
  have hlt := div_lt24 s e hs he
  have h24 : (2 : Nat) ^ (24 - e) ≤ 2 ^ 24 := Nat.pow_le_pow_right (by decide) (by omega)
  obtain ⟨m, hm⟩ := ctz_spec (s / 2 ^ e) h0 (Nat.lt_of_lt_of_le hlt (Nat.le_trans h24 (by decide)))
  obtain ⟨k, hk⟩ : ∃ k, Lib.ctz 64 (s / 2 ^ e) = k := ⟨_, rfl⟩
  rw [hk] at hm
  have hkl : k < 24 - e := by
    refine (Nat.pow_lt_pow_iff_right (by decide : 1 < 2)).1 (Nat.lt_of_le_of_lt ?_ hlt)
    rw [hm]; exact Nat.le_mul_of_pos_right _ (by omega)
  unfold rfrom
  rw [hk]
  refine ⟨by omega, by omega, ?_⟩
  rw [Nat.pow_add, ← Nat.div_div_eq_div_mul, hm, Nat.mul_div_cancel_left _ (Nat.pow_pos (by decide))]
  omega
theorem rto_facts (s a : Nat) (hs : s ≤ 16777215) (ha : a < 24) (ho : (s / 2 ^ a) % 2 = 1) : a < rto s a ∧ rto s a ≤ 24 := by
  have hlt := div_lt24 s a hs (by omega)
  have h24 : (2 : Nat) ^ (24 - a) ≤ 2 ^ 24 := Nat.pow_le_pow_right (by decide) (by omega)
  obtain ⟨y, hy⟩ : ∃ y, s / 2 ^ a = y := ⟨_, rfl⟩
  rw [hy] at hlt ho
  unfold rto
  rw [hy]
  have hy24 : y < 16777216 := Nat.lt_of_lt_of_le hlt h24
  obtain ⟨m, hm⟩ := ctz_spec (18446744073709551615 - y) (by omega) (by omega)
  obtain ⟨j, hj⟩ : ∃ j, Lib.ctz 64 (18446744073709551615 - y) = j := ⟨_, rfl⟩
  rw [hj] at hm ⊢
  refine ⟨?_, ?_⟩
  · rcases Nat.eq_zero_or_pos j with rfl | h
    · simp at hm; omega
    · omega
  · refine Nat.le_of_not_lt fun hgt => ?_
    obtain ⟨d, rfl⟩ : ∃ d, j = (24 - a) + 1 + d := ⟨j - (24 - a) - 1, by omega⟩
    obtain ⟨c, hc⟩ : ∃ c, 64 = (24 - a) + 1 + c := ⟨64 - (24 - a) - 1, by omega⟩
    have h64 : (18446744073709551616 : Nat) = 2 ^ (24 - a) * 2 * 2 ^ c := by
      rw [← Nat.pow_succ, ← Nat.pow_add, ← hc]
    obtain ⟨p, hp⟩ : ∃ p, (2 : Nat) ^ (24 - a) = p := ⟨_, rfl⟩
    rw [Nat.pow_add, Nat.pow_succ, hp, Nat.mul_assoc] at hm
    rw [hp] at h64 hlt
    obtain ⟨q, hq⟩ : ∃ q, 2 ^ d * (2 * m + 1) = q := ⟨_, rfl⟩
    obtain ⟨r, hr⟩ : ∃ r, (2 : Nat) ^ c = r := ⟨_, rfl⟩
    rw [hq] at hm
    rw [hr] at h64
    have hd : p * 2 ∣ y + 1 := by
      have h1 : y + 1 = p * 2 * r - p * 2 * q := by omega
      rw [h1]; exact Nat.dvd_sub (Nat.dvd_mul_right _ _) (Nat.dvd_mul_right _ _)
    have := Nat.le_of_dvd (by omega) hd
    omega
theorem rl_cons (f s e : Nat) (h0 : s / 2 ^ e ≠ 0) (hf : 0 < f) : rl f s e = (rfrom s e, rto s (rfrom s e)) :: rl (f - 1) s (rto s (rfrom s e)) := by
  obtain ⟨f, rfl⟩ : ∃ g, f = g + 1 := ⟨f - 1, by omega⟩
  rw [rl, if_neg h0]; rfl
theorem rl_nil (f s e : Nat) (h0 : s / 2 ^ e = 0) : rl f s e = [] := by
  cases f with
  | zero => rfl
  | succ f => rw [rl, if_pos h0]
theorem rl_mem (s : Nat) (hs : s ≤ 16777215) : ∀ (f e : Nat), e ≤ 24 → ∀ p ∈ rl f s e, e ≤ p.1 ∧ p.1 < p.2 ∧ p.2 ≤ 24 := by
  intro f
  induction f with
  | zero => intro e _ p hp; simp [rl] at hp
  | succ f ih =>
    intro e he p hp
    by_cases h0 : s / 2 ^ e = 0
    · rw [rl_nil _ _ _ h0] at hp; cases hp
    · obtain ⟨h1, h2, h3⟩ := rfrom_facts s e hs he h0
      obtain ⟨h4, h5⟩ := rto_facts s _ hs h2 h3
      rw [rl, if_neg h0] at hp
      rcases List.mem_cons.1 hp with rfl | hp
      · exact ⟨h1, h4, h5⟩
      · have := ih _ h5 p hp; exact ⟨by omega, this.2⟩
theorem xor_all (y : Nat) (hy : y < 16777216) : bits .xor .u64 18446744073709551615 (y : Int) = ((18446744073709551615 - y : Nat) : Int) := by
  have h := bits_xor_u64_nat 18446744073709551615 y (by decide) (by omega)
  rw [show ((18446744073709551615 : Nat) : Int) = 18446744073709551615 from rfl] at h
  rw [h]
  congr 1
  refine Nat.eq_of_testBit_eq fun i => ?_
  rw [Nat.testBit_xor, show (18446744073709551615 : Nat) = 2 ^ 64 - 1 from rfl, Nat.testBit_two_pow_sub_one, show 2 ^ 64 - 1 - y = 2 ^ 64 - (y + 1) by omega, Nat.testBit_two_pow_sub_succ (show y < 2 ^ 64 by omega)]
  by_cases hi : i < 64
  · simp [hi]
  · have : y.testBit i = false := Nat.testBit_lt_two_pow (Nat.lt_of_lt_of_le (show y < 2 ^ 64 by omega) (Nat.pow_le_pow_right (by decide) (by omega)))
    simp [hi, this]

/-- The table that TrailingZeros reads. -/
def TzT (w : World) : Prop := TabAt (Tryd.lays7_ren.g 1) Lib.deBruijn64tab w
theorem TzT.keep {w w' : World} {n : Nat} (h : TzT w) (hb : Below n w w') (hn : 2 < n) : TzT w' := fun j hj => (hb.cell (p := ⟨_, j, none⟩) hn).trans (h j hj)
theorem tz_any (x : Nat) (hx : x < 18446744073709551616) (w : World) (hT : TzT w) : Calls Tryd.prog 70 #[.int .u64 (x : Int)] w fun e w' => e = .returned (.int .i64 (Lib.ctz 64 x)) ∧ w' = w :=
  Any7.bits_TrailingZeros Tryd.lays7 x hx w (fun _ => hT)
end Go.Proofs.YtmfpaankkoaoaaaDoor
