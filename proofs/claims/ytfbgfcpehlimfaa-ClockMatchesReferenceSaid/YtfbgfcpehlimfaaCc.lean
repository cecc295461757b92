/- Contracts of isDrift, isTime, Spread, pick and the reference's pick. -/
import Derived.Test.YtfbgfcpehlimfaaProg
import Derived.Test.YtfbgfcpehlimfaaCa
import Derived.Test.YtfbgfcpehlimfaaCb
import Derived.WalkKit
import Derived.Lib.Hide
import Derived.Below
import Derived.Laws.Rows
import Derived.Laws.OwnMore
import Derived.Deep.Draws
import Derived.Deep.QuietTactic
import Derived.BigQuiet
import Derived.BigRegion
import Derived.LoopN
import Derived.Outline
import Derived.Maps.AppendAt
import Derived.RangeFuncBox
namespace Go.Proofs.Ytfbgfcpehlimfaa
open Go.RowKit

abbrev i64 (x : Int) : Value := .int .i64 x
theorem belowN {B : Nat} {w w' : World} (h : Below B w w') (n : Nat) : Below B w (w'.drewN n) := ⟨h.os, h.tape, h.output, h.size, h.block⟩
theorem below_to {w w1 w2 : World} (h1 : Below w.heap.size w w1) (h2 : Below w1.heap.size w1 w2) : Below w.heap.size w w2 := h1.trans (h2.mono h1.size)

theorem isDrift_any (d : Int) (w : World) : Calls Try.prog 29 #[.int .i64 d] w fun e w' => e = .returned (.bool (Ca.isD d)) ∧ w = w' := by
  unfold Ca.isD
  by_cases h1 : 0 ≤ d <;> by_cases h2 : d ≤ 100 <;> simp only [h1, h2, decide_true, decide_false, Bool.and_true, Bool.and_false, Bool.and_self]
  all_goals go_enter Try.func29, Try.ntmps29
  all_goals go_wp2
  all_goals go_ret
  all_goals exact ⟨rfl, rfl⟩
theorem isTime_any (d : Int) (w : World) : Calls Try.prog 30 #[.int .i64 d] w fun e w' => e = .returned (.bool (Ca.isT d)) ∧ w = w' := by
  unfold Ca.isT
  by_cases h1 : 0 ≤ d <;> by_cases h2 : d ≤ 10000000 <;> simp only [h1, h2, decide_true, decide_false, Bool.and_true, Bool.and_false, Bool.and_self]
  all_goals go_enter Try.func30, Try.ntmps30
  all_goals go_wp2
  all_goals go_ret
  all_goals exact ⟨rfl, rfl⟩

def spr (d n : Int) : Int × Int := if Ca.isD d = true ∧ Ca.isT n = true then (Ca.lo d n, Ca.hi d n) else (0, 0)
theorem spr_ok {d n : Int} (hd : Ca.isD d = true) (hn : Ca.isT n = true) : spr d n = (Ca.lo d n, Ca.hi d n) := by simp [spr, hd, hn]
theorem spread_any (d n : Int) (w : World) :
    Calls Try.prog 10 #[.int .i64 d, .int .i64 n] w fun e w' => e = .returned (.tuple #[.int .i64 (spr d n).1, .int .i64 (spr d n).2]) ∧ Below w.heap.size w w' := by
  have hD := fun w => isDrift_any d w
  have hT := fun w => isTime_any n w
  by_cases hd : Ca.isD d = true
  · by_cases hn : Ca.isT n = true
    · rw [spr_ok hd hn]
      rw [hd] at hD; rw [hn] at hT
      obtain ⟨d1, d2⟩ := (Ca.isD_iff d).1 hd
      obtain ⟨n1, n2⟩ := (Ca.isT_iff n).1 hn
      have e1 : (1000 * n + d).tdiv (1000 + d) = Ca.lo d n := Int.tdiv_eq_ediv_of_nonneg (by omega)
      have e2 : (1000 * n + 999).tdiv (1000 - d) = Ca.hi d n := Int.tdiv_eq_ediv_of_nonneg (by omega)
      have r1 := Ca.lo_nonneg d n d1 n1
      have r2 := Ca.lo_hi d n d1 d2 n1
      have r3 := Ca.hi_top d n d1 d2 n1 n2
      have z1 : ¬ (1000 + d = 0) := by omega
      have z2 : ¬ (1000 - d = 0) := by omega
      obtain ⟨a, ha⟩ : ∃ a, Ca.lo d n = a := ⟨_, rfl⟩
      obtain ⟨b, hb⟩ : ∃ b, Ca.hi d n = b := ⟨_, rfl⟩
      rw [ha] at e1 r1 r2 ⊢
      rw [hb] at e2 r2 r3 ⊢
      clear ha hb hd hn
      go_enter Try.func10, Try.ntmps10
      go_wp2_with (first | (go_at_call 29; refine (hD _).mono ?_; rintro e w' ⟨rfl, rfl⟩) | (go_at_call 30; refine (hT _).mono ?_; rintro e w' ⟨rfl, rfl⟩))
      go_quiet (fail)
      go_wp2
      go_ret2
      exact ⟨rfl, belowN (Below.refl _ _) _⟩
    · rw [show spr d n = (0, 0) by simp [spr, hn]]
      rw [hd] at hD
      rw [Bool.not_eq_true] at hn
      rw [hn] at hT
      clear hd hn
      go_enter Try.func10, Try.ntmps10
      go_wp2_with (first | (go_at_call 29; refine (hD _).mono ?_; rintro e w' ⟨rfl, rfl⟩) | (go_at_call 30; refine (hT _).mono ?_; rintro e w' ⟨rfl, rfl⟩))
      go_ret2
      exact ⟨rfl, Below.refl _ _⟩
  · rw [show spr d n = (0, 0) by simp [spr, hd]]
    rw [Bool.not_eq_true] at hd
    rw [hd] at hD
    clear hd
    go_enter Try.func10, Try.ntmps10
    go_wp2_with (first | (go_at_call 29; refine (hD _).mono ?_; rintro e w' ⟨rfl, rfl⟩) | (go_at_call 30; refine (hT _).mono ?_; rintro e w' ⟨rfl, rfl⟩))
    go_ret2
    exact ⟨rfl, Below.refl _ _⟩

/-- The index that an arbitrary integer is mapped to. -/
def pickI (c n : Int) : Int := (if c < 0 then -(c + 1) else c) % n
theorem pickI_lt (c n : Int) (hn : 0 < n) : 0 ≤ pickI c n ∧ pickI c n < n := ⟨Int.emod_nonneg _ (by omega), Int.emod_lt_of_pos _ hn⟩

set_option maxHeartbeats 1000000 in
theorem pick_any (c n : Int) (hn : 0 < n) (hn2 : n ≤ 9223372036854775807) (h0 : -9223372036854775808 ≤ c) (h1 : c ≤ 9223372036854775807) (w : World) :
    Calls Try.prog 18 #[.int .i64 c, .int .i64 n] w fun e w' => e = .returned (.int .i64 (pickI c n)) ∧ w = w' := by
  obtain ⟨q, hq⟩ : ∃ q : Int, (if c < 0 then -(c + 1) else c) = q := ⟨_, rfl⟩
  have hq0 : 0 ≤ q := by rw [← hq]; split <;> omega
  have hqm : q ≤ 9223372036854775807 := by rw [← hq]; split <;> omega
  have e1 : q.tmod n = pickI c n := by
    unfold pickI
    rw [hq, Int.tmod_eq_emod_of_nonneg hq0]
  have hlt := pickI_lt c n hn
  obtain ⟨k, hk⟩ : ∃ k, pickI c n = k := ⟨_, rfl⟩
  rw [hk] at e1 hlt ⊢
  have e2 : IntKind.i64.wrap k = k := IntWalk.i64_in _ (by omega)
  have e3 : (n == 0) = false := by rw [beq_eq_false_iff_ne]; omega
  have e4 : ¬ n = 0 := by omega
  clear hk
  by_cases hc : c < 0
  · rw [if_pos hc] at hq
    have s1 : IntKind.i64.wrap (c + 1) = c + 1 := IntWalk.i64_in _ (by omega)
    have s2 : IntKind.i64.wrap (-(c + 1)) = q := by rw [hq]; exact IntWalk.i64_in _ (by omega)
    clear hq
    go_enter Try.func18, Try.ntmps18
    go_wp2
    go_ret
    exact ⟨rfl, rfl⟩
  · rw [if_neg hc] at hq
    subst hq
    have hc2 : 0 ≤ c := by omega
    go_enter Try.func18, Try.ntmps18
    go_wp2
    go_ret
    exact ⟨rfl, rfl⟩

set_option maxHeartbeats 1000000 in
theorem rpick_any (c n : Int) (hn : 0 < n) (hn2 : n ≤ 9223372036854775807) (h0 : -9223372036854775808 ≤ c) (h1 : c ≤ 9223372036854775807) (w : World) :
    Calls Try.prog 34 #[.int .i64 c, .int .i64 n] w fun e w' => e = .returned (.int .i64 (pickI c n)) ∧ w = w' := by
  obtain ⟨q, hq⟩ : ∃ q : Int, (if c < 0 then -(c + 1) else c) = q := ⟨_, rfl⟩
  have hq0 : 0 ≤ q := by rw [← hq]; split <;> omega
  have hqm : q ≤ 9223372036854775807 := by rw [← hq]; split <;> omega
  have e1 : q.tmod n = pickI c n := by
    unfold pickI
    rw [hq, Int.tmod_eq_emod_of_nonneg hq0]
  have hlt := pickI_lt c n hn
  obtain ⟨k, hk⟩ : ∃ k, pickI c n = k := ⟨_, rfl⟩
  rw [hk] at e1 hlt ⊢
  have e2 : IntKind.i64.wrap k = k := IntWalk.i64_in _ (by omega)
  have e3 : (n == 0) = false := by rw [beq_eq_false_iff_ne]; omega
  have e4 : ¬ n = 0 := by omega
  clear hk
  by_cases hc : c < 0
  · rw [if_pos hc] at hq
    have s1 : IntKind.i64.wrap (c + 1) = c + 1 := IntWalk.i64_in _ (by omega)
    have s2 : IntKind.i64.wrap (-(c + 1)) = q := by rw [hq]; exact IntWalk.i64_in _ (by omega)
    clear hq
    go_enter Try.func34, Try.ntmps34
    go_wp2
    go_ret
    exact ⟨rfl, rfl⟩
  · rw [if_neg hc] at hq
    subst hq
    have hc2 : 0 ≤ c := by omega
    go_enter Try.func34, Try.ntmps34
    go_wp2
    go_ret
    exact ⟨rfl, rfl⟩
end Go.Proofs.Ytfbgfcpehlimfaa
