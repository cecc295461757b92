/- What both sides answer, whatever the arguments are. -/
import Derived.Test.YtinhjobjlpkflaaFr
namespace Go.Proofs.Ytinhjobjlpkflaa
open Go.RowKit Go.Shelf

theorem ok_nat {n : Int} {l : List Ap} (h : validA n l = true) : ∃ m : Nat, n = (m : Int) := by
  unfold validA at h
  simp only [Bool.and_eq_true, decide_eq_true_eq] at h
  exact ⟨n.toNat, by omega⟩
def claimsR (n : Int) (l : List Ap) (t : Int) : List Cl × Int := if (validA n l && nowB t) = true then (clV n.toNat l t, 0) else ([], 130)
def overR (n : Int) (l : List Ap) (t : Int) : List Cl × Int := if (validA n l && nowB t) = true then ((clV n.toNat l t).filter (late t), 0) else ([], 130)
def owedR (n : Int) (l : List Ap) (t : Int) : List Int × Int := if (validA n l && nowB t) = true then (owV n.toNat l t, 0) else ([], 130)
def totR (n : Int) (l : List Ap) (t : Int) : List Int × Int := if (validA n l && nowB t) = true then (totV n.toNat l t, 0) else ([], 130)
def nextR (n : Int) (l : List Ap) (t : Int) : Cl × Bool := if (validA n l && nowB t) = true then nxV (clV n.toNat l t) else nxV []
section
variable (n t : Int) (l : List Ap) (A : Option Addr) (k c : Nat) (w : World) (hr : Recs encP 4 w w.heap.size (.slice A k c) l)
include hr
theorem p_claims {C : List Cl} {E : Int} (hC : claimsR n l t = (C, E)) : Calls Try.prog 16 #[.int .i64 n, .slice A k c, .int .i64 t] w fun e w' => ∃ A2 k2 c2, e = .returned (.tuple #[.slice A2 k2 c2, .int .i64 E]) ∧ Recs encC 4 w' w'.heap.size (.slice A2 k2 c2) C ∧ Below w.heap.size w w' := by
  unfold claimsR at hC
  by_cases h : (validA n l && nowB t) = true
  · rw [if_pos h] at hC
    rw [Bool.and_eq_true] at h
    obtain ⟨m, rfl⟩ := ok_nat h.1
    rw [Int.toNat_natCast] at hC
    obtain ⟨rfl, rfl⟩ := Prod.mk.inj hC
    refine (Claims_ok m t l A k c w hr h.1 h.2).mono ?_
    rintro e w' ⟨v, rfl, hg⟩
    have hr2 := hg.recs
    have hb := hg.b
    obtain ⟨A2, c2, rfl, -⟩ := own_slice hg.own
    exact ⟨A2, _, c2, rfl, hr2, hb⟩
  · rw [if_neg h] at hC
    obtain ⟨rfl, rfl⟩ := Prod.mk.inj hC
    refine (Claims_bad n t l A k c w hr (by simpa using h)).mono ?_
    rintro e w' ⟨rfl, hb⟩
    exact ⟨none, 0, 0, rfl, recs_nil _ _ _ _, hb⟩
theorem p_over {C : List Cl} {E : Int} (hC : overR n l t = (C, E)) : Calls Try.prog 18 #[.int .i64 n, .slice A k c, .int .i64 t] w fun e w' => ∃ A2 k2 c2, e = .returned (.tuple #[.slice A2 k2 c2, .int .i64 E]) ∧ Recs encC 4 w' w'.heap.size (.slice A2 k2 c2) C ∧ Below w.heap.size w w' := by
  unfold overR at hC
  by_cases h : (validA n l && nowB t) = true
  · rw [if_pos h] at hC
    rw [Bool.and_eq_true] at h
    obtain ⟨m, rfl⟩ := ok_nat h.1
    rw [Int.toNat_natCast] at hC
    obtain ⟨rfl, rfl⟩ := Prod.mk.inj hC
    refine (Overdue_ok m t l A k c w hr h.1 h.2).mono ?_
    rintro e w' ⟨v, rfl, hg⟩
    have hr2 := hg.recs
    have hb := hg.b
    obtain ⟨A2, c2, rfl, -⟩ := own_slice hg.own
    exact ⟨A2, _, c2, rfl, hr2, hb⟩
  · rw [if_neg h] at hC
    obtain ⟨rfl, rfl⟩ := Prod.mk.inj hC
    refine (Overdue_bad n t l A k c w hr (by simpa using h)).mono ?_
    rintro e w' ⟨rfl, hb⟩
    exact ⟨none, 0, 0, rfl, recs_nil _ _ _ _, hb⟩
theorem p_owed {C : List Int} {E : Int} (hC : owedR n l t = (C, E)) : Calls Try.prog 21 #[.int .i64 n, .slice A k c, .int .i64 t] w fun e w' => ∃ A2 k2 c2, e = .returned (.tuple #[.slice A2 k2 c2, .int .i64 E]) ∧ Recs enc1 1 w' w'.heap.size (.slice A2 k2 c2) C ∧ Below w.heap.size w w' := by
  unfold owedR at hC
  by_cases h : (validA n l && nowB t) = true
  · rw [if_pos h] at hC
    rw [Bool.and_eq_true] at h
    obtain ⟨m, rfl⟩ := ok_nat h.1
    rw [Int.toNat_natCast] at hC
    obtain ⟨rfl, rfl⟩ := Prod.mk.inj hC
    refine (Owed_ok m t l A k c w hr h.1 h.2).mono ?_
    rintro e w' ⟨v, rfl, hg⟩
    have hr2 := hg.recs
    have hb := hg.b
    obtain ⟨A2, c2, rfl, -⟩ := own_slice hg.own
    exact ⟨A2, _, c2, rfl, hr2, hb⟩
  · rw [if_neg h] at hC
    obtain ⟨rfl, rfl⟩ := Prod.mk.inj hC
    refine (Owed_bad n t l A k c w hr (by simpa using h)).mono ?_
    rintro e w' ⟨rfl, hb⟩
    exact ⟨none, 0, 0, rfl, recs_nil _ _ _ _, hb⟩
theorem p_tot {C : List Int} {E : Int} (hC : totR n l t = (C, E)) : Calls Try.prog 23 #[.int .i64 n, .slice A k c, .int .i64 t] w fun e w' => ∃ A2 k2 c2, e = .returned (.tuple #[.slice A2 k2 c2, .int .i64 E]) ∧ Recs enc1 1 w' w'.heap.size (.slice A2 k2 c2) C ∧ Below w.heap.size w w' := by
  unfold totR at hC
  by_cases h : (validA n l && nowB t) = true
  · rw [if_pos h] at hC
    rw [Bool.and_eq_true] at h
    obtain ⟨m, rfl⟩ := ok_nat h.1
    rw [Int.toNat_natCast] at hC
    obtain ⟨rfl, rfl⟩ := Prod.mk.inj hC
    refine (Totals_ok m t l A k c w hr h.1 h.2).mono ?_
    rintro e w' ⟨v, rfl, hg⟩
    have hr2 := hg.recs
    have hb := hg.b
    obtain ⟨A2, c2, rfl, -⟩ := own_slice hg.own
    exact ⟨A2, _, c2, rfl, hr2, hb⟩
  · rw [if_neg h] at hC
    obtain ⟨rfl, rfl⟩ := Prod.mk.inj hC
    refine (Totals_bad n t l A k c w hr (by simpa using h)).mono ?_
    rintro e w' ⟨rfl, hb⟩
    exact ⟨none, 0, 0, rfl, recs_nil _ _ _ _, hb⟩
theorem p_next {x0 x1 x2 x3 : Int} {b : Bool} (hC : nextR n l t = (⟨x0, x1, x2, x3⟩, b)) : Calls Try.prog 25 #[.int .i64 n, .slice A k c, .int .i64 t] w fun e w' => e = .returned (.tuple #[.agg #[.int .i64 x0, .int .i64 x1, .int .i64 x2, .int .i64 x3], .bool b]) ∧ Below w.heap.size w w' := by
  unfold nextR at hC
  by_cases h : (validA n l && nowB t) = true
  · rw [if_pos h] at hC
    rw [Bool.and_eq_true] at h
    obtain ⟨m, rfl⟩ := ok_nat h.1
    rw [Int.toNat_natCast] at hC
    have h2 := Next_ok m t l A k c w hr h.1 h.2
    rw [hC] at h2
    exact h2
  · rw [if_neg h] at hC
    have h2 := Next_bad n t l A k c w hr (by simpa using h)
    rw [hC] at h2
    exact h2
theorem r_claims {C : List Cl} {E : Int} (hC : claimsR n l t = (C, E)) : Calls Try.prog 17 #[.int .i64 n, .slice A k c, .int .i64 t] w fun e w' => ∃ A2 k2 c2, e = .returned (.tuple #[.slice A2 k2 c2, .int .i64 E]) ∧ Recs encC 4 w' w'.heap.size (.slice A2 k2 c2) C ∧ Below w.heap.size w w' := by
  unfold claimsR at hC
  by_cases h : (validA n l && nowB t) = true
  · rw [if_pos h] at hC
    rw [Bool.and_eq_true] at h
    obtain ⟨m, rfl⟩ := ok_nat h.1
    rw [Int.toNat_natCast] at hC
    obtain ⟨rfl, rfl⟩ := Prod.mk.inj hC
    refine (rClaims_ok m t l A k c w hr h.1 h.2).mono ?_
    rintro e w' ⟨v, rfl, hg⟩
    have hr2 := hg.recs
    have hb := hg.b
    obtain ⟨A2, c2, rfl, -⟩ := own_slice hg.own
    exact ⟨A2, _, c2, rfl, hr2, hb⟩
  · rw [if_neg h] at hC
    obtain ⟨rfl, rfl⟩ := Prod.mk.inj hC
    refine (rClaims_bad n t l A k c w hr (by simpa using h)).mono ?_
    rintro e w' ⟨rfl, hb⟩
    exact ⟨none, 0, 0, rfl, recs_nil _ _ _ _, hb⟩
theorem r_over {C : List Cl} {E : Int} (hC : overR n l t = (C, E)) : Calls Try.prog 19 #[.int .i64 n, .slice A k c, .int .i64 t] w fun e w' => ∃ A2 k2 c2, e = .returned (.tuple #[.slice A2 k2 c2, .int .i64 E]) ∧ Recs encC 4 w' w'.heap.size (.slice A2 k2 c2) C ∧ Below w.heap.size w w' := by
  unfold overR at hC
  by_cases h : (validA n l && nowB t) = true
  · rw [if_pos h] at hC
    rw [Bool.and_eq_true] at h
    obtain ⟨m, rfl⟩ := ok_nat h.1
    rw [Int.toNat_natCast] at hC
    obtain ⟨rfl, rfl⟩ := Prod.mk.inj hC
    refine (rOverdue_ok m t l A k c w hr h.1 h.2).mono ?_
    rintro e w' ⟨v, rfl, hg⟩
    have hr2 := hg.recs
    have hb := hg.b
    obtain ⟨A2, c2, rfl, -⟩ := own_slice hg.own
    exact ⟨A2, _, c2, rfl, hr2, hb⟩
  · rw [if_neg h] at hC
    obtain ⟨rfl, rfl⟩ := Prod.mk.inj hC
    refine (rOverdue_bad n t l A k c w hr (by simpa using h)).mono ?_
    rintro e w' ⟨rfl, hb⟩
    exact ⟨none, 0, 0, rfl, recs_nil _ _ _ _, hb⟩
theorem r_owed {C : List Int} {E : Int} (hC : owedR n l t = (C, E)) : Calls Try.prog 22 #[.int .i64 n, .slice A k c, .int .i64 t] w fun e w' => ∃ A2 k2 c2, e = .returned (.tuple #[.slice A2 k2 c2, .int .i64 E]) ∧ Recs enc1 1 w' w'.heap.size (.slice A2 k2 c2) C ∧ Below w.heap.size w w' := by
  unfold owedR at hC
  by_cases h : (validA n l && nowB t) = true
  · rw [if_pos h] at hC
    rw [Bool.and_eq_true] at h
    obtain ⟨m, rfl⟩ := ok_nat h.1
    rw [Int.toNat_natCast] at hC
    obtain ⟨rfl, rfl⟩ := Prod.mk.inj hC
    refine (rOwed_ok m t l A k c w hr h.1 h.2).mono ?_
    rintro e w' ⟨v, rfl, hg⟩
    have hr2 := hg.recs
    have hb := hg.b
    obtain ⟨A2, c2, rfl, -⟩ := own_slice hg.own
    exact ⟨A2, _, c2, rfl, hr2, hb⟩
  · rw [if_neg h] at hC
    obtain ⟨rfl, rfl⟩ := Prod.mk.inj hC
    refine (rOwed_bad n t l A k c w hr (by simpa using h)).mono ?_
    rintro e w' ⟨rfl, hb⟩
    exact ⟨none, 0, 0, rfl, recs_nil _ _ _ _, hb⟩
theorem r_tot {C : List Int} {E : Int} (hC : totR n l t = (C, E)) : Calls Try.prog 24 #[.int .i64 n, .slice A k c, .int .i64 t] w fun e w' => ∃ A2 k2 c2, e = .returned (.tuple #[.slice A2 k2 c2, .int .i64 E]) ∧ Recs enc1 1 w' w'.heap.size (.slice A2 k2 c2) C ∧ Below w.heap.size w w' := by
  unfold totR at hC
  by_cases h : (validA n l && nowB t) = true
  · rw [if_pos h] at hC
    rw [Bool.and_eq_true] at h
    obtain ⟨m, rfl⟩ := ok_nat h.1
    rw [Int.toNat_natCast] at hC
    obtain ⟨rfl, rfl⟩ := Prod.mk.inj hC
    refine (rTotals_ok m t l A k c w hr h.1 h.2).mono ?_
    rintro e w' ⟨v, rfl, hg⟩
    have hr2 := hg.recs
    have hb := hg.b
    obtain ⟨A2, c2, rfl, -⟩ := own_slice hg.own
    exact ⟨A2, _, c2, rfl, hr2, hb⟩
  · rw [if_neg h] at hC
    obtain ⟨rfl, rfl⟩ := Prod.mk.inj hC
    refine (rTotals_bad n t l A k c w hr (by simpa using h)).mono ?_
    rintro e w' ⟨rfl, hb⟩
    exact ⟨none, 0, 0, rfl, recs_nil _ _ _ _, hb⟩
theorem r_next {x0 x1 x2 x3 : Int} {b : Bool} (hC : nextR n l t = (⟨x0, x1, x2, x3⟩, b)) : Calls Try.prog 26 #[.int .i64 n, .slice A k c, .int .i64 t] w fun e w' => e = .returned (.tuple #[.agg #[.int .i64 x0, .int .i64 x1, .int .i64 x2, .int .i64 x3], .bool b]) ∧ Below w.heap.size w w' := by
  unfold nextR at hC
  by_cases h : (validA n l && nowB t) = true
  · rw [if_pos h] at hC
    rw [Bool.and_eq_true] at h
    obtain ⟨m, rfl⟩ := ok_nat h.1
    rw [Int.toNat_natCast] at hC
    have h2 := rNext_ok m t l A k c w hr h.1 h.2
    rw [hC] at h2
    exact h2
  · rw [if_neg h] at hC
    have h2 := rNext_bad n t l A k c w hr (by simpa using h)
    rw [hC] at h2
    exact h2
end
/-- The lists, the counts and the seconds of EqualMatchesReference in memory. -/
structure LwS (w : World) (gL gC gT : Nat) (n0 n1 t0 t1 : Int) (wr : World) : Prop where
  ls : ∀ i, i < 2 → ∃ A n c l, wr.cell? ⟨gL, i, none⟩ = some (.slice A n c) ∧ Recs encP 4 wr wr.heap.size (.slice A n c) l
  cs : ∀ i, i < 2 → wr.cell? ⟨gC, i, none⟩ = some (.int .i64 (if i = 0 then n0 else n1))
  ts : ∀ i, i < 2 → wr.cell? ⟨gT, i, none⟩ = some (.int .i64 (if i = 0 then t0 else t1))
  b : Below w.heap.size w wr
  lL : gL < wr.heap.size
  lC : gC < wr.heap.size
  lT : gT < wr.heap.size
theorem LwS.next {w : World} {gL gC gT : Nat} {n0 n1 t0 t1 : Int} {wr wr' : World} (h : LwS w gL gC gT n0 n1 t0 t1 wr) (hb : Below wr.heap.size wr wr') : LwS w gL gC gT n0 n1 t0 t1 wr' := by
  have hs := hb.size
  refine ⟨fun i hi => ?_, fun i hi => (hb.cell (p := ⟨gC, i, none⟩) h.lC).trans (h.cs i hi), fun i hi => (hb.cell (p := ⟨gT, i, none⟩) h.lT).trans (h.ts i hi), below_to h.b hb, by have := h.lL; omega, by have := h.lC; omega, by have := h.lT; omega⟩
  obtain ⟨A, n, c, l, h1, h2⟩ := h.ls i hi
  exact ⟨A, n, c, l, (hb.cell (p := ⟨gL, i, none⟩) h.lL).trans h1, h2.next hb⟩
end Go.Proofs.Ytinhjobjlpkflaa
