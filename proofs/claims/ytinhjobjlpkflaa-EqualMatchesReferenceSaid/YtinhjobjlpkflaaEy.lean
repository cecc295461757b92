/- The chapter's examples: what each call answers. -/
import Derived.Test.YtinhjobjlpkflaaEx
import Derived.Test.YtinhjobjlpkflaaEt
import Derived.KernelRfl
namespace Go.Proofs.Ytinhjobjlpkflaa
open Go.RowKit Go.Shelf

def exA : List Ap := [⟨0, 100, 10, 2⟩, ⟨1, 200, 15, 2⟩, ⟨0, 300, 4, 1⟩]
def first0 : Cl := ⟨2, 0, 20, 604900⟩
def exC1 : List Cl := [⟨1, 0, 20, 604900⟩, first0]
def exC2 : List Cl := [first0, ⟨0, 1, 10, 605000⟩, ⟨2, 1, 10, 605000⟩]
def exC3 : List Cl := [first0, ⟨0, 1, 6, 605000⟩, ⟨2, 1, 10, 605000⟩]
theorem k_V : validA ((3 : Nat) : Int) exA = true := by decide +kernel
theorem k_V1 : (validA 1 [] && nowB 0) = false := by decide +kernel
theorem k_V2 : validA 1 [] = false := by decide +kernel
theorem k_C1 : clV 3 exA 100 = exC1 := by decide +kernel
theorem k_C2 : clV 3 exA 299 = exC2 := by decide +kernel
theorem k_C3 : clV 3 exA 300 = exC3 := by decide +kernel
theorem k_O : owV 3 exA 1000 = [6, 0, 30] := by decide +kernel
theorem k_T : totV 3 exA 1000 = [24, 30, 0] := by decide +kernel
theorem k_L : (clV 3 exA 604901).filter (late 604901) = [first0] := by decide +kernel
theorem k_N : nxV (clV 3 exA 300) = (first0, true) := by decide +kernel
section
variable (A : Option Addr) (c : Nat) (u : World) (hl : Recs encP 4 u u.heap.size (.slice A 3 c) exA)
include hl
theorem s_C1 : Calls Try.prog 16 #[.int .i64 3, .slice A 3 c, .int .i64 100] u fun e w' => ∃ A3 c3, e = .returned (.tuple #[.slice A3 2 c3, .int .i64 0]) ∧ Recs encC 4 w' w'.heap.size (.slice A3 2 c3) exC1 ∧ Below u.heap.size u w' := by
  refine (Claims_ok 3 100 exA A 3 c u hl k_V (by decide)).mono ?_
  rintro e w' ⟨v, rfl, hg⟩
  rw [k_C1] at hg
  have hb := hg.b
  have hr := hg.recs
  obtain ⟨A3, c3, rfl, -⟩ := own_slice hg.own
  exact ⟨A3, c3, rfl, hr, hb⟩
theorem s_C2 : Calls Try.prog 16 #[.int .i64 3, .slice A 3 c, .int .i64 299] u fun e w' => ∃ A3 c3, e = .returned (.tuple #[.slice A3 3 c3, .int .i64 0]) ∧ Recs encC 4 w' w'.heap.size (.slice A3 3 c3) exC2 ∧ Below u.heap.size u w' := by
  refine (Claims_ok 3 299 exA A 3 c u hl k_V (by decide)).mono ?_
  rintro e w' ⟨v, rfl, hg⟩
  rw [k_C2] at hg
  have hb := hg.b
  have hr := hg.recs
  obtain ⟨A3, c3, rfl, -⟩ := own_slice hg.own
  exact ⟨A3, c3, rfl, hr, hb⟩
theorem s_C3 : Calls Try.prog 16 #[.int .i64 3, .slice A 3 c, .int .i64 300] u fun e w' => ∃ A3 c3, e = .returned (.tuple #[.slice A3 3 c3, .int .i64 0]) ∧ Recs encC 4 w' w'.heap.size (.slice A3 3 c3) exC3 ∧ Below u.heap.size u w' := by
  refine (Claims_ok 3 300 exA A 3 c u hl k_V (by decide)).mono ?_
  rintro e w' ⟨v, rfl, hg⟩
  rw [k_C3] at hg
  have hb := hg.b
  have hr := hg.recs
  obtain ⟨A3, c3, rfl, -⟩ := own_slice hg.own
  exact ⟨A3, c3, rfl, hr, hb⟩
theorem s_O : Calls Try.prog 21 #[.int .i64 3, .slice A 3 c, .int .i64 1000] u fun e w' => ∃ A3 c3, e = .returned (.tuple #[.slice A3 3 c3, .int .i64 0]) ∧ Recs enc1 1 w' w'.heap.size (.slice A3 3 c3) [6, 0, 30] ∧ Below u.heap.size u w' := by
  refine (Owed_ok 3 1000 exA A 3 c u hl k_V (by decide)).mono ?_
  rintro e w' ⟨v, rfl, hg⟩
  rw [k_O] at hg
  have hb := hg.b
  have hr := hg.recs
  obtain ⟨A3, c3, rfl, -⟩ := own_slice hg.own
  exact ⟨A3, c3, rfl, hr, hb⟩
theorem s_T : Calls Try.prog 23 #[.int .i64 3, .slice A 3 c, .int .i64 1000] u fun e w' => ∃ A3 c3, e = .returned (.tuple #[.slice A3 3 c3, .int .i64 0]) ∧ Recs enc1 1 w' w'.heap.size (.slice A3 3 c3) [24, 30, 0] ∧ Below u.heap.size u w' := by
  refine (Totals_ok 3 1000 exA A 3 c u hl k_V (by decide)).mono ?_
  rintro e w' ⟨v, rfl, hg⟩
  rw [k_T] at hg
  have hb := hg.b
  have hr := hg.recs
  obtain ⟨A3, c3, rfl, -⟩ := own_slice hg.own
  exact ⟨A3, c3, rfl, hr, hb⟩
theorem s_L : Calls Try.prog 18 #[.int .i64 3, .slice A 3 c, .int .i64 604901] u fun e w' => ∃ A3 c3, e = .returned (.tuple #[.slice A3 1 c3, .int .i64 0]) ∧ Recs encC 4 w' w'.heap.size (.slice A3 1 c3) [first0] ∧ Below u.heap.size u w' := by
  refine (Overdue_ok 3 604901 exA A 3 c u hl k_V (by decide)).mono ?_
  rintro e w' ⟨v, rfl, hg⟩
  rw [k_L] at hg
  have hb := hg.b
  have hr := hg.recs
  obtain ⟨A3, c3, rfl, -⟩ := own_slice hg.own
  exact ⟨A3, c3, rfl, hr, hb⟩
theorem s_N : Calls Try.prog 25 #[.int .i64 3, .slice A 3 c, .int .i64 300] u fun e w' => e = .returned (.tuple #[.agg #[.int .i64 2, .int .i64 0, .int .i64 20, .int .i64 604900], .bool true]) ∧ Below u.heap.size u w' := by
  have h := Next_ok 3 300 exA A 3 c u hl k_V (by decide)
  rwa [k_N] at h
theorem s_V : Calls Try.prog 14 #[.int .i64 3, .slice A 3 c] u fun e w' => e = .returned (.bool true) ∧ Below u.heap.size u w' := by
  have h := Valid_any 3 exA A 3 c u hl
  rwa [show validA 3 exA = true from k_V] at h
end
theorem s_B (u : World) : Calls Try.prog 16 #[.int .i64 1, .slice none 0 0, .int .i64 0] u fun e w' => e = .returned (.tuple #[.slice none 0 0, .int .i64 130]) ∧ Below u.heap.size u w' := Claims_bad 1 0 [] none 0 0 u (recs_nil _ _ _ _) k_V1
theorem s_V1 (u : World) : Calls Try.prog 14 #[.int .i64 1, .slice none 0 0] u fun e w' => e = .returned (.bool false) ∧ Below u.heap.size u w' := by
  have h := Valid_any 1 [] none 0 0 u (recs_nil _ _ _ _)
  rwa [k_V2] at h
theorem rints_eq (l : List Int) (A A2 : Option Addr) (n c n2 c2 : Nat) (u : World) (h : Recs enc1 1 u u.heap.size (.slice A n c) l) (h2 : Recs enc1 1 u u.heap.size (.slice A2 n2 c2) l) : Calls Try.prog 27 #[.slice A n c, .slice A2 n2 c2] u fun e w' => e = .returned (.bool true) ∧ Below u.heap.size u w' := by
  have h3 := rints_any l l A A2 n c n2 c2 u h h2
  rwa [decide_eq_true rfl] at h3
theorem rsame_eq (l : List Cl) (A A2 : Option Addr) (n c n2 c2 : Nat) (u : World) (h : Recs encC 4 u u.heap.size (.slice A n c) l) (h2 : Recs encC 4 u u.heap.size (.slice A2 n2 c2) l) : Calls Try.prog 20 #[.slice A n c, .slice A2 n2 c2] u fun e w' => e = .returned (.bool true) ∧ Below u.heap.size u w' := by
  have h3 := rsame_any l l A A2 n c n2 c2 u h h2
  rwa [decide_eq_true rfl] at h3
end Go.Proofs.Ytinhjobjlpkflaa
