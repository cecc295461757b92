/- RightsMatchesReference: what both sides answer alike. -/
import Derived.Test.YtenojfniknjeiaaRj
namespace Go.Proofs.Ytenojfniknjeiaa
open Go.RowKit Go.Shelf

/-- The first assignment, if there is one. -/
noncomputable def asV (l : List Gr) (U : List Us) : List Nat := @dite _ (∃ L, FirstAs (plN l) (chL l U) L ∧ validG l = true ∧ validU U = true) (Classical.propDecidable _) (fun h => Classical.choose h) (fun _ => [])
noncomputable def asE (l : List Gr) (U : List Us) : Int := @ite _ (∃ L, FirstAs (plN l) (chL l U) L ∧ validG l = true ∧ validU U = true) (Classical.propDecidable _) 0 80
theorem as_some {l : List Gr} {U : List Us} {L : List Nat} (h : FirstAs (plN l) (chL l U) L) (hl : validG l = true) (hu : validU U = true) : asV l U = L ∧ asE l U = 0 := by
  have h1 : ∃ L, FirstAs (plN l) (chL l U) L ∧ validG l = true ∧ validU U = true := ⟨L, h, hl, hu⟩
  unfold asV asE
  rw [dif_pos h1, if_pos h1]
  exact ⟨first_unique (Classical.choose_spec h1).1 h, rfl⟩
theorem as_none {l : List Gr} {U : List Us} (h : ¬ (validG l = true ∧ validU U = true) ∨ ¬ Can (plN l) (chL l U)) : asV l U = [] ∧ asE l U = 80 := by
  have h1 : ¬ ∃ L, FirstAs (plN l) (chL l U) L ∧ validG l = true ∧ validU U = true := fun ⟨L, a, b⟩ => by
    rcases h with h | h
    · exact h b
    · exact h ⟨L, a.is⟩
  unfold asV asE
  rw [dif_neg h1, if_neg h1]
  exact ⟨rfl, rfl⟩
def AsOut (w : World) (l : List Gr) (U : List Us) (e : Ending) (w' : World) : Prop := ∃ A n c, e = .returned (.tuple #[.slice A n c, .int .i64 (asE l U)]) ∧ Recs enc1 1 w' w'.heap.size (.slice A n c) (zi (asV l U)) ∧ Below w.heap.size w w'
theorem as_out {w : World} {l : List Gr} {U : List Us} {e : Ending} {w' : World} (h : AssignPost w l U e w') : AsOut w l U e w' := by
  obtain ⟨v, err, rfl, hb, ⟨rfl, rfl, h⟩ | ⟨rfl, h0, h1, L, hL, ho⟩⟩ := h
  · obtain ⟨a, b⟩ := as_none h
    exact ⟨none, 0, 0, by rw [b], by rw [a]; exact recs_nil _ _ _ _, hb⟩
  · obtain ⟨a, b⟩ := as_some hL h0 h1
    obtain ⟨A, c, rfl, -⟩ := own_slice ho
    exact ⟨A, _, c, by rw [b], by rw [a]; exact ints_own ho (by rw [zi_len]), hb⟩
section
variable (l : List Gr) (U : List Us) (A A2 : Option Addr) (n c n2 c2 : Nat) (w : World) (hr : Recs encG 6 w w.heap.size (.slice A n c) l) (hu : Recs encU 4 w w.heap.size (.slice A2 n2 c2) U)
include hr hu
theorem assign_p : Calls Try.prog 21 #[.slice A n c, .slice A2 n2 c2] w (AsOut w l U) := (Assign_any l U A A2 n c n2 c2 w hr hu).mono fun _ _ h => as_out h
theorem assign_r : Calls Try.prog 22 #[.slice A n c, .slice A2 n2 c2] w (AsOut w l U) := (rAssign_any l U A A2 n c n2 c2 w hr hu).mono fun _ _ h => as_out h
theorem lack_p : Calls Try.prog 23 #[.slice A n c, .slice A2 n2 c2] w (LackPost w (lackV l U)) := Lack_any l U A A2 n c n2 c2 w hr hu
end
theorem same_eq (l : List Gr) (A A2 : Option Addr) (n c n2 c2 : Nat) (u : World) (h : Recs encG 6 u u.heap.size (.slice A n c) l) (h2 : Recs encG 6 u u.heap.size (.slice A2 n2 c2) l) : Calls Try.prog 17 #[.slice A n c, .slice A2 n2 c2] u fun e w' => e = .returned (.bool true) ∧ Below u.heap.size u w' := by
  have h3 := rsame_any l l A A2 n c n2 c2 u h h2
  rwa [decide_eq_true rfl] at h3
/-- What the law's rounds stand on: two lists of grants, two lists of uses, an assignment. -/
structure LwS (w : World) (gG gU : Nat) (as_ : List Int) (A4 : Option Addr) (n4 c4 : Nat) (wr : World) : Prop where
  gr : ∀ i, i < 2 → ∃ A n c l, wr.cell? ⟨gG, i, none⟩ = some (.slice A n c) ∧ Recs encG 6 wr wr.heap.size (.slice A n c) l
  us : ∀ i, i < 2 → ∃ A n c l, wr.cell? ⟨gU, i, none⟩ = some (.slice A n c) ∧ Recs encU 4 wr wr.heap.size (.slice A n c) l
  ha : Recs enc1 1 wr wr.heap.size (.slice A4 n4 c4) as_
  b : Below w.heap.size w wr
  lg : gG < wr.heap.size
  lu : gU < wr.heap.size
theorem LwS.next {w : World} {gG gU : Nat} {as_ : List Int} {A4 : Option Addr} {n4 c4 : Nat} {wr wr' : World} (h : LwS w gG gU as_ A4 n4 c4 wr) (hb : Below wr.heap.size wr wr') : LwS w gG gU as_ A4 n4 c4 wr' := by
  refine ⟨fun i hi => ?_, fun i hi => ?_, h.ha.next hb, below_to h.b hb, Nat.lt_of_lt_of_le h.lg hb.size, Nat.lt_of_lt_of_le h.lu hb.size⟩
  · obtain ⟨A, n, c, l, h1, h2⟩ := h.gr i hi
    exact ⟨A, n, c, l, (hb.cell (p := ⟨gG, i, none⟩) h.lg).trans h1, h2.next hb⟩
  · obtain ⟨A, n, c, l, h1, h2⟩ := h.us i hi
    exact ⟨A, n, c, l, (hb.cell (p := ⟨gU, i, none⟩) h.lu).trans h1, h2.next hb⟩
end Go.Proofs.Ytenojfniknjeiaa
