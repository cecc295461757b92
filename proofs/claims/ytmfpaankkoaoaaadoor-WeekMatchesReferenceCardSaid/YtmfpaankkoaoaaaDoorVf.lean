/- Words for the callers of pieces. -/
import Derived.Test.YtmfpaankkoaoaaaDoorVe
namespace Go.Proofs.YtmfpaankkoaoaaaDoor
open Go.RowKit Go.Shelf

theorem sumL_prefix {L M : List (Nat × Nat)} (h : L <+: M) : sumL L ≤ sumL M := by
  obtain ⟨t, rfl⟩ := h
  rw [sumL_append]; omega
theorem tiles_mem {p : Nat → Bool} : ∀ {L : List (Nat × Nat)} {a b : Nat}, Tiles p L a b → ∀ q ∈ L, a ≤ q.1 ∧ q.1 < q.2 ∧ q.2 ≤ b
  | (x, y) :: L, a, b, ⟨h1, h2, h3, h4, h5, h6⟩, q, hq => by
    rcases List.mem_cons.1 hq with rfl | hq
    · exact ⟨h1, h2, h3⟩
    · have := tiles_mem h6 q hq; exact ⟨by omega, this.2⟩
theorem Row.turn {W W' : World} {g B : Nat} {t : TypeId} {cs : Array Value} {row : Option Nat} (h : Row W g t cs) (hg : W.grownBy W' row) (hr : Turns B W row) : Row W' g t cs :=
  (hg.block g h.lt (fun e => by
    obtain ⟨-, o, ho, hc⟩ := hr g e.symm
    rw [show W.heap[g]? = _ from h] at ho; cases ho; cases hc)).trans h
theorem two_boxes {w w1 : World} {t1 t2 : TypeId} {c1 c2 : Array Value} (hb : Below ((w.alloc (.cells c1 t1)).alloc (.cells c2 t2)).heap.size ((w.alloc (.cells c1 t1)).alloc (.cells c2 t2)) w1) :
    Row w1 w.heap.size t1 c1 ∧ Row w1 (w.heap.size + 1) t2 c2 ∧ Below w.heap.size w w1 ∧ w.heap.size + 1 + 1 ≤ w1.heap.size := by
  have hs := hb.size
  simp only [World.size_alloc] at hs
  have h2 := Row.new (w.alloc (.cells c1 t1)) t2 c2
  rw [World.size_alloc] at h2
  exact ⟨((Row.new w t1 c1).alloc _).below hb (by simp; omega), h2.below hb (by simp), (((Below.refl _ w).alloc (Nat.le_refl _) _).alloc (by simp) _).trans (hb.mono (by simp; omega)), hs⟩
/-- How many seconds the week has of the spell; the error. -/
def secsV (L : List Int) (a b : Int) : Int × Int := if validW L && isSpl a b then (((cnt (hasS L) a.toNat (b.toNat - a.toNat) : Nat) : Int), 0) else (0, 60)
theorem secs_ok {L : List Int} {a b : Nat} (h : validW L = true) (h' : isSpl a b = true) : secsV L a b = (((cnt (hasS L) a (b - a) : Nat) : Int), 0) := by
  unfold secsV; rw [h, h']; rfl
theorem secs_bad {L : List Int} {a b : Int} (h : (validW L && isSpl a b) = false) : secsV L a b = (0, 60) := by
  unfold secsV; rw [h]; rfl
end Go.Proofs.YtmfpaankkoaoaaaDoor
