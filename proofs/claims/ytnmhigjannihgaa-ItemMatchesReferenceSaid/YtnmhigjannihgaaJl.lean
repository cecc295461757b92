/- longer, its walk. -/
import Derived.Test.YtnmhigjannihgaaJk
namespace Go.Proofs.Ytnmhigjannihgaa
open Go.RowKit Go.Shelf
attribute [local go_sem ↓] append_appN

abbrev zi (d : List Nat) : List Int := d.map fun (k : Nat) => (k : Int)
/-- The longer cuts up to an index. -/
def lgL (d : List Nat) (f i : Nat) : List (List Nat) := (List.range (i - f)).map fun j => d ++ [f + j]
theorem lgL_snoc (d : List Nat) {f i : Nat} (h : f ≤ i) : lgL d f (i + 1) = lgL d f i ++ [d ++ [i]] := by
  unfold lgL
  rw [show i + 1 - f = (i - f) + 1 by omega, List.range_succ, List.map_append]
  simp only [List.map_cons, List.map_nil]
  rw [show f + (i - f) = i by omega]
/-- What longer's loop knows of its world. -/
structure LgIn (w : World) (d : List Nat) (f i : Nat) (xs : List Value) (o : Value) (wr : World) : Prop where
  own : wr.ownsRow w.heap.size 26 1 o xs.length xs
  c : CutsAt wr w.heap.size o xs ((lgL d f i).map zi)
  b : Below w.heap.size w wr
  n : xs.length = i - f
theorem lg_step {w : World} {d : List Nat} {f i : Nat} {xs : List Value} {o : Value} {wr u1 : World} {v1 : Value} {m : Nat} (h : LgIn w d f i xs o wr) (hfi : f ≤ i) (hi : i ≤ 100) (hm : d.length = m) (hm4 : m ≤ 100)
    (hc : u1.ownsRow wr.heap.size 3 1 v1 m (iv1 (zi d))) (hb : Below wr.heap.size wr u1) :
    ∃ A6 c6 w6 A7 c7 w7 xs', Sem.run Try.prog (appN #[26, 26] 26 #[v1, .slice (some ⟨u1.heap.size, 0, none⟩) 1 1]) (u1.alloc (.cells #[.int .i64 (i : Int)] 3)) = .ok (.slice A6 (m + 1) c6) w6 ∧
      Sem.run Try.prog (appN #[42, 42] 42 #[o, .slice (some ⟨w6.heap.size, 0, none⟩) 1 1]) (w6.alloc (.cells #[.slice A6 (m + 1) c6] 26)) = .ok (.slice A7 (xs.length + 1) c7) w7 ∧ LgIn w d f (i + 1) xs' (.slice A7 (xs.length + 1) c7) w7 := by
  obtain ⟨A6, c6, w6, r6, o6, g6, -⟩ := push_one (x := .int .i64 (i : Int)) (B := wr.heap.size) Try.underlying26 infoInt rfl rfl (by omega) hc (by omega) hb.size
  have hbw := h.b.size
  have hbs := hb.size
  have hz6 := g6.size
  rw [World.size_alloc] at hz6
  -- the outer row in the world behind the inner append
  have hou : w6.ownsRow w.heap.size 26 1 o xs.length xs := by
    refine own_keep (own_below h.own hb) (fun k hk => ?_)
    have hkl := own_lt h.own k hk
    refine (g6.block k (by simp; omega) (fun e => ?_)).trans (Below.heap_alloc u1 _ k (by omega))
    have := own_ge hc k e.symm
    omega
  have hb6 : Below wr.heap.size wr w6 := (hb.alloc hb.size _).grown g6 (by simp; omega) (fun r e => own_ge hc r e)
  have hr6 : w6.ownsRow w.heap.size 3 1 (.slice A6 (m + 1) c6) (zi (d ++ [i])).length (iv1 (zi (d ++ [i]))) := by
    have e : iv1 (zi d) ++ [Value.int .i64 (i : Int)] = iv1 (zi (d ++ [i])) := by simp [iv1, zi]
    rw [← e, show (zi (d ++ [i])).length = m + 1 by simp [zi, hm]]
    exact ⟨o6.1, o6.2.imp id fun ⟨g, cap, cur, h1, h2, h3⟩ => ⟨g, cap, cur, h1, Nat.le_trans hbw h2, h3⟩⟩
  have hn6 : ∀ g, (Value.slice A6 (m + 1) c6).ownBlock = some g → o.ownBlock ≠ some g := fun g e e2 => by
    have := own_ge o6 g e
    have := own_lt h.own g e2
    omega
  have hxl : xs.length ≤ 100000 := by have := h.n; omega
  obtain ⟨A7, c7, w7, r7, o7, g7, e7⟩ := push_one (x := .slice A6 (m + 1) c6) (B := w.heap.size) Try.underlying42 infoInts rfl rfl (by omega) hou hxl (by omega)
  refine ⟨A6, c6, w6, A7, c7, w7, xs ++ [.slice A6 (m + 1) c6], r6, r7, by rw [List.length_append]; exact o7, ?_, ?_, by have := h.n; simp; omega⟩
  · have hz7 := g7.size
    rw [World.size_alloc] at hz7
    have hc6 : CutsAt w6 w.heap.size o (xs ++ [.slice A6 (m + 1) c6]) ((lgL d f (i + 1)).map zi) := by
      rw [lgL_snoc d hfi, List.map_append]
      exact (h.c.below hb6).snoc hr6 hn6
    exact (hc6.moves (o' := .slice A7 (xs.length + 1) c7) (e7.imp id fun e => ⟨_, e, by omega⟩)).keep' hc6 (fun k hk hn => (g7.block k (by simp; omega) (fun e => hn e.symm)).trans (Below.heap_alloc w6 _ k hk))
  · have h6 : Below w.heap.size w w6 := below_to h.b hb6
    exact (h6.alloc h6.size _).grown g7 (by simp; omega) (fun r e => own_ge hou r e)
end Go.Proofs.Ytnmhigjannihgaa
