/- Slices of grants and of uses among the arguments. -/
import Derived.Test.YtenojfniknjeiaaKit
namespace Go.Proofs.Ytenojfniknjeiaa
open Go.ChangeShapes Go.WideShapes Go.ChangeAt Go.WideMaps Go.WideElems Go.RowKit
open Go.Deep (trod_struct3)

section
variable {H : Type} {enc : TypeId × Value → H} {W : World}
set_option maxRecDepth 100000 in
theorem el_use (n : Nat) (cs : List Value) (y : DataW H × List MemPlace) (h : DataW.trod enc Try.prog W 0 (fun _ => true) true n 46 cs = some y) : ∃ x : Us, cs = encU x ∧ True := by
  obtain ⟨y0, y1, y2, y3, m, _, hl, h0, h1, h2, h3⟩ := Go.Joins.trod_struct4 Try.underlying46 h
  have hl2 : cs.length = 4 := hl.trans (by kernel_rfl)
  obtain ⟨c0, c1, c2, c3, rfl⟩ : ∃ c0 c1 c2 c3, cs = [c0, c1, c2, c3] := by
    match cs, hl2 with
    | [c0, c1, c2, c3], _ => exact ⟨c0, c1, c2, c3, rfl⟩
  obtain ⟨a0, e0, _, _⟩ := DataW.trod_int Try.underlying3 h0
  obtain ⟨a1, e1, _, _⟩ := DataW.trod_int Try.underlying3 h1
  obtain ⟨a2, e2, _, _⟩ := DataW.trod_int Try.underlying3 h2
  obtain ⟨a3, e3, _, _⟩ := DataW.trod_int Try.underlying3 h3
  have k1 : Try.prog.cellsOf 3 = 1 := by kernel_rfl
  simp [k1] at e0 e1 e2 e3
  exact ⟨⟨a0, a1, a2, a3⟩, by rw [e0, e1, e2, e3]; rfl, trivial⟩
set_option maxRecDepth 100000 in
theorem el_grant (n : Nat) (cs : List Value) (y : DataW H × List MemPlace) (h : DataW.trod enc Try.prog W 0 (fun _ => true) true n 52 cs = some y) : ∃ x : Gr, cs = encG x ∧ True := by
  obtain ⟨xs, m, -, -, hl, hlen, hf⟩ := DataW.trod_struct Try.underlying52 h
  have hl2 : cs.length = 6 := hl.trans (by kernel_rfl)
  obtain ⟨c0, c1, c2, c3, c4, c5, rfl⟩ : ∃ c0 c1 c2 c3 c4 c5, cs = [c0, c1, c2, c3, c4, c5] := by
    match cs, hl2 with
    | [c0, c1, c2, c3, c4, c5], _ => exact ⟨c0, c1, c2, c3, c4, c5, rfl⟩
  have k1 : Try.prog.cellsOf 3 = 1 := by kernel_rfl
  have k2 : Try.prog.cellsOf 50 = 2 := by kernel_rfl
  match xs, hlen with
  | [y0, y1, y2, y3, y4], _ =>
    have h0 := hf 0 _ rfl
    have h1 := hf 1 _ rfl
    have h2 := hf 2 _ rfl
    have h3 := hf 3 _ rfl
    have h4 := hf 4 _ rfl
    simp [k1, k2] at h0 h1 h2 h3 h4
    obtain ⟨a0, e0, _⟩ := el_int _ _ _ h0
    obtain ⟨a1, e1, _⟩ := el_int _ _ _ h1
    obtain ⟨a2, e2, _⟩ := el_int _ _ _ h2
    obtain ⟨a3, e3, _⟩ := el_int _ _ _ h3
    obtain ⟨z0, z1, m2, _, _, g0, g1⟩ := trod_struct2 Try.underlying50 h4
    obtain ⟨a4, e4, _, _⟩ := DataW.trod_int Try.underlying3 g0
    obtain ⟨a5, e5, _, _⟩ := DataW.trod_int Try.underlying3 g1
    simp [k1] at e0 e1 e2 e3 e4 e5
    subst e0 e1 e2 e3 e4 e5
    exact ⟨⟨a0, a1, a2, a3, a4, a5⟩, rfl, trivial⟩
theorem open_grants {v : Value} {d : DataW H} {p : List MemPlace} (h : DataW.Trod enc Try.prog W 0 (fun _ => true) true 22 v d p) (hv : ∃ a l c, v = .slice a l c) : ∃ l : List Gr, Recs encG 6 W W.heap.size v l := by
  obtain ⟨f, hf⟩ := h
  obtain ⟨a, l, c, rfl⟩ := hv
  obtain ⟨v, l, e, hr, _⟩ := open_rows (enc' := encG) (k := 6) (Q := fun _ => True) Try.underlying22 (by kernel_rfl) (by decide) (fun _ => rfl) el_grant hf
  simp only [Value.cells] at e
  cases e
  exact ⟨l, hr⟩
theorem open_uses {v : Value} {d : DataW H} {p : List MemPlace} (h : DataW.Trod enc Try.prog W 0 (fun _ => true) true 23 v d p) (hv : ∃ a l c, v = .slice a l c) : ∃ l : List Us, Recs encU 4 W W.heap.size v l := by
  obtain ⟨f, hf⟩ := h
  obtain ⟨a, l, c, rfl⟩ := hv
  obtain ⟨v, l, e, hr, _⟩ := open_rows (enc' := encU) (k := 4) (Q := fun _ => True) Try.underlying23 (by kernel_rfl) (by decide) (fun _ => rfl) el_use hf
  simp only [Value.cells] at e
  cases e
  exact ⟨l, hr⟩
end
end Go.Proofs.Ytenojfniknjeiaa
