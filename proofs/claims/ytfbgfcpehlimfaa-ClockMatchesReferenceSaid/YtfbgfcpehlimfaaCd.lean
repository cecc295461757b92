/- Words for slices of records. -/
import Derived.Test.YtfbgfcpehlimfaaCc
namespace Go.Proofs.Ytfbgfcpehlimfaa
open Go.RowKit

/-- Block g is just the cells cs, none frozen. -/
def Row (w : World) (g : Nat) (t : TypeId) (cs : Array Value) : Prop := w.heap[g]? = some (.cells cs t (0, 0))
section
variable {w w' : World} {g : Nat} {t : TypeId} {cs : Array Value}
theorem Row.lt (h : Row w g t cs) : g < w.heap.size := by
  by_cases hl : g < w.heap.size
  · exact hl
  · unfold Row at h; rw [Array.getElem?_eq_none (by omega)] at h; cases h
theorem Row.cell (h : Row w g t cs) (i : Nat) : w.cell? ⟨g, i, none⟩ = cs[i]? := cell_of_row w g i cs t (0, 0) h
theorem Row.free (h : Row w g t cs) (i : Nat) : w.frozen? ⟨g, i, none⟩ = false := frozen_of_row w g i cs t h
theorem Row.new (w : World) (t : TypeId) (cs : Array Value) : Row (w.alloc (.cells cs t)) w.heap.size t cs := heap_alloc_new w _
theorem Row.drewN (h : Row w g t cs) (n : Nat) : Row (w.drewN n) g t cs := h
theorem Row.alloc (h : Row w g t cs) (o : Obj) : Row (w.alloc o) g t cs := (Below.heap_alloc w o g h.lt).trans h
theorem Row.put (h : Row w g t cs) (i : Nat) (u : Value) : Row (w.setCell ⟨g, i, none⟩ u) g t (cs.setIfInBounds i u) := by
  unfold Row at h ⊢
  simp [World.setCell, Array.getElem?_modify, h]
theorem Row.far (h : Row w g t cs) {p : Addr} (hp : g ≠ p.block) (u : Value) : Row (w.setCell p u) g t cs := (Below.heap_setCell w p u g hp).trans h
theorem Row.below {B : Nat} (h : Row w g t cs) (hb : Below B w w') (hg : g < B) : Row w' g t cs := (hb.block g hg).trans h
end

/-- A slice that reads as the records l, of k cells each, in blocks below B. -/
def Recs {α : Type} (enc : α → List Value) (k : Nat) (w : World) (B : Nat) (v : Value) (l : List α) : Prop :=
  ∃ A c, v = .slice A l.length c ∧ l.length ≤ c ∧ c ≤ maxLen ∧ (l = [] ∨ ∃ g off, A = some ⟨g, off, none⟩ ∧ g < B ∧ ∀ j x, l[j]? = some x → ∀ i u, (enc x)[i]? = some u → w.cell? ⟨g, off + j * k + i, none⟩ = some u)
section
variable {α : Type} {enc : α → List Value} {k : Nat} {w w' : World} {B : Nat} {v : Value} {l : List α}
theorem Recs.keep (h : Recs enc k w B v l) (hk : ∀ p : Addr, p.block < B → w'.cell? p = w.cell? p) : Recs enc k w' B v l := by
  obtain ⟨A, c, h1, h2, h3, h4⟩ := h
  refine ⟨A, c, h1, h2, h3, ?_⟩
  rcases h4 with h4 | ⟨g, off, h4, h5, h6⟩
  · exact .inl h4
  · exact .inr ⟨g, off, h4, h5, fun j s hj i u hu => (hk _ h5).trans (h6 j s hj i u hu)⟩
theorem Recs.below (h : Recs enc k w B v l) (hb : Below B w w') : Recs enc k w' B v l := h.keep fun _ hp => hb.cell hp
theorem Recs.more {B' : Nat} (h : Recs enc k w B v l) (hB : B ≤ B') : Recs enc k w B' v l := by
  obtain ⟨A, c, h1, h2, h3, h4⟩ := h
  refine ⟨A, c, h1, h2, h3, ?_⟩
  rcases h4 with h4 | ⟨g, off, h4, h5, h6⟩
  · exact .inl h4
  · exact .inr ⟨g, off, h4, by omega, h6⟩
theorem Recs.next (h : Recs enc k w w.heap.size v l) (hb : Below w.heap.size w w') : Recs enc k w' w'.heap.size v l := (h.below hb).more hb.size
theorem recs_nil (enc : α → List Value) (k : Nat) (w : World) (B : Nat) : Recs enc k w B (.slice none 0 0) [] := ⟨none, 0, rfl, Nat.le_refl _, by decide, .inl rfl⟩
theorem recs_pre {n c : Nat} {A : Option Addr} (h : Recs enc k w B (.slice A n c) l) (m : Nat) (hm : m ≤ l.length) : Recs enc k w B (.slice A m c) (l.take m) := by
  obtain ⟨A', c', e, h1, h2, h3⟩ := h
  injection e with e1 e2 e3
  subst e1; subst e3
  refine ⟨_, c, by rw [List.length_take, Nat.min_eq_left hm], by rw [List.length_take]; omega, h2, ?_⟩
  rcases h3 with h4 | ⟨g', off', h3, hg, hc⟩
  · exact .inl (by rw [h4]; simp)
  · refine .inr ⟨g', off', h3, hg, fun j s hj => ?_⟩
    have hjk : j < m := by have := (List.getElem?_eq_some_iff.1 hj).1; rw [List.length_take] at this; omega
    rw [List.getElem?_take_of_lt hjk] at hj
    exact hc j s hj
theorem recs_at {n c : Nat} {A : Option Addr} (h : Recs enc k w B (.slice A n c) l) (j : Nat) (hj : j < l.length) : ∃ g off, A = some ⟨g, off, none⟩ ∧ g < B ∧ ∀ j x, l[j]? = some x → ∀ i u, (enc x)[i]? = some u → w.cell? ⟨g, off + j * k + i, none⟩ = some u := by
  obtain ⟨A', c', e, h1, h2, h3⟩ := h
  injection e with e1 e2 e3
  subst e1
  rcases h3 with h4 | h3
  · rw [h4] at hj; simp at hj
  · exact h3
theorem recs_form (h : Recs enc k w B v l) : ∃ A c, v = .slice A l.length c ∧ l.length ≤ c ∧ c ≤ 9223372036854775807 := by
  obtain ⟨A, c, h1, h2, h3, _⟩ := h
  exact ⟨A, c, h1, h2, by unfold maxLen at h3; omega⟩
theorem recs_cap {n c : Nat} {A : Option Addr} (h : Recs enc k w B (.slice A n c) l) : n = l.length ∧ l.length ≤ c ∧ c ≤ 9223372036854775807 := by
  obtain ⟨A', c', h1, h2, h3, _⟩ := h
  injection h1 with e1 e2 e3
  subst e3
  exact ⟨e2, h2, by unfold maxLen at h3; omega⟩
end
def enc3 (x : Ca.R3) : List Value := [.int .i64 x.1, .int .i64 x.2.1, .int .i64 x.2.2]
def enc2 (x : Int × Int) : List Value := [.int .i64 x.1, .int .i64 x.2]
theorem cells3 {w : World} {g off : Nat} {l : List Ca.R3} (h : ∀ j x, l[j]? = some x → ∀ i u, (enc3 x)[i]? = some u → w.cell? ⟨g, off + j * 3 + i, none⟩ = some u) (j : Nat) (hj : j < l.length) :
    w.cell? ⟨g, off + j * 3, none⟩ = some (.int .i64 l[j].1) ∧ w.cell? ⟨g, off + j * 3 + 1, none⟩ = some (.int .i64 l[j].2.1) ∧ w.cell? ⟨g, off + j * 3 + 2, none⟩ = some (.int .i64 l[j].2.2) :=
  have hx := List.getElem?_eq_getElem hj
  ⟨h j _ hx 0 _ rfl, h j _ hx 1 _ rfl, h j _ hx 2 _ rfl⟩
theorem cells2 {w : World} {g off : Nat} {l : List (Int × Int)} (h : ∀ j x, l[j]? = some x → ∀ i u, (enc2 x)[i]? = some u → w.cell? ⟨g, off + j * 2 + i, none⟩ = some u) (j : Nat) (hj : j < l.length) :
    w.cell? ⟨g, off + j * 2, none⟩ = some (.int .i64 l[j].1) ∧ w.cell? ⟨g, off + j * 2 + 1, none⟩ = some (.int .i64 l[j].2) :=
  have hx := List.getElem?_eq_getElem hj
  ⟨h j _ hx 0 _ rfl, h j _ hx 1 _ rfl⟩

end Go.Proofs.Ytfbgfcpehlimfaa
