/- Words of layer 6: rows, slices of records, pick. -/
import Derived.Test.YtinhjobjlpkflaaProg
import Derived.WalkKit
import Derived.Lib.Hide
import Derived.Below
import Derived.Laws.Rows
import Derived.Laws.OwnMore
import Derived.Deep.Draws
import Derived.Deep.QuietTactic
import Derived.BigQuiet
import Derived.BigRegion
import Derived.LoopN
import Derived.Outline
import Derived.Maps.AppendAt
import Derived.RangeFuncBox
import Derived.Laws.ResultCell
import Derived.Deep.DeepCutAuto
import Derived.Deep.RegionHeld3
namespace Go.Proofs.Ytinhjobjlpkflaa
open Go.RowKit

def I64 (x : Int) : Prop := -9223372036854775808 ≤ x ∧ x ≤ 9223372036854775807
abbrev i64 (x : Int) : Value := .int .i64 x
theorem belowN {B : Nat} {w w' : World} (h : Below B w w') (n : Nat) : Below B w (w'.drewN n) := ⟨h.os, h.tape, h.output, h.size, h.block⟩
theorem below_to {w w1 w2 : World} (h1 : Below w.heap.size w w1) (h2 : Below w1.heap.size w1 w2) : Below w.heap.size w w2 := h1.trans (h2.mono h1.size)

/-- Block g is just the cells cs, none frozen. -/
def Row (w : World) (g : Nat) (t : TypeId) (cs : Array Value) : Prop := w.heap[g]? = some (.cells cs t (0, 0))
section
variable {w w' : World} {g : Nat} {t : TypeId} {cs : Array Value}
theorem Row.lt (h : Row w g t cs) : g < w.heap.size := by
  by_cases hl : g < w.heap.size
  · exact hl
  · unfold Row at h; rw [Array.getElem?_eq_none (by omega)] at h; cases h
theorem Row.cell (h : Row w g t cs) (i : Nat) : w.cell? ⟨g, i, none⟩ = cs[i]? := cell_of_row w g i cs t (0, 0) h
theorem Row.free (h : Row w g t cs) (i : Nat) : w.frozen? ⟨g, i, none⟩ = false := frozen_of_row w g i cs t h
theorem Row.new (w : World) (t : TypeId) (cs : Array Value) : Row (w.alloc (.cells cs t)) w.heap.size t cs := heap_alloc_new w _
theorem Row.drewN (h : Row w g t cs) (n : Nat) : Row (w.drewN n) g t cs := h
theorem Row.alloc (h : Row w g t cs) (o : Obj) : Row (w.alloc o) g t cs := (Below.heap_alloc w o g h.lt).trans h
theorem Row.put (h : Row w g t cs) (i : Nat) (u : Value) : Row (w.setCell ⟨g, i, none⟩ u) g t (cs.setIfInBounds i u) := by
  unfold Row at h ⊢
  simp [World.setCell, Array.getElem?_modify, h]
theorem Row.far (h : Row w g t cs) {p : Addr} (hp : g ≠ p.block) (u : Value) : Row (w.setCell p u) g t cs := (Below.heap_setCell w p u g hp).trans h
theorem Row.below {B : Nat} (h : Row w g t cs) (hb : Below B w w') (hg : g < B) : Row w' g t cs := (hb.block g hg).trans h
end

/-- A slice that reads as the records l, of k cells each, in blocks below B. -/
def Recs {α : Type} (enc : α → List Value) (k : Nat) (w : World) (B : Nat) (v : Value) (l : List α) : Prop :=
  ∃ A c, v = .slice A l.length c ∧ l.length ≤ c ∧ c ≤ maxLen ∧ (l = [] ∨ ∃ g off, A = some ⟨g, off, none⟩ ∧ g < B ∧ ∀ j x, l[j]? = some x → ∀ i u, (enc x)[i]? = some u → w.cell? ⟨g, off + j * k + i, none⟩ = some u)
section
variable {α : Type} {enc : α → List Value} {k : Nat} {w w' : World} {B : Nat} {v : Value} {l : List α}
theorem Recs.keep (h : Recs enc k w B v l) (hk : ∀ p : Addr, p.block < B → w'.cell? p = w.cell? p) : Recs enc k w' B v l := by
  obtain ⟨A, c, h1, h2, h3, h4⟩ := h
  refine ⟨A, c, h1, h2, h3, ?_⟩
  rcases h4 with h4 | ⟨g, off, h4, h5, h6⟩
  · exact .inl h4
  · exact .inr ⟨g, off, h4, h5, fun j s hj i u hu => (hk _ h5).trans (h6 j s hj i u hu)⟩
theorem Recs.below (h : Recs enc k w B v l) (hb : Below B w w') : Recs enc k w' B v l := h.keep fun _ hp => hb.cell hp
theorem Recs.more {B' : Nat} (h : Recs enc k w B v l) (hB : B ≤ B') : Recs enc k w B' v l := by
  obtain ⟨A, c, h1, h2, h3, h4⟩ := h
  refine ⟨A, c, h1, h2, h3, ?_⟩
  rcases h4 with h4 | ⟨g, off, h4, h5, h6⟩
  · exact .inl h4
  · exact .inr ⟨g, off, h4, by omega, h6⟩
theorem Recs.next (h : Recs enc k w w.heap.size v l) (hb : Below w.heap.size w w') : Recs enc k w' w'.heap.size v l := (h.below hb).more hb.size
theorem recs_nil (enc : α → List Value) (k : Nat) (w : World) (B : Nat) : Recs enc k w B (.slice none 0 0) [] := ⟨none, 0, rfl, Nat.le_refl _, by decide, .inl rfl⟩
theorem recs_pre {n c : Nat} {A : Option Addr} (h : Recs enc k w B (.slice A n c) l) (m : Nat) (hm : m ≤ l.length) : Recs enc k w B (.slice A m c) (l.take m) := by
  obtain ⟨A', c', e, h1, h2, h3⟩ := h
  injection e with e1 e2 e3
  subst e1; subst e3
  refine ⟨_, c, by rw [List.length_take, Nat.min_eq_left hm], by rw [List.length_take]; omega, h2, ?_⟩
  rcases h3 with h4 | ⟨g', off', h3, hg, hc⟩
  · exact .inl (by rw [h4]; simp)
  · refine .inr ⟨g', off', h3, hg, fun j s hj => ?_⟩
    have hjk : j < m := by have := (List.getElem?_eq_some_iff.1 hj).1; rw [List.length_take] at this; omega
    rw [List.getElem?_take_of_lt hjk] at hj
    exact hc j s hj
theorem recs_at {n c : Nat} {A : Option Addr} (h : Recs enc k w B (.slice A n c) l) (j : Nat) (hj : j < l.length) : ∃ g off, A = some ⟨g, off, none⟩ ∧ g < B ∧ ∀ j x, l[j]? = some x → ∀ i u, (enc x)[i]? = some u → w.cell? ⟨g, off + j * k + i, none⟩ = some u := by
  obtain ⟨A', c', e, h1, h2, h3⟩ := h
  injection e with e1 e2 e3
  subst e1
  rcases h3 with h4 | h3
  · rw [h4] at hj; simp at hj
  · exact h3
theorem recs_form (h : Recs enc k w B v l) : ∃ A c, v = .slice A l.length c ∧ l.length ≤ c ∧ c ≤ 9223372036854775807 := by
  obtain ⟨A, c, h1, h2, h3, _⟩ := h
  exact ⟨A, c, h1, h2, by unfold maxLen at h3; omega⟩
theorem recs_cap {n c : Nat} {A : Option Addr} (h : Recs enc k w B (.slice A n c) l) : n = l.length ∧ l.length ≤ c ∧ c ≤ 9223372036854775807 := by
  obtain ⟨A', c', h1, h2, h3, _⟩ := h
  injection h1 with e1 e2 e3
  subst e3
  exact ⟨e2, h2, by unfold maxLen at h3; omega⟩
end
def enc2 (x : Int × Int) : List Value := [.int .i64 x.1, .int .i64 x.2]
theorem cells2 {w : World} {g off : Nat} {l : List (Int × Int)} (h : ∀ j x, l[j]? = some x → ∀ i u, (enc2 x)[i]? = some u → w.cell? ⟨g, off + j * 2 + i, none⟩ = some u) (j : Nat) (hj : j < l.length) :
    w.cell? ⟨g, off + j * 2, none⟩ = some (.int .i64 l[j].1) ∧ w.cell? ⟨g, off + j * 2 + 1, none⟩ = some (.int .i64 l[j].2) :=
  have hx := List.getElem?_eq_getElem hj
  ⟨h j _ hx 0 _ rfl, h j _ hx 1 _ rfl⟩

def enc1 (x : Int) : List Value := [.int .i64 x]
theorem cells1 {w : World} {g off : Nat} {l : List Int} (h : ∀ j x, l[j]? = some x → ∀ i u, (enc1 x)[i]? = some u → w.cell? ⟨g, off + j * 1 + i, none⟩ = some u) (j : Nat) (hj : j < l.length) :
    w.cell? ⟨g, off + j, none⟩ = some (.int .i64 l[j]) := by
  have := h j _ (List.getElem?_eq_getElem hj) 0 _ rfl
  rwa [Nat.mul_one, Nat.add_zero] at this
theorem run_max2 {P : Program} {w : World} (ts : Array TypeId) (t : TypeId) (k k1 : IntKind) (x y n : Int) (h : max x y = n) :
    Sem.run P (Builtin.max_ ts t #[.int k x, .int k1 y]) w = .ok (.int k n) w := by
  have e : (if y > x then y else x) = n := by rw [← h]; split <;> omega
  rw [run_max_int2, e]
theorem run_min2 {P : Program} {w : World} (ts : Array TypeId) (t : TypeId) (k k1 : IntKind) (x y n : Int) (h : min x y = n) :
    Sem.run P (Builtin.min_ ts t #[.int k x, .int k1 y]) w = .ok (.int k n) w := by
  have e : (if y < x then y else x) = n := by rw [← h]; split <;> omega
  rw [run_min_int2, e]

/-- A box of two cells, laid ahead of a call. -/
theorem kept2 {wr w2 : World} {t : TypeId} {p q : Value} (hb : Below (wr.alloc (.cells #[p, q] t)).heap.size (wr.alloc (.cells #[p, q] t)) w2) :
    w2.cell? ⟨wr.heap.size, 0, none⟩ = some p ∧ w2.cell? ⟨wr.heap.size, 1, none⟩ = some q ∧ Below wr.heap.size wr w2 ∧ wr.heap.size + 1 ≤ w2.heap.size ∧ Row w2 wr.heap.size t #[p, q] := by
  have h := (Row.new wr t #[p, q]).below hb (by simp)
  have hs := hb.size
  rw [World.size_alloc] at hs
  exact ⟨h.cell 0, h.cell 1, ((Below.refl _ wr).alloc (Nat.le_refl _) _).trans (hb.mono (by simp)), hs, h⟩

/-- A call that hands back a known value, in every world that has only grown. -/
abbrev Known (W : World) (f : FuncId) (args : Array Value) (r : Value) : Prop := ∀ u, Below W.heap.size W u → Calls Try.prog f args u fun e w' => e = .returned r ∧ Below u.heap.size u w'
theorem Known.of {W : World} {f : FuncId} {args : Array Value} {r r' : Value} (h : Known W f args r) (e : r = r') : Known W f args r' := e ▸ h
theorem recs_row {α : Type} {enc : α → List Value} {k : Nat} {w : World} {g : Nat} {t : TypeId} {cs : Array Value} (h : Row w g t cs) (l : List α) (hl : l.length ≤ 100000) (hc : ∀ j x, l[j]? = some x → ∀ i u, (enc x)[i]? = some u → cs[j * k + i]? = some u) :
    Recs enc k w w.heap.size (.slice (some ⟨g, 0, none⟩) l.length l.length) l :=
  ⟨_, _, rfl, Nat.le_refl _, by unfold maxLen; omega, .inr ⟨g, 0, rfl, h.lt, fun j x hj i u hu => by rw [h.cell, Nat.zero_add]; exact hc j x hj i u hu⟩⟩
theorem box2 {W u : World} {g : Nat} {t : TypeId} {a b : Value} (h : Row W g t #[a, b]) (hb : Below W.heap.size W u) : u.cell? ⟨g, 0, none⟩ = some a ∧ u.cell? ⟨g, 1, none⟩ = some b := by
  have h2 := h.below hb h.lt
  exact ⟨h2.cell 0, h2.cell 1⟩
/-- The index that an arbitrary integer is mapped to. -/
def pickI (c n : Int) : Int := (if c < 0 then -(c + 1) else c) % n
theorem pickI_lt (c n : Int) (hn : 0 < n) : 0 ≤ pickI c n ∧ pickI c n < n := ⟨Int.emod_nonneg _ (by omega), Int.emod_lt_of_pos _ hn⟩

set_option maxHeartbeats 1000000 in
theorem pick_any (c n : Int) (hn : 0 < n) (hn2 : n ≤ 9223372036854775807) (h0 : -9223372036854775808 ≤ c) (h1 : c ≤ 9223372036854775807) (w : World) :
    Calls Try.prog 13 #[.int .i64 c, .int .i64 n] w fun e w' => e = .returned (.int .i64 (pickI c n)) ∧ w = w' := by
  obtain ⟨q, hq⟩ : ∃ q : Int, (if c < 0 then -(c + 1) else c) = q := ⟨_, rfl⟩
  have hq0 : 0 ≤ q := by rw [← hq]; split <;> omega
  have hqm : q ≤ 9223372036854775807 := by rw [← hq]; split <;> omega
  have e1 : q.tmod n = pickI c n := by
    unfold pickI
    rw [hq, Int.tmod_eq_emod_of_nonneg hq0]
  have hlt := pickI_lt c n hn
  obtain ⟨k, hk⟩ : ∃ k, pickI c n = k := ⟨_, rfl⟩
  rw [hk] at e1 hlt ⊢
  have e2 : IntKind.i64.wrap k = k := IntWalk.i64_in _ (by omega)
  have e3 : (n == 0) = false := by rw [beq_eq_false_iff_ne]; omega
  have e4 : ¬ n = 0 := by omega
  clear hk
  by_cases hc : c < 0
  · rw [if_pos hc] at hq
    have s1 : IntKind.i64.wrap (c + 1) = c + 1 := IntWalk.i64_in _ (by omega)
    have s2 : IntKind.i64.wrap (-(c + 1)) = q := by rw [hq]; exact IntWalk.i64_in _ (by omega)
    clear hq
    go_enter Try.func13, Try.ntmps13
    go_wp2
    go_ret
    exact ⟨rfl, rfl⟩
  · rw [if_neg hc] at hq
    subst hq
    have hc2 : 0 ≤ c := by omega
    go_enter Try.func13, Try.ntmps13
    go_wp2
    go_ret
    exact ⟨rfl, rfl⟩

set_option maxHeartbeats 1000000 in
theorem rpick_any (c n : Int) (hn : 0 < n) (hn2 : n ≤ 9223372036854775807) (h0 : -9223372036854775808 ≤ c) (h1 : c ≤ 9223372036854775807) (w : World) :
    Calls Try.prog 29 #[.int .i64 c, .int .i64 n] w fun e w' => e = .returned (.int .i64 (pickI c n)) ∧ w = w' := by
  obtain ⟨q, hq⟩ : ∃ q : Int, (if c < 0 then -(c + 1) else c) = q := ⟨_, rfl⟩
  have hq0 : 0 ≤ q := by rw [← hq]; split <;> omega
  have hqm : q ≤ 9223372036854775807 := by rw [← hq]; split <;> omega
  have e1 : q.tmod n = pickI c n := by
    unfold pickI
    rw [hq, Int.tmod_eq_emod_of_nonneg hq0]
  have hlt := pickI_lt c n hn
  obtain ⟨k, hk⟩ : ∃ k, pickI c n = k := ⟨_, rfl⟩
  rw [hk] at e1 hlt ⊢
  have e2 : IntKind.i64.wrap k = k := IntWalk.i64_in _ (by omega)
  have e3 : (n == 0) = false := by rw [beq_eq_false_iff_ne]; omega
  have e4 : ¬ n = 0 := by omega
  clear hk
  by_cases hc : c < 0
  · rw [if_pos hc] at hq
    have s1 : IntKind.i64.wrap (c + 1) = c + 1 := IntWalk.i64_in _ (by omega)
    have s2 : IntKind.i64.wrap (-(c + 1)) = q := by rw [hq]; exact IntWalk.i64_in _ (by omega)
    clear hq
    go_enter Try.func29, Try.ntmps29
    go_wp2
    go_ret
    exact ⟨rfl, rfl⟩
  · rw [if_neg hc] at hq
    subst hq
    have hc2 : 0 ≤ c := by omega
    go_enter Try.func29, Try.ntmps29
    go_wp2
    go_ret
    exact ⟨rfl, rfl⟩
end Go.Proofs.Ytinhjobjlpkflaa
