/- The sorting of claims. -/
import Derived.Test.YtinhjobjlpkflaaEm
import Derived.Sort.OwnSorted
namespace Go.Proofs.Ytinhjobjlpkflaa
open Go.RowKit

instance : Inhabited Cl := ⟨⟨0, 0, 0, 0⟩⟩
theorem ltOf_C (x y : Cl) : ltOf cmpC x y = decide (x.of_ < y.of_ ∨ x.of_ = y.of_ ∧ x.cand < y.cand) := by
  unfold ltOf cmpC orI cmpI
  rw [Bool.eq_iff_iff, decide_eq_true_eq, decide_eq_true_eq]
  split <;> split <;> (try split) <;> (try split) <;> omega
theorem swo_C : Go.Sort.SWO (ltOf cmpC) where
  irrefl x := by rw [ltOf_C]; simp
  trans x y z h1 h2 := by rw [ltOf_C] at *; simp at *; omega
  ntrans x y z h1 h2 := by rw [ltOf_C] at *; simp at *; omega
theorem encC_cell (x : Cl) {i : Nat} (h : i < 4) : (encC x)[i]? = some ((encC x)[i]!) := by
  match i, h with
  | 0, _ => rfl
  | 1, _ => rfl
  | 2, _ => rfl
  | 3, _ => rfl
theorem encC_len (x : Cl) : (encC x).length = 4 := rfl
theorem flat_get (l : List Cl) (t : Nat) (ht : t < l.length * 4) : (flatE encC l)[t]? = some ((encC l.toArray[t / 4]!)[t % 4]!) := by
  have hd : t / 4 < l.length := by omega
  have hx : l[t / 4]? = some l[t / 4] := List.getElem?_eq_getElem hd
  have hx2 : l.toArray[t / 4]! = l[t / 4] := by simp [hd]
  rw [hx2]
  have := flatE_get encC_len l (t / 4) (t % 4) _ _ hx (encC_cell l[t / 4] (by omega))
  rw [show t / 4 * 4 + t % 4 = t by omega] at this
  exact this
theorem flatK_flat (l : List Cl) : (Go.Sort.flatK encC 4 l.toArray).toList = flatE encC l := by
  apply List.ext_getElem?
  intro t
  by_cases ht : t < l.length * 4
  · rw [flat_get l t ht]
    simp [Go.Sort.flatK, ht]
  · rw [List.getElem?_eq_none (by simp [Go.Sort.flatK]; omega), List.getElem?_eq_none (by rw [flatE_len encC_len]; omega)]
theorem holds_C {w : World} {g : Nat} {e : TypeId} {cap n : Nat} {l : List Cl} (h : w.ownsRow 0 e 4 (.slice (some ⟨g, 0, none⟩) n cap) n (flatE encC l)) (hn : l.length = n) : Go.Sort.HoldsK encC 4 w g 0 l.toArray := by
  subst hn
  rcases h.2 with ⟨h0, _⟩ | ⟨g', cap', cur, e1, hb, hg, h1, h2, h3, h4⟩
  · cases h0
  · injection e1 with e1 e2 e3
    injection e1 with e1
    injection e1 with e1 e4
    subst e1
    intro t ht
    have ht' : t < l.length * 4 := by simpa [Go.Sort.size_flatK] using ht
    have hc := h.cellAt t ht'
    refine ⟨?_, ?_⟩
    · rw [Nat.zero_add, hc, Go.Sort.get_flatK _ _ _ _ (by simpa using ht')]
      rw [flat_get l t ht']; rfl
    · exact frozen_of_row w g (0 + t) cur e hg
def AscC (c : List Cl) : Prop := ∀ (i j : Nat) (x y : Cl), i < j → c[i]? = some x → c[j]? = some y → ¬ (y.of_ < x.of_ ∨ y.of_ = x.of_ ∧ y.cand < x.cand)
def SortPost (base : Nat) (v : Value) (n : Nat) (l : List Cl) (w : World) (e : Ending) (w' : World) : Prop :=
  e = .returned (.tuple #[]) ∧ ∃ c, l.Perm c ∧ AscC c ∧ w'.ownsRow base 39 4 v n (flatE encC c) ∧ Below base w w'
theorem ownsRow_sortedC {w : World} {base g cap m : Nat} {e : TypeId} {os : Array Obj} {cur : Array Value} {ts : List Cl} {n : Nat} (hl : ts.length = n) (hbase : base ≤ g) (hb : w.heap[g]? = some (.cells cur e (0, 0))) (h1 : n ≤ cap) (h2 : cap ≤ maxLen) (h3 : cur.size = cap * 4) :
    (sortWorldK encC 4 w g 0 m ts.toArray os).ownsRow base e 4 (.slice (some ⟨g, 0, none⟩) n cap) n (flatE encC ts) := by
  subst hl
  have hg : g < w.heap.size := (Array.getElem?_eq_some_iff.1 hb).1
  have hsz : (Go.Sort.flatK encC 4 ts.toArray).size = ts.length * 4 := by simp [Go.Sort.flatK]
  have hheap : (sortWorldK encC 4 w g 0 m ts.toArray os).heap[g]? = some (.cells (Go.Sort.putCells id 0 (Go.Sort.flatK encC 4 ts.toArray) cur) e (0, 0)) := by
    unfold sortWorldK Go.Sort.putRowK
    rw [Go.Sort.heap_grow_old _ _ (by simpa using hg)]
    simp [Go.Sort.putRow, Go.Sort.mapBlock, Go.Sort.ahead, Array.getElem?_modify, hb, Go.Sort.onCells]
  refine ⟨by rw [flatE_len encC_len], .inr ⟨g, cap, _, rfl, hbase, hheap, h1, h2, by simp [Go.Sort.putCells, h3], ?_⟩⟩
  rw [← flatK_flat ts]
  apply List.ext_getElem?
  intro j
  by_cases hj : j < ts.length * 4
  · rw [List.getElem?_take_of_lt hj, Array.getElem?_toList, Array.getElem?_toList]
    have hjc : j < cur.size := by omega
    simp [Go.Sort.putCells, hsz, hj, hjc]
  · rw [List.getElem?_take_eq_none (by omega), List.getElem?_eq_none (by simp [Go.Sort.flatK]; omega)]
theorem sort_any (base : Nat) (v : Value) (n : Nat) (l : List Cl) (w : World) (h : w.ownsRow base 39 4 v n (flatE encC l)) (hn : l.length = n) (hl : n ≤ 100000) (hbs : base ≤ w.heap.size) :
    Calls Try.prog 41 #[v, .func (.func 42) #[] #[]] w (SortPost base v n l w) := by
  subst hn
  rcases h.2 with ⟨hv, h0⟩ | ⟨g, cap, cur, rfl, hb, hg, h1, h2, h3, h4⟩
  · subst hv
    have : l = [] := List.eq_nil_of_length_eq_zero h0
    subst this
    have hcon := AnyF.slices_SortFunc_none Try.sortCh none 0 (.func (.func 42) #[] #[]) w
    refine hcon.mono ?_
    rintro e w' ⟨rfl, rfl⟩
    exact ⟨rfl, [], List.Perm.nil, (fun i j x y _ hx => by simp at hx), World.ownsRow_nil _ _ _ _, Below.refl _ _⟩
  · have hgl : g < w.heap.size := (Array.getElem?_eq_some_iff.1 hg).1
    have hH := holds_C (own_lower h (Nat.zero_le _)) rfl
    have eg : ∀ args w, (callFunc 42 args).run Try.prog w = .ok (.enter 42 args) w := enters_of Try.func42 (by kernel_rfl) rfl
    have hcl : CmpLays Try.prog 42 #[] encC 4 cmpC g 0 l.toArray.size w := fun _ _ _ _ x y => closure_any x y _
    have hcon := AnyQ.slices_SortFunc Try.sortCh 4 Try.isAgg39 Try.sizeOf39 encC (fun _ => rfl) (fun x v hv => by simp [encC] at hv; rcases hv with rfl | rfl | rfl | rfl <;> rfl) cmpC swo_C 42 #[] g 0 cap l.toArray w eg hcl hH hgl (by simp; omega)
    have hsz : l.toArray.size = l.length := by simp
    rw [hsz] at hcon
    refine hcon.mono ?_
    rintro e w' ⟨rfl, d', m, os, hp, hs, rfl⟩
    have hds : d'.size = l.length := hp.1
    have hsize : w.heap.size ≤ (sortWorldK encC 4 w g 0 m d' os).heap.size := by
      show w.heap.size ≤ ((Go.Sort.putRowK encC 4 (Go.Sort.ahead w m) g 0 d').heap ++ os).size
      rw [Array.size_append, Go.Sort.size_putRowK]
      show w.heap.size ≤ w.heap.size + _
      omega
    have hget : ∀ j x, d'.toList[j]? = some x → j < d'.size ∧ d'[j]! = x := fun j x hj => by
      have hl := (List.getElem?_eq_some_iff.1 hj)
      obtain ⟨hl, he⟩ := hl
      have hl' : j < d'.size := by simpa using hl
      refine ⟨hl', ?_⟩
      rw [getElem!_pos d' j hl', ← he]; simp
    refine ⟨rfl, d'.toList, ?_, ?_, ?_, ?_⟩
    · have := hp.2.2
      have e1 : d'.extract 0 l.length = d' := by rw [← hds]; simp
      have e2 : l.toArray.extract 0 l.length = l.toArray := by simp
      rw [e1, e2] at this
      simpa using this.symm
    · intro i j x y hij hx hy
      have hj := (List.getElem?_eq_some_iff.1 hy).1
      have := hs i j (by omega) hij (by simpa [hds] using hj)
      rw [ltOf_C, (hget i x hx).2, (hget j y hy).2] at this
      simpa using this
    · have := ownsRow_sortedC (m := m) (os := os) (ts := d'.toList) (n := l.length) (by simp [hds]) hb hg h1 h2 h3
      simpa using this
    · refine ⟨rfl, rfl, rfl, hsize, fun k hk => ?_⟩
      show ((Go.Sort.putRowK encC 4 (Go.Sort.ahead w m) g 0 d').heap ++ os)[k]? = _
      rw [Array.getElem?_append_left (by rw [Go.Sort.size_putRowK]; show k < w.heap.size; omega)]
      show (w.heap.modify g _)[k]? = _
      rw [Array.getElem?_modify, if_neg (by omega)]
end Go.Proofs.Ytinhjobjlpkflaa
