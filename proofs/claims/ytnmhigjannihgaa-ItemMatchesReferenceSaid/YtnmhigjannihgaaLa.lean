/- Copies of spells; the reference's Bent. -/
import Derived.Test.YtnmhigjannihgaaKs
namespace Go.Proofs.Ytnmhigjannihgaa
open Go.RowKit Go.Shelf
attribute [local go_sem ↓] append_appN

/-- A copy of some spells behind an empty literal. -/
theorem copy_spells {w : World} {A : Option Addr} {n c : Nat} {l : List (Int × Int)} (h : Recs enc2 2 w w.heap.size (.slice A n c) l) (hn : n ≤ 1000) :
    ∃ A' c' w', Sem.run Try.prog (appN #[22, 22] 22 #[.slice (some ⟨w.heap.size, 0, none⟩) 0 0, .slice A n c]) (w.alloc (.cells #[] 53)) = .ok (.slice A' n c') w' ∧
      w'.ownsRow w.heap.size 53 2 (.slice A' n c') n (flat2 l) ∧ Below w.heap.size w w' := by
  obtain ⟨i0, hi0, hz0, hz1, hz2⟩ := info_parts infoSpell
  have hl := (recs_cap h).1
  have hown : (w.alloc (.cells #[] 53)).ownsRow w.heap.size 53 2 (.slice (some ⟨w.heap.size, 0, none⟩) 0 0) 0 [] :=
    ⟨rfl, .inr ⟨w.heap.size, 0, #[], rfl, Nat.le_refl _, Row.new w _ _, Nat.le_refl _, by decide, rfl, rfl⟩⟩
  have hb1 : Below w.heap.size w (w.alloc (.cells #[] 53)) := (Below.refl _ w).alloc (Nat.le_refl _) _
  by_cases h0 : n = 0
  · have hnil : l = [] := List.eq_nil_of_length_eq_zero (by omega)
    subst hnil; subst h0
    have hs : Src Try.prog i0.size 22 (.slice A 0 c) 0 [] (w.alloc (.cells #[] 53)) := by
      cases A with
      | none => exact Src.ofNil _ Try.underlying22 _
      | some a => exact Src.ofSlice _ Try.underlying22 _ _ _ _ (by simp) (fun j u hj => by simp at hj) (fun u hu => by cases hu)
    exact ⟨_, _, _, run_append_nothing (P := Try.prog) _ 22 22 22 53 i0 Try.underlying22 hi0 _ 0 0 (Nat.le_refl _) _ hs, hown, hb1⟩
  · obtain ⟨g, o, rfl, hg, hcell⟩ := recs_at h 0 (by omega)
    have hone : ∀ u ∈ flat2 l, u.oneCell' = true := fun u hu => by
      simp only [flat2, List.mem_flatMap, enc2, List.mem_cons, List.not_mem_nil, or_false] at hu
      obtain ⟨x, _, rfl | rfl⟩ := hu <;> rfl
    have hnews : ∀ j u, (flat2 l)[j]? = some u → (w.alloc (.cells #[] 53)).cell? (Addr.add ⟨g, o, none⟩ j) = some u := fun j u hj => by
      have hjl := (List.getElem?_eq_some_iff.1 hj).1
      rw [flat2_len] at hjl
      have hq : l[j / 2]? = some (l[j / 2]'(by omega)) := List.getElem?_eq_getElem _
      have hr2 : j % 2 < 2 := Nat.mod_lt _ (by decide)
      have hu : (enc2 (l[j / 2]'(by omega)))[j % 2]? = some u := by
        have hm : j % 2 = 0 ∨ j % 2 = 1 := by omega
        have e0 := flat2_get l (j / 2) (j % 2) (l[j / 2]'(by omega))
        rcases hm with hm | hm
        · have e1 := e0 (.int .i64 (l[j / 2]'(by omega)).1) hq (by rw [hm]; rfl)
          rw [show j / 2 * 2 + j % 2 = j by omega] at e1
          rw [e1] at hj; rw [hm, ← hj]; rfl
        · have e1 := e0 (.int .i64 (l[j / 2]'(by omega)).2) hq (by rw [hm]; rfl)
          rw [show j / 2 * 2 + j % 2 = j by omega] at e1
          rw [e1] at hj; rw [hm, ← hj]; rfl
      have := hcell (j / 2) _ hq (j % 2) u hu
      rw [Addr.add_lit]
      rw [show o + j / 2 * 2 + j % 2 = o + j by omega] at this
      exact (hb1.cell (p := ⟨g, o + j, none⟩) hg).trans this
    obtain ⟨v', w', hrun, hown', hg', -⟩ := run_append_own_at (P := Try.prog) (w := w.alloc (.cells #[] 53)) w.heap.size 22 22 53 i0 (.agg #[.int .i64 0, .int .i64 0]) 2 16 Try.underlying22 hi0 hz0 hz1 hz2 rfl (by decide)
      _ 0 [] hown ⟨g, o, none⟩ n c (flat2 l) (by rw [flat2_len, hl]) hnews hone (by unfold maxLen; omega) (by omega) (by simp)
    rw [Nat.zero_add, List.nil_append] at hown'
    obtain ⟨A', c', rfl, -⟩ := own_slice hown'
    exact ⟨A', c', w', hrun, hown', hb1.grown hg' (by simp) (fun r e => by cases e; exact Nat.le_refl _)⟩
theorem flat2_set0 : ∀ (l : List (Int × Int)) (k : Nat) (q : Int × Int) (y : Int), l[k]? = some q → (flat2 l).set (k * 2) (.int .i64 y) = flat2 (l.set k (y, q.2))
  | [], k, q, y, h => by simp at h
  | x :: l, 0, q, y, h => by
    have e : x = q := by simpa using h
    subst e; rfl
  | x :: l, k + 1, q, y, h => by
    have ih := flat2_set0 l k q y (by simpa using h)
    show (Value.int .i64 x.1 :: Value.int .i64 x.2 :: flat2 l).set ((k + 1) * 2) _ = Value.int .i64 x.1 :: Value.int .i64 x.2 :: flat2 (l.set k (y, q.2))
    rw [show (k + 1) * 2 = k * 2 + 1 + 1 by omega, List.set_cons_succ, List.set_cons_succ, ih]
theorem flat2_set1 : ∀ (l : List (Int × Int)) (k : Nat) (q : Int × Int) (y : Int), l[k]? = some q → (flat2 l).set (k * 2 + 1) (.int .i64 y) = flat2 (l.set k (q.1, y))
  | [], k, q, y, h => by simp at h
  | x :: l, 0, q, y, h => by
    have e : x = q := by simpa using h
    subst e; rfl
  | x :: l, k + 1, q, y, h => by
    have ih := flat2_set1 l k q y (by simpa using h)
    show (Value.int .i64 x.1 :: Value.int .i64 x.2 :: flat2 l).set ((k + 1) * 2 + 1) _ = Value.int .i64 x.1 :: Value.int .i64 x.2 :: flat2 (l.set k (q.1, y))
    rw [show (k + 1) * 2 + 1 = k * 2 + 1 + 1 + 1 by omega, List.set_cons_succ, List.set_cons_succ, ih]
/-- One number in a row of one's own is exchanged. -/
theorem own_pair {w : World} {B n : Nat} {v : Value} {l : List (Int × Int)} (h : w.ownsRow B 53 2 v n (flat2 l)) (hn : l.length = n) {k : Nat} {q : Int × Int} (hq : l[k]? = some q) {i : Nat} (hi : i < 2) (y : Int) :
    ∃ g c x, v = .slice (some ⟨g, 0, none⟩) n c ∧ B ≤ g ∧ g < w.heap.size ∧ w.cell? ⟨g, k * 2 + i, none⟩ = some (.int .i64 x) ∧ w.frozen? ⟨g, k * 2 + i, none⟩ = false ∧
      ∃ l' : List (Int × Int), l'.length = n ∧ ∀ u : World, u.heap[g]? = w.heap[g]? → (u.setCell ⟨g, k * 2 + i, none⟩ (.int .i64 y)).ownsRow B 53 2 v n (flat2 l') := by
  have hk := (List.getElem?_eq_some_iff.1 hq).1
  have hset : ∃ l' : List (Int × Int), l'.length = n ∧ (flat2 l).set (k * 2 + i) (.int .i64 y) = flat2 l' := by
    have : i = 0 ∨ i = 1 := by omega
    rcases this with rfl | rfl
    · exact ⟨_, by rw [List.length_set, hn], flat2_set0 l k q y hq⟩
    · exact ⟨_, by rw [List.length_set, hn], flat2_set1 l k q y hq⟩
  have hgx : ∃ x, (flat2 l)[k * 2 + i]? = some (.int .i64 x) := by
    have : i = 0 ∨ i = 1 := by omega
    rcases this with rfl | rfl
    · exact ⟨q.1, flat2_get l k 0 q _ hq rfl⟩
    · exact ⟨q.2, flat2_get l k 1 q _ hq rfl⟩
  obtain ⟨l', hl', hset⟩ := hset
  obtain ⟨x, hget⟩ := hgx
  rcases h.2 with ⟨_, h0⟩ | ⟨g, c, cur, hv, hB, hh, h1, h2, h3, h4⟩
  · omega
  · have hrow : Row w g 53 cur := hh
    have hcur : cur[k * 2 + i]? = some (.int .i64 x) := by
      rw [← hget, ← h4, List.getElem?_take, if_pos (by omega), Array.getElem?_toList]
    refine ⟨g, c, x, hv, hB, hrow.lt, (hrow.cell _).trans hcur, hrow.free _, l', hl', fun u hu => ⟨by rw [flat2_len, hl'], .inr ⟨g, c, cur.setIfInBounds (k * 2 + i) (.int .i64 y), hv, hB, ?_, h1, h2, by simpa using h3, ?_⟩⟩⟩
    · exact (show Row u g 53 cur from hu.trans hh).put _ _
    · rw [Array.toList_setIfInBounds, List.take_set, h4, hset]
/-- The number in a cell. -/
noncomputable def cInt (y : World) (g j : Nat) : Int := intOf ((y.cell? ⟨g, j, none⟩).getD undef)
theorem cInt_at {y : World} {g j : Nat} {x : Int} (h : y.cell? ⟨g, j, none⟩ = some (.int .i64 x)) : y.cell? ⟨g, j, none⟩ = some (.int .i64 (cInt y g j)) := by
  unfold cInt; rw [h]; rfl
theorem bn_put {b g j idx : Nat} {sl : Value} {y : World} (hne : b ≠ g) (h : y.cell? ⟨b, idx, none⟩ = some sl ∧ y.cell? ⟨g, j, none⟩ = some (.int .i64 (cInt y g j)) ∧ y.frozen? ⟨g, j, none⟩ = false ∧ g < y.heap.size ∧ b < y.heap.size) (n : Int) :
    (y.setCell ⟨g, j, none⟩ (.int .i64 n)).cell? ⟨b, idx, none⟩ = some sl ∧ (y.setCell ⟨g, j, none⟩ (.int .i64 n)).cell? ⟨g, j, none⟩ = some (.int .i64 (cInt (y.setCell ⟨g, j, none⟩ (.int .i64 n)) g j)) ∧ (y.setCell ⟨g, j, none⟩ (.int .i64 n)).frozen? ⟨g, j, none⟩ = false ∧ g < (y.setCell ⟨g, j, none⟩ (.int .i64 n)).heap.size ∧ b < (y.setCell ⟨g, j, none⟩ (.int .i64 n)).heap.size := by
  obtain ⟨h1, h2, h3, h4, h5⟩ := h
  have hsz : (y.setCell ⟨g, j, none⟩ (.int .i64 n)).heap.size = y.heap.size := by simp [World.setCell]
  have hb : (y.setCell ⟨g, j, none⟩ (.int .i64 n)).heap[b]? = y.heap[b]? := Below.heap_setCell y ⟨g, j, none⟩ _ b (fun e => hne e)
  refine ⟨(World.cell?_of_block (a := ⟨b, idx, none⟩) hb).trans h1, cInt_at (x := n) (World.cell?_setCell_same' y _ _ (by rw [h2]; rfl)), by rw [World.frozen?_setCell]; exact h3, by omega, by omega⟩
end Go.Proofs.Ytnmhigjannihgaa
