/- Rows of readings that a call makes for itself. -/
import Derived.Test.YtfbgfcpehlimfaaCo
import Derived.Test.YtfbgfcpehlimfaaCj
import Derived.Test.YtfbgfcpehlimfaaCm
namespace Go.Proofs.Ytfbgfcpehlimfaa
open Go.RowKit

def flat3 (l : List Ca.R3) : List Value := l.flatMap enc3
theorem flat3_len (l : List Ca.R3) : (flat3 l).length = l.length * 3 := by
  induction l with
  | nil => rfl
  | cons x l ih => simp only [flat3, List.flatMap_cons, List.length_append, List.length_cons] at ih ⊢; rw [ih]; simp [enc3]; omega
theorem flat3_append (l r : List Ca.R3) : flat3 (l ++ r) = flat3 l ++ flat3 r := by simp [flat3]
theorem flat3_one (a b c : Int) : flat3 [(a, b, c)] = [.int .i64 a, .int .i64 b, .int .i64 c] := rfl
theorem flat3_get : ∀ (l : List Ca.R3) (j i : Nat) (x : Ca.R3) (u : Value), l[j]? = some x → (enc3 x)[i]? = some u → (flat3 l)[j * 3 + i]? = some u
  | [], j, i, x, u, h, _ => by simp at h
  | y :: l, 0, i, x, u, h, g => by
    simp at h; subst h
    have hi : i < (enc3 y).length := (List.getElem?_eq_some_iff.1 g).1
    simp only [flat3, List.flatMap_cons]
    rw [List.getElem?_append_left (by omega), Nat.zero_mul, Nat.zero_add]; exact g
  | y :: l, j + 1, i, x, u, h, g => by
    have h' : l[j]? = some x := by simpa using h
    have ih := flat3_get l j i x u h' g
    simp only [flat3, List.flatMap_cons] at ih ⊢
    rw [List.getElem?_append_right (by simp [enc3]; omega), show (j + 1) * 3 + i - (enc3 y).length = j * 3 + i by simp [enc3]; omega]; exact ih
theorem recs3_of_own {w : World} {base : Nat} {e : TypeId} {v : Value} {n : Nat} {l : List Ca.R3} (h : w.ownsRow base e 3 v n (flat3 l)) (hn : l.length = n) : Recs enc3 3 w w.heap.size v l := by
  subst hn
  rcases h.2 with ⟨rfl, h0⟩ | ⟨g, cap, cur, rfl, hb, hg, h1, h2, h3, h4⟩
  · have : l = [] := List.eq_nil_of_length_eq_zero h0
    subst this
    exact recs_nil _ _ _ _
  · refine ⟨_, cap, rfl, h1, h2, .inr ⟨g, 0, rfl, (Array.getElem?_eq_some_iff.1 hg).1, fun j x hj i u hu => ?_⟩⟩
    have hq := flat3_get l j i x u hj hu
    have hlt := (List.getElem?_eq_some_iff.1 hq).1
    rw [flat3_len] at hlt
    have := h.cellAt (j * 3 + i) hlt
    rw [Nat.zero_add, this, hq]
theorem infoReading : (Try.prog.info? 48).map (fun i => (i.zero, i.size, i.bytes)) = some (some (.agg #[.int .i64 0, .int .i64 0, .int .i64 0]), 3, 24) := by kernel_rfl
/-- A reading more behind a row of the call's own. -/
theorem snoc_reading {w : World} {B n : Nat} {v : Value} {l : List Ca.R3} (x : Ca.R3) (hrow : w.ownsRow B 48 3 v n (flat3 l)) (hn : n ≤ 100000) (hB : B ≤ w.heap.size) :
    ∃ v' w', Sem.run Try.prog (appN #[22, 22] 22 #[v, .slice (some ⟨w.heap.size, 0, none⟩) 1 1]) (w.alloc (.cells #[.int .i64 x.1, .int .i64 x.2.1, .int .i64 x.2.2] 48)) = .ok v' w' ∧
      w'.ownsRow B 48 3 v' (n + 1) (flat3 (l ++ [x])) ∧ (w.alloc (.cells #[.int .i64 x.1, .int .i64 x.2.1, .int .i64 x.2.2] 48)).grownBy w' v.ownBlock := by
  obtain ⟨i0, hi0, hz0, hz1, hz2⟩ := info_parts infoReading
  have hnews : ∀ j u, (flat3 [x])[j]? = some u → (w.alloc (.cells #[.int .i64 x.1, .int .i64 x.2.1, .int .i64 x.2.2] 48)).cell? (Addr.add ⟨w.heap.size, 0, none⟩ j) = some u := fun j u hj => by
    have hc := (Row.new w 48 #[.int .i64 x.1, .int .i64 x.2.1, .int .i64 x.2.2]).cell j
    have ha : Addr.add ⟨w.heap.size, 0, none⟩ j = ⟨w.heap.size, j, none⟩ := by rw [Addr.add_lit, Nat.zero_add]
    rw [ha, hc]; simpa [flat3, enc3] using hj
  have hone : ∀ u ∈ flat3 [x], u.oneCell' = true := fun u hu => by
    simp only [flat3, List.mem_flatMap, enc3, List.mem_cons, List.not_mem_nil, or_false] at hu
    obtain ⟨x, _, rfl | rfl | rfl⟩ := hu <;> rfl
  obtain ⟨v', w', hrun, hown, hgr, _⟩ := run_append_own (P := Try.prog) (w.alloc (.cells #[.int .i64 x.1, .int .i64 x.2.1, .int .i64 x.2.2] 48)) B 22 22 48 i0 (.agg #[.int .i64 0, .int .i64 0, .int .i64 0]) 3 24 Try.underlying22 hi0 hz0 hz1 hz2 rfl (by decide)
    v n _ (hrow.alloc _) ⟨w.heap.size, 0, none⟩ 1 1 (flat3 [x]) (flat3_len [x]) hnews hone (by unfold maxLen; omega) (by omega) (by simp; omega)
  exact ⟨v', w', hrun, by rw [flat3_append]; exact hown, hgr⟩
/-- The cells of reading k. -/
theorem cells_own3 {w : World} {B n : Nat} {e : TypeId} {g cap : Nat} {l : List Ca.R3} (h : w.ownsRow B e 3 (.slice (some ⟨g, 0, none⟩) n cap) n (flat3 l)) (hn : l.length = n) (k : Nat) (hk : k < n) : ∃ x, l[k]? = some x ∧ w.cell? ⟨g, k * 3, none⟩ = some (.int .i64 x.1) ∧ w.cell? ⟨g, k * 3 + 1, none⟩ = some (.int .i64 x.2.1) ∧ w.cell? ⟨g, k * 3 + 2, none⟩ = some (.int .i64 x.2.2) := by
  have hx := List.getElem?_eq_getElem (show k < l.length by omega)
  refine ⟨_, hx, ?_, ?_, ?_⟩
  · rw [h.cellAt (k * 3) (by omega)]; exact flat3_get l k 0 _ _ hx rfl
  · rw [h.cellAt (k * 3 + 1) (by omega)]; exact flat3_get l k 1 _ _ hx rfl
  · rw [h.cellAt (k * 3 + 2) (by omega)]; exact flat3_get l k 2 _ _ hx rfl
end Go.Proofs.Ytfbgfcpehlimfaa
