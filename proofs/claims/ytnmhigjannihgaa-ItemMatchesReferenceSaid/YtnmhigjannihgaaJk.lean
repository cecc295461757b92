/- longer: the cuts that have one index more. -/
import Derived.Test.YtnmhigjannihgaaJj
import Derived.Test.YtnmhigjannihgaaShelf
namespace Go.Proofs.Ytnmhigjannihgaa
open Go.RowKit Go.Shelf
attribute [local go_sem ↓] append_appN

abbrev iv1 (l : List Int) : List Value := l.map fun x => .int .i64 x
theorem infoInt : (Try.prog.info? 3).map (fun i => (i.zero, i.size, i.bytes)) = some (some (.int .i64 0), 1, 8) := by kernel_rfl
theorem infoInts : (Try.prog.info? 26).map (fun i => (i.zero, i.size, i.bytes)) = some (some (.slice none 0 0), 1, 24) := by kernel_rfl
/-- One value more behind a row of one's own. -/
theorem push_one {w : World} {B n : Nat} {v x z : Value} {l : List Value} {t e : TypeId} {by_ : Nat} (ht : Try.prog.underlying t = some (.slice e)) (hi : (Try.prog.info? e).map (fun i => (i.zero, i.size, i.bytes)) = some (some z, 1, by_)) (hz : z.cells.size = 1) (hx : x.oneCell' = true) (hby : by_ ≤ 1000)
    (hrow : w.ownsRow B e 1 v n l) (hn : n ≤ 100000) (hB : B ≤ w.heap.size) :
    ∃ A c w', Sem.run Try.prog (appN #[t, t] t #[v, .slice (some ⟨w.heap.size, 0, none⟩) 1 1]) (w.alloc (.cells #[x] e)) = .ok (.slice A (n + 1) c) w' ∧
      w'.ownsRow B e 1 (.slice A (n + 1) c) (n + 1) (l ++ [x]) ∧ (w.alloc (.cells #[x] e)).grownBy w' v.ownBlock ∧ ((Value.slice A (n + 1) c).ownBlock = v.ownBlock ∨ (Value.slice A (n + 1) c).ownBlock = some (w.heap.size + 1)) := by
  obtain ⟨i0, hi0, hz0, hz1, hz2⟩ := info_parts hi
  have hnews : ∀ j u, ([x] : List Value)[j]? = some u → (w.alloc (.cells #[x] e)).cell? (Addr.add ⟨w.heap.size, 0, none⟩ j) = some u := fun j u hj => by
    have hc := (Row.new w e #[x]).cell j
    have ha : Addr.add ⟨w.heap.size, 0, none⟩ j = ⟨w.heap.size, j, none⟩ := by rw [Addr.add_lit, Nat.zero_add]
    rw [ha, hc]; simpa using hj
  have hone : ∀ u ∈ ([x] : List Value), u.oneCell' = true := fun u hu => by rw [List.mem_singleton.1 hu]; exact hx
  obtain ⟨v', w', hrun, hown, hgr, -, hloc⟩ := run_append_own_at (P := Try.prog) (w := w.alloc (.cells #[x] e)) B t t e i0 z 1 by_ ht hi0 hz0 hz1 hz2 hz (by decide)
    v n _ (hrow.alloc _) ⟨w.heap.size, 0, none⟩ 1 1 [x] rfl hnews hone (by unfold maxLen; omega) (by have : (n + 1) * by_ ≤ (n + 1) * 1000 := Nat.mul_le_mul_left _ hby; omega) (by simp; omega)
  obtain ⟨A, c, rfl, -⟩ := own_slice hown
  rw [World.size_alloc] at hloc
  exact ⟨A, c, w', hrun, hown, hgr, hloc⟩
theorem ints_own {w : World} {B n : Nat} {v : Value} {l : List Int} (h : w.ownsRow B 3 1 v n (iv1 l)) (hn : l.length = n) : Recs enc1 1 w w.heap.size v l := by
  obtain ⟨A, c, rfl, hc1, hc2, hA⟩ := own_slice h
  refine ⟨A, c, by rw [hn], by omega, hc2, ?_⟩
  rcases hA with ⟨rfl, h0⟩ | ⟨g, rfl, hB, hg⟩
  · exact .inl (List.eq_nil_of_length_eq_zero (by omega))
  · refine .inr ⟨g, 0, rfl, hg, fun j x hj i u hu => ?_⟩
    have hi : i = 0 := by
      have := (List.getElem?_eq_some_iff.1 hu).1
      simp [enc1] at this
      exact this
    subst hi
    have hx : u = .int .i64 x := by simpa [enc1] using hu.symm
    have hjl := (List.getElem?_eq_some_iff.1 hj).1
    have := h.cellAt j (by simp; omega)
    rw [hx, show 0 + j * 1 + 0 = j by omega, this]
    simp [hj]
theorem clone_any (l : List Int) (hl : l.length ≤ 100000) (A : Option Addr) (n c : Nat) (w : World) (hr : Recs enc1 1 w w.heap.size (.slice A n c) l) :
    Calls Try.prog 73 #[.slice A n c] w fun e w' => ∃ v', e = .returned v' ∧ w'.ownsRow w.heap.size 3 1 v' n (iv1 l) ∧ Below w.heap.size w w' := by
  have hn := (recs_cap hr).1
  by_cases hz : n = 0
  · have hnil : l = [] := List.eq_nil_of_length_eq_zero (by omega)
    subst hnil
    subst hz
    cases A with
    | none =>
      refine (Try.slices_Clone_int_nil 0 c w).mono ?_
      rintro e w' ⟨rfl, rfl⟩
      exact ⟨_, rfl, World.ownsRow_nil _ _ _ _, Below.refl _ _⟩
    | some a =>
      refine (Try.slices_Clone_int_zero a c w).mono ?_
      rintro e w' ⟨v', rfl, h1, -, h2⟩
      exact ⟨v', rfl, h1, h2⟩
  · obtain ⟨b, off, rfl, hb, hcell⟩ := recs_at hr 0 (by omega)
    refine (Try.slices_Clone_int b off n c l w (by omega) (by omega) (fun j hj => ?_)).mono ?_
    · have := cells1 hcell j hj
      rw [this]
      simp [List.getD_eq_getElem?_getD, hj]
    · rintro e w' ⟨v', rfl, h1, -, h2⟩
      rw [List.take_of_length_le (by omega)] at h1
      exact ⟨v', rfl, h1, h2⟩
/-- Slices that are rows of one's own, none of them the row o, and read as these lists. -/
def CutsAt (w : World) (B : Nat) (o : Value) (xs : List Value) (ll : List (List Int)) : Prop := xs.length = ll.length ∧ ∀ (j : Nat) (x : Value) (l : List Int), xs[j]? = some x → ll[j]? = some l → w.ownsRow B 3 1 x l.length (iv1 l) ∧ ∀ g, x.ownBlock = some g → o.ownBlock ≠ some g
theorem CutsAt.nil (w : World) (B : Nat) (o : Value) : CutsAt w B o [] [] := ⟨rfl, fun j x l h => by cases h⟩
theorem CutsAt.keep {w w' : World} {B : Nat} {o : Value} {xs : List Value} {ll : List (List Int)} (h : CutsAt w B o xs ll) (hk : ∀ k, k < w.heap.size → o.ownBlock ≠ some k → w'.heap[k]? = w.heap[k]?) : CutsAt w' B o xs ll :=
  ⟨h.1, fun j x l hx hl => ⟨own_keep (h.2 j x l hx hl).1 (fun k e => hk k (own_lt (h.2 j x l hx hl).1 k e) ((h.2 j x l hx hl).2 k e)), (h.2 j x l hx hl).2⟩⟩
theorem CutsAt.below {w w' : World} {B : Nat} {o : Value} {xs : List Value} {ll : List (List Int)} (h : CutsAt w B o xs ll) (hb : Below w.heap.size w w') : CutsAt w' B o xs ll := h.keep fun k hk _ => hb.block k hk
/-- As keep, but what is kept is said of another row o. -/
theorem CutsAt.keep' {w w' : World} {B : Nat} {o o' : Value} {xs : List Value} {ll : List (List Int)} (h : CutsAt w B o' xs ll) (h2 : CutsAt w B o xs ll) (hk : ∀ k, k < w.heap.size → o.ownBlock ≠ some k → w'.heap[k]? = w.heap[k]?) : CutsAt w' B o' xs ll :=
  ⟨h.1, fun j x l hx hl => ⟨own_keep (h.2 j x l hx hl).1 (fun k e => hk k (own_lt (h.2 j x l hx hl).1 k e) ((h2.2 j x l hx hl).2 k e)), (h.2 j x l hx hl).2⟩⟩
/-- The row o may move. -/
theorem CutsAt.moves {w : World} {B : Nat} {o o' : Value} {xs : List Value} {ll : List (List Int)} (h : CutsAt w B o xs ll) (ho : o'.ownBlock = o.ownBlock ∨ ∃ g, o'.ownBlock = some g ∧ w.heap.size ≤ g) : CutsAt w B o' xs ll :=
  ⟨h.1, fun j x l hx hl => ⟨(h.2 j x l hx hl).1, fun g e => by
    rcases ho with ho | ⟨g', ho, hg⟩
    · rw [ho]; exact (h.2 j x l hx hl).2 g e
    · rw [ho]
      intro e2
      have := own_lt (h.2 j x l hx hl).1 g e
      have := Option.some.inj e2
      omega⟩⟩
theorem CutsAt.snoc {w : World} {B : Nat} {o : Value} {xs : List Value} {ll : List (List Int)} (h : CutsAt w B o xs ll) {x : Value} {l : List Int} (hx : w.ownsRow B 3 1 x l.length (iv1 l)) (hn : ∀ g, x.ownBlock = some g → o.ownBlock ≠ some g) : CutsAt w B o (xs ++ [x]) (ll ++ [l]) := by
  refine ⟨by simp [h.1], fun j y m hy hm => ?_⟩
  by_cases hj : j < xs.length
  · rw [List.getElem?_append_left hj] at hy
    rw [List.getElem?_append_left (by rw [← h.1]; exact hj)] at hm
    exact h.2 j y m hy hm
  · have hlt := (List.getElem?_eq_some_iff.1 hy).1
    have he : j = xs.length := by simp at hlt; omega
    subst he
    rw [List.getElem?_concat_length] at hy
    rw [h.1, List.getElem?_concat_length] at hm
    cases hy; cases hm
    exact ⟨hx, hn⟩
end Go.Proofs.Ytnmhigjannihgaa
