/- Words for rows, as in layer 8. -/
import Derived.Test.YtinhjobjlpkflaaUb
import Derived.Test.YtinhjobjlpkflaaEc
namespace Go.Proofs.Ytinhjobjlpkflaa
open Go.RowKit

abbrev iv1 (l : List Int) : List Value := l.map fun x => .int .i64 x
theorem infoInt : (Try.prog.info? 3).map (fun i => (i.zero, i.size, i.bytes)) = some (some (.int .i64 0), 1, 8) := by kernel_rfl
theorem infoInts : (Try.prog.info? 28).map (fun i => (i.zero, i.size, i.bytes)) = some (some (.slice none 0 0), 1, 24) := by kernel_rfl
/-- One value more behind a row of one's own. -/
theorem push_one {w : World} {B n : Nat} {v x z : Value} {l : List Value} {t e : TypeId} {by_ : Nat} (ht : Try.prog.underlying t = some (.slice e)) (hi : (Try.prog.info? e).map (fun i => (i.zero, i.size, i.bytes)) = some (some z, 1, by_)) (hz : z.cells.size = 1) (hx : x.oneCell' = true) (hby : by_ ≤ 1000)
    (hrow : w.ownsRow B e 1 v n l) (hn : n ≤ 100000) (hB : B ≤ w.heap.size) :
    ∃ A c w', Sem.run Try.prog (appN #[t, t] t #[v, .slice (some ⟨w.heap.size, 0, none⟩) 1 1]) (w.alloc (.cells #[x] e)) = .ok (.slice A (n + 1) c) w' ∧
      w'.ownsRow B e 1 (.slice A (n + 1) c) (n + 1) (l ++ [x]) ∧ (w.alloc (.cells #[x] e)).grownBy w' v.ownBlock ∧ ((Value.slice A (n + 1) c).ownBlock = v.ownBlock ∨ (Value.slice A (n + 1) c).ownBlock = some (w.heap.size + 1)) := by
  obtain ⟨i0, hi0, hz0, hz1, hz2⟩ := info_parts hi
  have hnews : ∀ j u, ([x] : List Value)[j]? = some u → (w.alloc (.cells #[x] e)).cell? (Addr.add ⟨w.heap.size, 0, none⟩ j) = some u := fun j u hj => by
    have hc := (Row.new w e #[x]).cell j
    have ha : Addr.add ⟨w.heap.size, 0, none⟩ j = ⟨w.heap.size, j, none⟩ := by rw [Addr.add_lit, Nat.zero_add]
    rw [ha, hc]; simpa using hj
  have hone : ∀ u ∈ ([x] : List Value), u.oneCell' = true := fun u hu => by rw [List.mem_singleton.1 hu]; exact hx
  obtain ⟨v', w', hrun, hown, hgr, -, hloc⟩ := run_append_own_at (P := Try.prog) (w := w.alloc (.cells #[x] e)) B t t e i0 z 1 by_ ht hi0 hz0 hz1 hz2 hz (by decide)
    v n _ (hrow.alloc _) ⟨w.heap.size, 0, none⟩ 1 1 [x] rfl hnews hone (by unfold maxLen; omega) (by have : (n + 1) * by_ ≤ (n + 1) * 1000 := Nat.mul_le_mul_left _ hby; omega) (by simp; omega)
  obtain ⟨A, c, rfl, -⟩ := own_slice hown
  rw [World.size_alloc] at hloc
  exact ⟨A, c, w', hrun, hown, hgr, hloc⟩
theorem ints_own {w : World} {B n : Nat} {v : Value} {l : List Int} (h : w.ownsRow B 3 1 v n (iv1 l)) (hn : l.length = n) : Recs enc1 1 w w.heap.size v l := by
  obtain ⟨A, c, rfl, hc1, hc2, hA⟩ := own_slice h
  refine ⟨A, c, by rw [hn], by omega, hc2, ?_⟩
  rcases hA with ⟨rfl, h0⟩ | ⟨g, rfl, hB, hg⟩
  · exact .inl (List.eq_nil_of_length_eq_zero (by omega))
  · refine .inr ⟨g, 0, rfl, hg, fun j x hj i u hu => ?_⟩
    have hi : i = 0 := by
      have := (List.getElem?_eq_some_iff.1 hu).1
      simp [enc1] at this
      exact this
    subst hi
    have hx : u = .int .i64 x := by simpa [enc1] using hu.symm
    have hjl := (List.getElem?_eq_some_iff.1 hj).1
    have := h.cellAt j (by simp; omega)
    rw [hx, show 0 + j * 1 + 0 = j by omega, this]
    simp [hj]
abbrev zi (l : List Nat) : List Int := l.map fun (x : Nat) => (x : Int)
theorem zi_len (l : List Nat) : (zi l).length = l.length := by simp [zi]
theorem own_lower {w : World} {B B' : Nat} {e : TypeId} {k n : Nat} {v : Value} {xs : List Value} (h : w.ownsRow B e k v n xs) (hb : B' ≤ B) : w.ownsRow B' e k v n xs := by
  obtain ⟨h1, h2⟩ := h
  refine ⟨h1, ?_⟩
  rcases h2 with h2 | ⟨g, c, cur, hv, hB, rest⟩
  · exact .inl h2
  · exact .inr ⟨g, c, cur, hv, by omega, rest⟩
section
variable {α : Type} {enc : α → List Value} {k : Nat}
def flatE (enc : α → List Value) (l : List α) : List Value := l.flatMap enc
theorem flatE_len (hk : ∀ x, (enc x).length = k) (l : List α) : (flatE enc l).length = l.length * k := by
  induction l with
  | nil => simp [flatE]
  | cons x l ih => simp only [flatE, List.flatMap_cons, List.length_append, List.length_cons] at ih ⊢; rw [ih, hk, Nat.add_mul]; omega
theorem flatE_append (l r : List α) : flatE enc (l ++ r) = flatE enc l ++ flatE enc r := by simp [flatE]
theorem flatE_get (hk : ∀ x, (enc x).length = k) : ∀ (l : List α) (j i : Nat) (x : α) (u : Value), l[j]? = some x → (enc x)[i]? = some u → (flatE enc l)[j * k + i]? = some u
  | [], j, i, x, u, h, _ => by simp at h
  | y :: l, 0, i, x, u, h, g => by
    simp at h; subst h
    have hi : i < (enc y).length := (List.getElem?_eq_some_iff.1 g).1
    simp only [flatE, List.flatMap_cons]
    rw [List.getElem?_append_left (by omega), Nat.zero_mul, Nat.zero_add]; exact g
  | y :: l, j + 1, i, x, u, h, g => by
    have h' : l[j]? = some x := by simpa using h
    have ih := flatE_get hk l j i x u h' g
    simp only [flatE, List.flatMap_cons] at ih ⊢
    rw [List.getElem?_append_right (by rw [hk, Nat.add_mul]; omega), show (j + 1) * k + i - (enc y).length = j * k + i by rw [hk, Nat.add_mul]; omega]; exact ih
theorem recs_of_ownE (hk : ∀ x, (enc x).length = k) {w : World} {base : Nat} {e : TypeId} {v : Value} {n : Nat} {l : List α} (h : w.ownsRow base e k v n (flatE enc l)) (hn : l.length = n) : Recs enc k w w.heap.size v l := by
  subst hn
  rcases h.2 with ⟨rfl, h0⟩ | ⟨g, cap, cur, rfl, hb, hg, h1, h2, h3, h4⟩
  · have : l = [] := List.eq_nil_of_length_eq_zero h0
    subst this
    exact recs_nil _ _ _ _
  · refine ⟨_, cap, rfl, h1, h2, .inr ⟨g, 0, rfl, (Array.getElem?_eq_some_iff.1 hg).1, fun j x hj i u hu => ?_⟩⟩
    have hq := flatE_get hk l j i x u hj hu
    have hlt := (List.getElem?_eq_some_iff.1 hq).1
    rw [flatE_len hk] at hlt
    have := h.cellAt (j * k + i) hlt
    rw [Nat.zero_add, this, hq]
theorem snoc_rec {z : Value} {by_ : Nat} (hk : ∀ x, (enc x).length = k) (hk0 : 0 < k) (hone : ∀ x, ∀ u ∈ enc x, u.oneCell' = true) (hzc : z.cells.size = k) (hby : by_ ≤ 1000) {w : World} {B n : Nat} {v : Value} {l : List α} {t e : TypeId} (x : α) (ht : Try.prog.underlying t = some (.slice e)) (hi : (Try.prog.info? e).map (fun i => (i.zero, i.size, i.bytes)) = some (some z, k, by_))
    (hrow : w.ownsRow B e k v n (flatE enc l)) (hn : n ≤ 100000) (hB : B ≤ w.heap.size) {cs : Array Value} (hcs : (enc x).toArray = cs) :
    ∃ A c w', Sem.run Try.prog (appN #[t, t] t #[v, .slice (some ⟨w.heap.size, 0, none⟩) 1 1]) (w.alloc (.cells cs e)) = .ok (.slice A (n + 1) c) w' ∧
      w'.ownsRow B e k (.slice A (n + 1) c) (n + 1) (flatE enc (l ++ [x])) ∧ (w.alloc (.cells cs e)).grownBy w' v.ownBlock := by
  subst hcs
  obtain ⟨i0, hi0, hz0, hz1, hz2⟩ := info_parts hi
  have hnews : ∀ j u, (enc x)[j]? = some u → (w.alloc (.cells (enc x).toArray e)).cell? (Addr.add ⟨w.heap.size, 0, none⟩ j) = some u := fun j u hj => by
    have hc := (Row.new w e (enc x).toArray).cell j
    have ha : Addr.add ⟨w.heap.size, 0, none⟩ j = ⟨w.heap.size, j, none⟩ := by rw [Addr.add_lit, Nat.zero_add]
    rw [ha, hc]; simpa using hj
  obtain ⟨v', w', hrun, hown, hgr, _⟩ := run_append_own (P := Try.prog) (w.alloc (.cells (enc x).toArray e)) B t t e i0 z k by_ ht hi0 hz0 hz1 hz2 hzc hk0
    v n _ (hrow.alloc _) ⟨w.heap.size, 0, none⟩ 1 1 (enc x) (by rw [hk]; omega) hnews (hone x) (by unfold maxLen; omega) (by have : (n + 1) * by_ ≤ (n + 1) * 1000 := Nat.mul_le_mul_left _ hby; omega) (by simp; omega)
  obtain ⟨A, c, rfl, -⟩ := own_slice hown
  refine ⟨A, c, w', hrun, ?_, hgr⟩
  rw [flatE_append, show flatE enc [x] = enc x by simp [flatE]]
  exact hown
end
theorem own_num {w : World} {B n : Nat} {v : Value} {l : List Nat} (h : w.ownsRow B 3 1 v n (iv1 (zi l))) (hn : l.length = n) {j x : Nat} (hj : l[j]? = some x) :
    ∃ g c, v = .slice (some ⟨g, 0, none⟩) n c ∧ B ≤ g ∧ g < w.heap.size ∧ w.cell? ⟨g, j, none⟩ = some (.int .i64 (x : Int)) ∧ w.frozen? ⟨g, j, none⟩ = false ∧
      ∀ (u : World) (y : Nat), u.heap[g]? = w.heap[g]? → (u.setCell ⟨g, j, none⟩ (.int .i64 (y : Int))).ownsRow B 3 1 v n (iv1 (zi (l.set j y))) := by
  have hk := (List.getElem?_eq_some_iff.1 hj).1
  have hget : (iv1 (zi l))[j]? = some (.int .i64 (x : Int)) := by simp [iv1, zi, hj]
  rcases h.2 with ⟨_, h0⟩ | ⟨g, c, cur, hv, hB, hh, h1, h2, h3, h4⟩
  · omega
  · have hrow : Row w g 3 cur := hh
    have hcur : cur[j]? = some (.int .i64 (x : Int)) := by
      rw [← hget, ← h4, List.getElem?_take, if_pos (by omega), Array.getElem?_toList]
    refine ⟨g, c, hv, hB, hrow.lt, (hrow.cell _).trans hcur, hrow.free _, fun u y hu => ⟨by simp [iv1, zi, hn], .inr ⟨g, c, cur.setIfInBounds j (.int .i64 (y : Int)), hv, hB, ?_, h1, h2, by simpa using h3, ?_⟩⟩⟩
    · exact (show Row u g 3 cur from hu.trans hh).put _ _
    · rw [Array.toList_setIfInBounds, List.take_set, h4]
      simp [iv1, zi, List.map_set]
theorem made_rep (z : Value) (n : Nat) : madeCells #[z] n = Array.replicate n z := by
  unfold madeCells
  apply Array.ext
  · simp
  · intro i h1 h2
    simp [Nat.mod_one]
theorem infoBool : (Try.prog.info? 4).map (fun i => (i.zero, i.size, i.bytes)) = some (some (.bool false), 1, 1) := by kernel_rfl
theorem make_rep {t e : TypeId} {z : Value} {by_ : Nat} (ht : Try.prog.underlying t = some (.slice e)) (hi : (Try.prog.info? e).map (fun i => (i.zero, i.size, i.bytes)) = some (some z, 1, by_)) (hz : z.cells = #[z]) (hby : by_ ≤ 1000) (n : Nat) (hn : n ≤ 100000) (w : World) :
    (Instr.makeSlice t (.int .i64 (n : Int)) (.int .i64 (n : Int))).run Try.prog w = .ok (.slice (some ⟨w.heap.size, 0, none⟩) n n) (w.alloc (.cells (Array.replicate n z) e)) := by
  obtain ⟨i0, hi0, hz0, hz1, hz2⟩ := info_parts hi
  have h := run_make (P := Try.prog) w t e i0 z ht hi0 hz0 .i64 .i64 (n : Int) (n : Int) (by omega) (Int.le_refl _) (by rw [hz2]; have : (by_ : Int) * n ≤ 1000 * 100000 := Int.mul_le_mul (by omega) (by omega) (by omega) (by omega); omega) (by omega)
  simp only [Int.toNat_natCast] at h
  rw [hz1, Nat.mul_one, hz, made_rep] at h
  exact h
theorem own_cell {w : World} {B k n : Nat} {e : TypeId} {v : Value} {xs : List Value} (h : w.ownsRow B e k v n xs) {j : Nat} {x : Value} (hj : xs[j]? = some x) :
    ∃ g c, v = .slice (some ⟨g, 0, none⟩) n c ∧ B ≤ g ∧ g < w.heap.size ∧ w.cell? ⟨g, j, none⟩ = some x ∧ w.frozen? ⟨g, j, none⟩ = false ∧
      ∀ (u : World) (y : Value), u.heap[g]? = w.heap[g]? → (u.setCell ⟨g, j, none⟩ y).ownsRow B e k v n (xs.set j y) := by
  have hk := (List.getElem?_eq_some_iff.1 hj).1
  rcases h.2 with ⟨_, h0⟩ | ⟨g, c, cur, hv, hB, hh, h1, h2, h3, h4⟩
  · have := h.1
    rw [h0, Nat.zero_mul] at this
    omega
  · have hrow : Row w g e cur := hh
    have hl : j < n * k := by have := h.1; omega
    have hcur : cur[j]? = some x := by
      rw [← hj, ← h4, List.getElem?_take, if_pos hl, Array.getElem?_toList]
    refine ⟨g, c, hv, hB, hrow.lt, (hrow.cell _).trans hcur, hrow.free _, fun u y hu => ⟨by rw [List.length_set]; exact h.1, .inr ⟨g, c, cur.setIfInBounds j y, hv, hB, ?_, h1, h2, by simpa using h3, ?_⟩⟩⟩
    · exact (show Row u g e cur from hu.trans hh).put _ _
    · rw [Array.toList_setIfInBounds, List.take_set, h4]
theorem size_run {e : TypeId} {z : Value} {k by_ : Nat} (hi : (Try.prog.info? e).map (fun i => (i.zero, i.size, i.bytes)) = some (some z, k, by_)) (w : World) : (sizeOf e).run Try.prog w = .ok k w := by
  obtain ⟨i0, hi0, hz0, hz1, hz2⟩ := info_parts hi
  simp [sizeOf, typeInfo, hi0, hz1, go_sem]
theorem slice_head (w : World) (t e : TypeId) {z : Value} {q by_ : Nat} (hu : Try.prog.underlying t = some (.slice e)) (hi : (Try.prog.info? e).map (fun i => (i.zero, i.size, i.bytes)) = some (some z, q, by_)) (A : Option Addr) (n c k : Nat) (hk : k ≤ c) :
    Sem.run Try.prog (Instr.slice t (.slice A n c) none (some (.int .i64 (k : Int))) none) w = .ok (.slice A k c) w := by
  have he : Try.prog.elem t = e := by simp [Program.elem, hu]
  rw [run_slice_h w t A n c (by rw [hu, he]) .i64 (k : Int) (by omega) (by omega), he, size_run hi]
  simp only [Result.andThen, sliced, Int.toNat_natCast, Nat.zero_mul]
  cases A <;> simp [Addr.add]
theorem lit_recs {α : Type} {enc : α → List Value} {k : Nat} (hk : ∀ x, (enc x).length = k) (l : List α) (t : TypeId) (u : World) (hl : l.length ≤ 1000) {n : Nat} (hn : l.length = n) {cs : Array Value} (hc : (flatE enc l).toArray = cs) : Recs enc k (u.alloc (.cells cs t)) (u.alloc (.cells cs t)).heap.size (.slice (some ⟨u.heap.size, 0, none⟩) n n) l := by
  subst hn; subst hc
  exact recs_row (Row.new _ _ _) l (by omega) fun j x hx i v hv => by
    have h := flatE_get hk l j i x v hx hv
    simpa using h
theorem take_eq_snoc {α : Type} {a b : List α} {k : Nat} {x y : α} (hx : a[k]? = some x) (hy : b[k]? = some y) (h : a.take k = b.take k) : (a.take (k + 1) = b.take (k + 1) ↔ x = y) := by
  rw [List.take_add_one, List.take_add_one, hx, hy, h]
  constructor
  · intro e
    have := List.append_cancel_left e
    simpa using this
  · rintro rfl; rfl
theorem slice_from {t e : TypeId} {z : Value} {k by_ : Nat} (hu : Try.prog.underlying t = some (.slice e)) (hi : (Try.prog.info? e).map (fun i => (i.zero, i.size, i.bytes)) = some (some z, k, by_)) (A : Option Addr) (n c d : Nat) (hd : d ≤ n) (w : World) :
    Sem.run Try.prog (Instr.slice t (.slice A n c) (some (.int .i64 (d : Int))) none none) w = .ok (.slice (if c = d then A else A.map (·.add (d * k))) (n - d) (c - d)) w := by
  have he : Try.prog.elem t = e := by simp [Program.elem, hu]
  rw [run_slice_l w t _ n c (by rw [hu, he]) .i64 (d : Int) (by omega) (by omega), he, size_run hi]
  simp only [Result.andThen, sliced, Int.toNat_natCast]
theorem recs_from {α : Type} {enc : α → List Value} {k : Nat} {w : World} {B n c : Nat} {A : Option Addr} {l : List α} (h : Recs enc k w B (.slice A n c) l) (d : Nat) (hd : d ≤ l.length) : Recs enc k w B (.slice (if c = d then A else A.map (·.add (d * k))) (n - d) (c - d)) (l.drop d) := by
  obtain ⟨hn, h1, h2⟩ := recs_cap h
  refine ⟨_, c - d, by rw [List.length_drop, hn], by rw [List.length_drop]; omega, by unfold maxLen; omega, ?_⟩
  rcases Nat.lt_or_ge d l.length with c2 | c2
  · obtain ⟨g', off', e, hg, hcell⟩ := recs_at h d c2
    subst e
    rw [if_neg (by omega)]
    refine .inr ⟨g', off' + d * k, by simp [Addr.add_lit], hg, fun j x hj i u hu => ?_⟩
    rw [List.getElem?_drop] at hj
    have := hcell (d + j) x hj i u hu
    rw [Nat.add_mul] at this
    rwa [show off' + d * k + j * k + i = off' + (d * k + j * k) + i by omega]
  · exact .inl (List.drop_of_length_le c2)
end Go.Proofs.Ytinhjobjlpkflaa
