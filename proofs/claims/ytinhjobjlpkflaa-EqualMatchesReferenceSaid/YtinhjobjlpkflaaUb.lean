/- Rows of pairs that a call makes for itself. -/
import Derived.Test.YtinhjobjlpkflaaUa
namespace Go.Proofs.Ytinhjobjlpkflaa
open Go.RowKit

/-- Append under a name that the walk doesn't unfold. -/
def appN (ts : Array TypeId) (t : TypeId) (vs : Array Value) := Builtin.append_ ts t vs
theorem append_appN (ts : Array TypeId) (t : TypeId) (vs : Array Value) : Builtin.append_ ts t vs = appN ts t vs := rfl
theorem own_ge {w : World} {base : Nat} {e : TypeId} {size : Nat} {v : Value} {n : Nat} {xs : List Value} (h : w.ownsRow base e size v n xs) : ∀ k, v.ownBlock = some k → base ≤ k := by
  intro k hk
  rcases h.2 with ⟨rfl, _⟩ | ⟨g, cap, cur, rfl, hb, _⟩
  · simp [Value.ownBlock] at hk
  · simp [Value.ownBlock] at hk; omega
theorem own_lt {w : World} {base : Nat} {e : TypeId} {size : Nat} {v : Value} {n : Nat} {xs : List Value} (h : w.ownsRow base e size v n xs) : ∀ k, v.ownBlock = some k → k < w.heap.size := by
  intro k hk
  rcases h.2 with ⟨rfl, _⟩ | ⟨g, cap, cur, rfl, hb, hh, _⟩
  · simp [Value.ownBlock] at hk
  · simp [Value.ownBlock] at hk; subst hk; exact (Array.getElem?_eq_some_iff.1 hh).1
theorem own_keep {w w' : World} {base : Nat} {e : TypeId} {size : Nat} {v : Value} {n : Nat} {xs : List Value} (h : w.ownsRow base e size v n xs) (hk : ∀ k, v.ownBlock = some k → w'.heap[k]? = w.heap[k]?) : w'.ownsRow base e size v n xs := by
  refine ⟨h.1, ?_⟩
  rcases h.2 with h2 | ⟨g, cap, cur, rfl, h3, h4, h5⟩
  · exact .inl h2
  · exact .inr ⟨g, cap, cur, rfl, h3, (hk g rfl).trans h4, h5⟩
theorem own_below {w w' : World} {base : Nat} {e : TypeId} {size : Nat} {v : Value} {n : Nat} {xs : List Value} (h : w.ownsRow base e size v n xs) (hb : Below w.heap.size w w') : w'.ownsRow base e size v n xs :=
  own_keep h fun k hk => hb.block k (own_lt h k hk)
theorem own_slice {w : World} {base : Nat} {e : TypeId} {size n : Nat} {v : Value} {xs : List Value} (h : w.ownsRow base e size v n xs) : ∃ A c, v = .slice A n c ∧ n ≤ c ∧ c ≤ maxLen ∧ (A = none ∧ n = 0 ∨ ∃ g, A = some ⟨g, 0, none⟩ ∧ base ≤ g ∧ g < w.heap.size) := by
  rcases h.2 with ⟨rfl, rfl⟩ | ⟨g, cap, cur, rfl, hb, hg, hc, hm, _⟩
  · exact ⟨_, _, rfl, Nat.le_refl _, by decide, .inl ⟨rfl, rfl⟩⟩
  · exact ⟨_, _, rfl, hc, hm, .inr ⟨g, rfl, hb, (Array.getElem?_eq_some_iff.1 hg).1⟩⟩
theorem own_below_grown {w w' : World} {B size n : Nat} {e : TypeId} {v : Value} {xs : List Value} {o : Obj} (hrow : w.ownsRow B e size v n xs) (hB : B ≤ w.heap.size) (hg : (w.alloc o).grownBy w' v.ownBlock) : Below B w w' := by
  have h3 : Below B w (w.alloc o) := (Below.refl _ w).alloc hB o
  exact ⟨hg.os.trans h3.os, hg.tape.trans h3.tape, hg.output.trans h3.output, Nat.le_trans h3.size hg.size, fun k hk =>
    (hg.block k (by simp; omega) (fun e => by have := own_ge hrow k e.symm; omega)).trans (h3.block k hk)⟩

def flat2 (l : List (Int × Int)) : List Value := l.flatMap enc2
theorem flat2_len (l : List (Int × Int)) : (flat2 l).length = l.length * 2 := by
  induction l with
  | nil => rfl
  | cons x l ih => simp only [flat2, List.flatMap_cons, List.length_append, List.length_cons] at ih ⊢; rw [ih]; simp [enc2]; omega
theorem flat2_append (l r : List (Int × Int)) : flat2 (l ++ r) = flat2 l ++ flat2 r := by simp [flat2]
theorem flat2_get : ∀ (l : List (Int × Int)) (j i : Nat) (x : Int × Int) (u : Value), l[j]? = some x → (enc2 x)[i]? = some u → (flat2 l)[j * 2 + i]? = some u
  | [], j, i, x, u, h, _ => by simp at h
  | y :: l, 0, i, x, u, h, g => by
    simp at h; subst h
    have hi : i < (enc2 y).length := (List.getElem?_eq_some_iff.1 g).1
    simp only [flat2, List.flatMap_cons]
    rw [List.getElem?_append_left (by omega), Nat.zero_mul, Nat.zero_add]; exact g
  | y :: l, j + 1, i, x, u, h, g => by
    have h' : l[j]? = some x := by simpa using h
    have ih := flat2_get l j i x u h' g
    simp only [flat2, List.flatMap_cons] at ih ⊢
    rw [List.getElem?_append_right (by simp [enc2]; omega), show (j + 1) * 2 + i - (enc2 y).length = j * 2 + i by simp [enc2]; omega]; exact ih
theorem recs_of_own {w : World} {base : Nat} {e : TypeId} {v : Value} {n : Nat} {l : List (Int × Int)} (h : w.ownsRow base e 2 v n (flat2 l)) (hn : l.length = n) : Recs enc2 2 w w.heap.size v l := by
  subst hn
  rcases h.2 with ⟨rfl, h0⟩ | ⟨g, cap, cur, rfl, hb, hg, h1, h2, h3, h4⟩
  · have : l = [] := List.eq_nil_of_length_eq_zero h0
    subst this
    exact recs_nil _ _ _ _
  · refine ⟨_, cap, rfl, h1, h2, .inr ⟨g, 0, rfl, (Array.getElem?_eq_some_iff.1 hg).1, fun j x hj i u hu => ?_⟩⟩
    have hq := flat2_get l j i x u hj hu
    have hlt := (List.getElem?_eq_some_iff.1 hq).1
    rw [flat2_len] at hlt
    have := h.cellAt (j * 2 + i) hlt
    rw [Nat.zero_add, this, hq]
/-- Some pairs more behind a row of the call's own. -/
theorem snoc_pairs {w : World} {B n : Nat} {v : Value} {l : List (Int × Int)} {t e : TypeId} (news : List (Int × Int)) (ht : Try.prog.underlying t = some (.slice e)) (hi : (Try.prog.info? e).map (fun i => (i.zero, i.size, i.bytes)) = some (some (.agg #[.int .i64 0, .int .i64 0]), 2, 16))
    (hrow : w.ownsRow B e 2 v n (flat2 l)) (hn : n ≤ 100000) (hm : news.length ≤ 100000) (hB : B ≤ w.heap.size) :
    ∃ v' w', Sem.run Try.prog (appN #[t, t] t #[v, .slice (some ⟨w.heap.size, 0, none⟩) news.length news.length]) (w.alloc (.cells (flat2 news).toArray e)) = .ok v' w' ∧
      w'.ownsRow B e 2 v' (n + news.length) (flat2 (l ++ news)) ∧ (w.alloc (.cells (flat2 news).toArray e)).grownBy w' v.ownBlock := by
  obtain ⟨i0, hi0, hz0, hz1, hz2⟩ := info_parts hi
  have hnews : ∀ j u, (flat2 news)[j]? = some u → (w.alloc (.cells (flat2 news).toArray e)).cell? (Addr.add ⟨w.heap.size, 0, none⟩ j) = some u := fun j u hj => by
    have hc := (Row.new w e (flat2 news).toArray).cell j
    have ha : Addr.add ⟨w.heap.size, 0, none⟩ j = ⟨w.heap.size, j, none⟩ := by rw [Addr.add_lit, Nat.zero_add]
    rw [ha, hc]; simpa using hj
  have hone : ∀ u ∈ flat2 news, u.oneCell' = true := fun u hu => by
    simp only [flat2, List.mem_flatMap, enc2, List.mem_cons, List.not_mem_nil, or_false] at hu
    obtain ⟨x, _, rfl | rfl⟩ := hu <;> rfl
  obtain ⟨v', w', hrun, hown, hgr, _⟩ := run_append_own (P := Try.prog) (w.alloc (.cells (flat2 news).toArray e)) B t t e i0 (.agg #[.int .i64 0, .int .i64 0]) 2 16 ht hi0 hz0 hz1 hz2 rfl (by decide)
    v n _ (hrow.alloc _) ⟨w.heap.size, 0, none⟩ news.length news.length (flat2 news) (flat2_len news) hnews hone (by unfold maxLen; omega) (by omega) (by simp; omega)
  exact ⟨v', w', hrun, by rw [flat2_append]; exact hown, hgr⟩

end Go.Proofs.Ytinhjobjlpkflaa
