/- The appearances that integers determine, in plain words; a row of appearances that is gathered. -/
import Derived.Test.YtinhjobjlpkflaaEw
namespace Go.Proofs.Ytinhjobjlpkflaa
open Go.RowKit
attribute [local go_sem ↓] append_appN

/-- Four integers that determine an appearance. -/
structure I4 where
  a : Int
  b : Int
  c : Int
  d : Int
def enc4 (x : I4) : List Value := [.int .i64 x.a, .int .i64 x.b, .int .i64 x.c, .int .i64 x.d]
structure OkI4 (x : I4) : Prop where
  a : I64 x.a
  b : I64 x.b
  c : I64 x.c
  d : I64 x.d
theorem countV_bd (n : Int) : 2 ≤ countV n ∧ countV n ≤ 5 := by
  have := pickI_lt n 4 (by decide)
  unfold countV
  omega
def stepA (n : Int) (st : List Ap × Int) (x : I4) : List Ap × Int := (st.1 ++ [⟨pickI x.a (countV n), st.2 + 1 + pickI x.b 86400, 1 + pickI x.c 30, 1 + pickI x.d 4⟩], st.2 + 1 + pickI x.b 86400)
def madeS (n : Int) (xs : List I4) : List Ap × Int := xs.foldl (stepA n) ([], 0)
/-- The appearances that integers determine. -/
def madeA (n : Int) (xs : List I4) : List Ap := (madeS n (xs.take 20)).1
theorem madeS_snoc (n : Int) {xs : List I4} {k : Nat} {q : I4} (hq : xs[k]? = some q) : madeS n (xs.take (k + 1)) = stepA n (madeS n (xs.take k)) q := by
  unfold madeS
  rw [List.take_add_one, hq, Option.toList_some, List.foldl_append]
  rfl
structure MdOk (n : Int) (k : Nat) (st : List Ap × Int) : Prop where
  len : st.1.length = k
  ok : ∀ x ∈ st.1, okAp (countV n) x = true ∧ x.at_ ≤ st.2 ∧ x.secs ≤ 30 ∧ x.weight ≤ 4 ∧ 1 ≤ x.at_
  asc : st.1.Pairwise fun a b => a.at_ < b.at_
  a0 : 0 ≤ st.2
  a1 : st.2 ≤ (k : Int) * 86400
theorem MdOk.step {n : Int} {k : Nat} {st : List Ap × Int} (h : MdOk n k st) (hk : k < 20) (x : I4) : MdOk n (k + 1) (stepA n st x) := by
  have h1 := pickI_lt x.a (countV n) (by have := countV_bd n; omega)
  have h2 := pickI_lt x.b 86400 (by decide)
  have h3 := pickI_lt x.c 30 (by decide)
  have h4 := pickI_lt x.d 4 (by decide)
  have a0 := h.a0
  have a1 := h.a1
  refine ⟨?_, fun y hy => ?_, ?_, ?_, ?_⟩
  · unfold stepA; rw [List.length_append, h.len]; rfl
  · unfold stepA at hy ⊢
    dsimp only at hy ⊢
    rcases List.mem_append.1 hy with hy | hy
    · have := h.ok y hy
      exact ⟨this.1, by omega, this.2.2⟩
    · rw [List.mem_singleton.1 hy]
      dsimp only
      refine ⟨?_, Int.le_refl _, by omega, by omega, by omega⟩
      unfold okAp
      simp only [Bool.and_eq_true, decide_eq_true_eq]
      omega
  · unfold stepA
    dsimp only
    refine List.pairwise_append.2 ⟨h.asc, List.pairwise_singleton _ _, fun a ha b hb => ?_⟩
    rw [List.mem_singleton.1 hb]
    have := h.ok a ha
    dsimp only
    omega
  · unfold stepA; dsimp only; omega
  · unfold stepA; dsimp only; omega
theorem made_ok (n : Int) (xs : List I4) : ∀ k, k ≤ xs.length → k ≤ 20 → MdOk n k (madeS n (xs.take k))
  | 0, _, _ => ⟨rfl, fun x hx => by simp [madeS] at hx, by simp [madeS], by simp [madeS], by simp [madeS]⟩
  | k + 1, h1, h2 => by
    have ih := made_ok n xs k (by omega) (by omega)
    have hq : xs[k]? = some xs[k] := List.getElem?_eq_getElem (by omega)
    rw [madeS_snoc n hq]
    exact ih.step (by omega) _
theorem aps_of {n : Int} {l : List Ap} (h1 : ∀ x ∈ l, okAp n x = true) (h2 : l.Pairwise fun a b => a.at_ < b.at_) : apsK n l l.length = true := by
  unfold apsK
  rw [List.all_eq_true]
  intro i hi
  have hil := List.mem_range.1 hi
  have hq : l[i]? = some l[i] := List.getElem?_eq_getElem hil
  rw [ap_getD hq, h1 _ (List.getElem_mem _), Bool.true_and, Bool.or_eq_true, decide_eq_true_eq, decide_eq_true_eq]
  by_cases h0 : i = 0
  · exact .inl h0
  · right
    have hp : l[i - 1]? = some l[i - 1] := List.getElem?_eq_getElem (by omega)
    rw [ap_getD hp]
    rw [List.pairwise_iff_getElem] at h2
    exact h2 (i - 1) i (by omega) hil (by omega)
theorem made_is (n : Int) (xs : List I4) : MdOk n (min xs.length 20) (madeS n (xs.take 20)) := by
  by_cases h : xs.length ≤ 20
  · rw [List.take_of_length_le h, Nat.min_eq_left h]
    have := made_ok n xs xs.length (Nat.le_refl _) h
    rwa [List.take_length] at this
  · rw [Nat.min_eq_right (by omega)]
    exact made_ok n xs 20 (by omega) (Nat.le_refl _)
theorem made_len (n : Int) (xs : List I4) : (madeA n xs).length ≤ 20 ∧ (madeA n xs).length ≤ xs.length := by
  have := (made_is n xs).len
  unfold madeA
  omega
theorem made_at (n : Int) (xs : List I4) {x : Ap} (hx : x ∈ madeA n xs) : 1 ≤ x.at_ ∧ x.at_ ≤ 1728000 ∧ x.secs ≤ 30 ∧ x.weight ≤ 4 := by
  have h := made_is n xs
  have h1 := h.ok x hx
  have h2 := h.a1
  have h3 : ((min xs.length 20 : Nat) : Int) ≤ 20 := by omega
  have h4 := okAp_parts h1.1
  omega
theorem made_valid (n : Int) (xs : List I4) : validA (countV n) (madeA n xs) = true := by
  have h := made_is n xs
  have hl := made_len n xs
  have hc := countV_bd n
  unfold validA
  rw [show apsK (countV n) (madeA n xs) (madeA n xs).length = true from aps_of (fun x hx => (h.ok x hx).1) h.asc]
  simp only [Bool.and_true, Bool.and_eq_true, decide_eq_true_eq]
  omega
theorem infoApp : (Try.prog.info? 49).map (fun i => (i.zero, i.size, i.bytes)) = some (some (.agg #[.int .i64 0, .int .i64 0, .int .i64 0, .int .i64 0]), 4, 32) := by kernel_rfl
theorem encP_one (x : Ap) : ∀ u ∈ encP x, u.oneCell' = true := fun u hu => by
  simp only [encP, List.mem_cons, List.not_mem_nil, or_false] at hu
  rcases hu with rfl | rfl | rfl | rfl <;> rfl
/-- A row of one's own of appearances that is gathered. -/
structure GatP (w : World) (L : List Ap) (o : Value) (wr : World) : Prop where
  own : wr.ownsRow w.heap.size 49 4 o L.length (flatE encP L)
  b : Below w.heap.size w wr
theorem GatP.next {w : World} {L : List Ap} {o : Value} {wr wr' : World} (h : GatP w L o wr) (hb : Below wr.heap.size wr wr') : GatP w L o wr' := ⟨own_below h.own hb, below_to h.b hb⟩
theorem GatP.push {w : World} {L : List Ap} {o : Value} {wr : World} (h : GatP w L o wr) (hl : L.length ≤ 100000) (x : Ap) {cs : Array Value} (hcs : (encP x).toArray = cs) :
    ∃ A c w', Sem.run Try.prog (appN #[22, 22] 22 #[o, .slice (some ⟨wr.heap.size, 0, none⟩) 1 1]) (wr.alloc (.cells cs 49)) = .ok (.slice A (L.length + 1) c) w' ∧ GatP w (L ++ [x]) (.slice A (L.length + 1) c) w' := by
  obtain ⟨A, c, w', hrun, hown, hgr⟩ := snoc_rec (enc := encP) (k := 4) (fun _ => rfl) (by decide) encP_one rfl (by decide) x Try.underlying22 infoApp h.own hl h.b.size hcs
  exact ⟨A, c, w', hrun, by rw [List.length_append]; exact hown, (h.b.alloc h.b.size _).grown hgr (by have := h.b.size; simp; omega) (fun r x => by have := own_ge h.own r x; omega)⟩
theorem GatP.recs {w : World} {L : List Ap} {o : Value} {wr : World} (h : GatP w L o wr) : Recs encP 4 wr wr.heap.size o L := recs_of_ownE (enc := encP) (k := 4) (fun _ => rfl) h.own rfl
end Go.Proofs.Ytinhjobjlpkflaa
