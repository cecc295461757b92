/- EqualDivides in plain words; a row of appearances that grows beside a box. -/
import Derived.Test.YtinhjobjlpkflaaFf
namespace Go.Proofs.Ytinhjobjlpkflaa
open Go.RowKit
attribute [local go_sem ↓] append_appN

def cutS (af : Int) (x : Ap) : Int := 1 + pickI af (x.secs - 1)
/-- What becomes of the appearance with the index i, when that with the index v is divided. -/
def div1 (v : Nat) (af : Int) (i : Nat) (x : Ap) : List Ap := if i = v ∧ 1 < x.secs then [⟨x.cand, 2 * x.at_, cutS af x, x.weight⟩, ⟨x.cand, 2 * x.at_ + 1, x.secs - cutS af x, x.weight⟩] else [⟨x.cand, 2 * x.at_, x.secs, x.weight⟩]
def divK (l : List Ap) (v : Nat) (af : Int) (k : Nat) : List Ap := (List.range k).flatMap fun i => div1 v af i (l.getD i ⟨0, 0, 0, 0⟩)
theorem divK_succ {l : List Ap} {v k : Nat} {af : Int} {x : Ap} (h : l[k]? = some x) : divK l v af (k + 1) = divK l v af k ++ div1 v af k x := by
  unfold divK
  rw [List.range_succ, List.flatMap_append]
  simp [List.getD_eq_getElem?_getD, h]
structure Dv (n : Nat) (l : List Ap) (v k : Nat) (D : List Ap) : Prop where
  len : D.length ≤ k + (if v < k then 1 else 0)
  ok : ∀ x ∈ D, okAp (n : Int) x = true
  nx : ∀ x ∈ D, ∀ (i : Nat) (y : Ap), k ≤ i → l[i]? = some y → x.at_ < 2 * y.at_
  asc : D.Pairwise fun a b => a.at_ < b.at_
  sum : ∀ c, (D.map (fS c)).sum = ((l.take k).map (fS c)).sum
theorem Dv.step {n : Nat} {l D : List Ap} {v k : Nat} {af : Int} {x : Ap} (h : Dv n l v k D) (hx : l[k]? = some x) (hv : apsK (n : Int) l l.length = true) (hat : x.at_ ≤ 4000000) : Dv n l v (k + 1) (D ++ div1 v af k x) := by
  have ok := okAp_parts (aps_at hv hx)
  have hnx : ∀ (y : Ap), y.at_ ≤ 2 * x.at_ + 1 → ∀ (i : Nat) (z : Ap), k + 1 ≤ i → l[i]? = some z → y.at_ < 2 * z.at_ := fun y hy i z hi hz => by
    have := aps_lt hv (show k < i by omega) hx hz
    omega
  have hsum : ∀ c, (((l.take (k + 1))).map (fS c)).sum = ((l.take k).map (fS c)).sum + fS c x := fun c => by
    rw [List.take_add_one, hx, Option.toList_some, List.map_append, List.sum_append]
    simp
  have hpre : ∀ a ∈ D, a.at_ < 2 * x.at_ := fun a ha => h.nx a ha k x (Nat.le_refl _) hx
  unfold div1
  by_cases e : k = v ∧ 1 < x.secs
  · rw [if_pos e]
    obtain ⟨e1, e2⟩ := e
    have hs := pickI_lt af (x.secs - 1) (by omega)
    have hc : 1 ≤ cutS af x ∧ cutS af x < x.secs := by unfold cutS; omega
    have hl := h.len
    rw [if_neg (by omega)] at hl
    refine ⟨by rw [List.length_append, if_pos (by omega)]; simp only [List.length_cons, List.length_nil]; omega, fun y hy => ?_, fun y hy => ?_, ?_, fun c => ?_⟩
    · rcases List.mem_append.1 hy with hy | hy
      · exact h.ok y hy
      · simp only [List.mem_cons, List.not_mem_nil, or_false] at hy
        rcases hy with rfl | rfl
        · unfold okAp; simp only [Bool.and_eq_true, decide_eq_true_eq]; omega
        · unfold okAp; simp only [Bool.and_eq_true, decide_eq_true_eq]; omega
    · rcases List.mem_append.1 hy with hy | hy
      · exact hnx y (by have := hpre y hy; omega)
      · simp only [List.mem_cons, List.not_mem_nil, or_false] at hy
        rcases hy with rfl | rfl
        · exact hnx _ (by dsimp only; omega)
        · exact hnx _ (by dsimp only; omega)
    · refine List.pairwise_append.2 ⟨h.asc, ?_, fun a ha b hb => ?_⟩
      · simp; omega
      · have := hpre a ha
        simp only [List.mem_cons, List.not_mem_nil, or_false] at hb
        rcases hb with rfl | rfl <;> dsimp only <;> omega
    · rw [List.map_append, List.sum_append, h.sum, hsum]
      have e3 : ((([⟨x.cand, 2 * x.at_, cutS af x, x.weight⟩, ⟨x.cand, 2 * x.at_ + 1, x.secs - cutS af x, x.weight⟩] : List Ap).map (fS c)).sum) = fS c x := by
        simp only [List.map_cons, List.map_nil, List.sum_cons, List.sum_nil, Int.add_zero]
        unfold fS worth
        dsimp only
        split
        · rw [← Int.add_mul]; congr 1; omega
        · rfl
      rw [e3]
  · rw [if_neg e]
    have hl := h.len
    refine ⟨by rw [List.length_append, List.length_singleton]; split at hl <;> split <;> omega, fun y hy => ?_, fun y hy => ?_, ?_, fun c => ?_⟩
    · rcases List.mem_append.1 hy with hy | hy
      · exact h.ok y hy
      · rw [List.mem_singleton.1 hy]
        unfold okAp; simp only [Bool.and_eq_true, decide_eq_true_eq]; omega
    · rcases List.mem_append.1 hy with hy | hy
      · exact hnx y (by have := hpre y hy; omega)
      · rw [List.mem_singleton.1 hy]
        exact hnx _ (by dsimp only; omega)
    · refine List.pairwise_append.2 ⟨h.asc, List.pairwise_singleton _ _, fun a ha b hb => ?_⟩
      have := hpre a ha
      rw [List.mem_singleton.1 hb]
      exact this
    · rw [List.map_append, List.sum_append, h.sum, hsum]
      simp [fS, worth]
theorem dv_ok {n : Nat} {l : List Ap} (v : Nat) (af : Int) (hv : apsK (n : Int) l l.length = true) (hat : ∀ x ∈ l, x.at_ ≤ 4000000) : ∀ k, k ≤ l.length → Dv n l v k (divK l v af k)
  | 0, _ => ⟨by simp [divK], fun x hx => by simp [divK] at hx, fun x hx => by simp [divK] at hx, by simp [divK], fun c => by simp [divK]⟩
  | k + 1, hk => by
    have ih := dv_ok v af hv hat k (by omega)
    have hq : l[k]? = some l[k] := List.getElem?_eq_getElem (by omega)
    rw [divK_succ hq]
    exact ih.step hq hv (hat _ (List.getElem_mem _))
/-- EqualDivides in plain words. -/
theorem divides {n : Nat} {l : List Ap} (v : Nat) (af : Int) (hv : validA (n : Int) l = true) (hl : l.length ≤ 20) (hat : ∀ x ∈ l, x.at_ ≤ 4000000) :
    validA (n : Int) (divK l v af l.length) = true ∧ owV n l 10000000 = owV n (divK l v af l.length) 10000000 ∧ totV n l 10000000 = totV n (divK l v af l.length) 10000000 := by
  obtain ⟨h1, h2, h3, h4⟩ := validA_parts hv
  have hd := dv_ok (n := n) v af h4 hat l.length (Nat.le_refl _)
  have hdl := hd.len
  have ha := aps_of hd.ok hd.asc
  refine ⟨?_, owed_same (by omega) (by omega) h4 ha (fun x hx => by have := hat x hx; omega) (fun x hx => by have := okAp_parts (hd.ok x hx); omega) fun c _ => by rw [hd.sum, List.take_length]⟩
  unfold validA
  rw [ha]
  simp only [Bool.and_true, Bool.and_eq_true, decide_eq_true_eq]
  split at hdl <;> omega
/-- One appearance more, beside a box. -/
theorem GatP.pushB {w : World} {L : List Ap} {o : Value} {wr : World} (h : GatP w L o wr) (hl : L.length ≤ 100000) (x : Ap) {cs : Array Value} (hcs : (encP x).toArray = cs) {gB : Nat} {tB : TypeId} {bs : Array Value} (hB : Row wr gB tB bs) (hn : o.ownBlock ≠ some gB) :
    ∃ A c w', Sem.run Try.prog (appN #[22, 22] 22 #[o, .slice (some ⟨wr.heap.size, 0, none⟩) 1 1]) (wr.alloc (.cells cs 49)) = .ok (.slice A (L.length + 1) c) w' ∧ GatP w (L ++ [x]) (.slice A (L.length + 1) c) w' ∧ Row w' gB tB bs ∧ (Value.slice A (L.length + 1) c).ownBlock ≠ some gB := by
  subst hcs
  obtain ⟨i0, hi0, hz0, hz1, hz2⟩ := info_parts infoApp
  have hnews : ∀ j u, (encP x)[j]? = some u → (wr.alloc (.cells (encP x).toArray 49)).cell? (Addr.add ⟨wr.heap.size, 0, none⟩ j) = some u := fun j u hj => by
    have hc := (Row.new wr 49 (encP x).toArray).cell j
    have ha : Addr.add ⟨wr.heap.size, 0, none⟩ j = ⟨wr.heap.size, j, none⟩ := by rw [Addr.add_lit, Nat.zero_add]
    rw [ha, hc]; simpa using hj
  have hbs := h.b.size
  obtain ⟨v', w', hrun, hown, hgr, -, hloc⟩ := run_append_own_at (P := Try.prog) (w := wr.alloc (.cells (encP x).toArray 49)) w.heap.size 22 22 49 i0 _ 4 32 Try.underlying22 hi0 hz0 hz1 hz2 rfl (by decide)
    o L.length _ (own_below h.own ((Below.refl _ wr).alloc (Nat.le_refl _) _)) ⟨wr.heap.size, 0, none⟩ 1 1 (encP x) rfl hnews (encP_one x) (by unfold maxLen; omega) (by omega) (by simp; omega)
  obtain ⟨A, c, rfl, -⟩ := own_slice hown
  rw [World.size_alloc] at hloc
  refine ⟨A, c, w', hrun, ⟨?_, ?_⟩, ?_, ?_⟩
  · rw [List.length_append, flatE_append, show flatE encP [x] = encP x by simp [flatE]]
    exact hown
  · exact (h.b.alloc hbs _).grown hgr (by simp; omega) (fun r x => by have := own_ge h.own r x; omega)
  · exact (hgr.block gB (by simp; have := hB.lt; omega) (fun e => hn e.symm)).trans (hB.alloc _)
  · rcases hloc with e | e
    · rw [e]; exact hn
    · rw [e]; have := hB.lt; simp; omega
theorem GatP.setB {w : World} {L : List Ap} {o : Value} {wr : World} (h : GatP w L o wr) {gB : Nat} (hn : o.ownBlock ≠ some gB) (hg : w.heap.size ≤ gB) (i : Nat) (y : Value) : GatP w L o (wr.setCell ⟨gB, i, none⟩ y) :=
  ⟨own_keep h.own fun q e => Below.heap_setCell wr ⟨gB, i, none⟩ _ q (fun e2 => hn (by rw [e, e2])), h.b.setCell (p := ⟨gB, i, none⟩) hg _⟩
end Go.Proofs.Ytinhjobjlpkflaa
