/- EqualOrders in plain words; appearances that are stored into a row. -/
import Derived.Test.YtinhjobjlpkflaaFd
namespace Go.Proofs.Ytinhjobjlpkflaa
open Go.RowKit

theorem encP_len (x : Ap) : (encP x).length = 4 := rfl
theorem encP_cell (x : Ap) {i : Nat} (h : i < 4) : (encP x)[i]? = some ((encP x)[i]!) := by
  have : i = 0 ∨ i = 1 ∨ i = 2 ∨ i = 3 := by omega
  rcases this with rfl | rfl | rfl | rfl <;> rfl
theorem flat_setP (x : Ap) : ∀ (D : List Ap) (p : Nat), p < D.length → flatE encP (D.set p x) = ((((flatE encP D).set (p * 4) (.int .i64 x.cand)).set (p * 4 + 1) (.int .i64 x.at_)).set (p * 4 + 2) (.int .i64 x.secs)).set (p * 4 + 3) (.int .i64 x.weight)
  | [], p, h => absurd h (Nat.not_lt_zero _)
  | a :: D, 0, _ => by simp [flatE, encP]
  | a :: D, p + 1, h => by
    have ih := flat_setP x D p (by simpa using h)
    have e : flatE encP (a :: D) = encP a ++ flatE encP D := rfl
    have e2 : flatE encP ((a :: D).set (p + 1) x) = encP a ++ flatE encP (D.set p x) := rfl
    have hs : ∀ (i : Nat) (v : Value) (r : List Value), (encP a ++ r).set ((p + 1) * 4 + i) v = encP a ++ r.set (p * 4 + i) v := fun i v r => by
      rw [List.set_append_right _ _ (by rw [encP_len]; omega), encP_len, show (p + 1) * 4 + i - 4 = p * 4 + i by omega]
    have h0 := hs 0
    simp only [Nat.add_zero] at h0
    rw [e, e2, ih, h0, hs 1, hs 2, hs 3]
theorem own_setP {u : World} {B n g c : Nat} {D : List Ap} (h : u.ownsRow B 49 4 (.slice (some ⟨g, 0, none⟩) n c) n (flatE encP D)) (hD : D.length = n) {p : Nat} (hp : p < n) (x : Ap) :
    ((((u.setCell ⟨g, p * 4, none⟩ (.int .i64 x.cand)).setCell ⟨g, p * 4 + 1, none⟩ (.int .i64 x.at_)).setCell ⟨g, p * 4 + 2, none⟩ (.int .i64 x.secs)).setCell ⟨g, p * 4 + 3, none⟩ (.int .i64 x.weight)).ownsRow B 49 4 (.slice (some ⟨g, 0, none⟩) n c) n (flatE encP (D.set p x)) := by
  have key : ∀ (w : World) (xs : List Value), w.ownsRow B 49 4 (.slice (some ⟨g, 0, none⟩) n c) n xs → ∀ o, o < n * 4 → ∀ y, (w.setCell ⟨g, o, none⟩ y).ownsRow B 49 4 (.slice (some ⟨g, 0, none⟩) n c) n (xs.set o y) := fun w xs hx o ho y => by
    have hl : o < xs.length := by rw [hx.1]; exact ho
    obtain ⟨g', c', hv, _, _, _, _, hset⟩ := own_cell hx (List.getElem?_eq_getElem hl)
    injection hv with e1 e2 e3
    injection e1 with e1
    injection e1 with e1 e4
    subst e1
    exact hset w y rfl
  rw [flat_setP x D p (by omega)]
  exact key _ _ (key _ _ (key _ _ (key _ _ h _ (by omega) _) _ (by omega) _) _ (by omega) _) _ (by omega) _
theorem own_cellsP {u : World} {B n g c : Nat} {D : List Ap} (h : u.ownsRow B 49 4 (.slice (some ⟨g, 0, none⟩) n c) n (flatE encP D)) {p : Nat} {q : Ap} (hq : D[p]? = some q) : B ≤ g ∧ g < u.heap.size ∧ ∀ i, i < 4 → u.cell? ⟨g, p * 4 + i, none⟩ = (encP q)[i]? ∧ u.frozen? ⟨g, p * 4 + i, none⟩ = false := by
  have hx0 := flatE_get encP_len D p 0 q _ hq rfl
  obtain ⟨g', c', hv, h1, h2, -⟩ := own_cell h hx0
  injection hv with e1 e2 e3
  injection e1 with e1
  injection e1 with e1 e4
  subst e1
  refine ⟨h1, h2, fun i hi => ?_⟩
  obtain ⟨y, hy⟩ : ∃ y, (encP q)[i]? = some y := ⟨_, encP_cell q hi⟩
  have hx := flatE_get encP_len D p i q y hq hy
  obtain ⟨g', c', hv, _, _, h3, h4, -⟩ := own_cell h hx
  injection hv with e1 e2 e3
  injection e1 with e1
  injection e1 with e1 e4
  subst e1
  exact ⟨h3.trans hy.symm, h4⟩
/-- Two integers. -/
structure I2 where
  a : Int
  b : Int
def encT (x : I2) : List Value := [.int .i64 x.a, .int .i64 x.b]
structure OkI2 (x : I2) : Prop where
  a : I64 x.a
  b : I64 x.b
/-- The same seconds, and as much for each candidate. -/
structure Mix (n : Nat) (l D : List Ap) : Prop where
  len : D.length = l.length
  at_ : D.map (fun x => x.at_) = l.map fun x => x.at_
  sum : ∀ c, (D.map (fS c)).sum = (l.map (fS c)).sum
  ok : ∀ x ∈ D, okAp (n : Int) x = true
def swapA (D : List Ap) (a b : Nat) (c d : Ap) : List Ap := (D.set a ⟨d.cand, c.at_, d.secs, d.weight⟩).set b ⟨c.cand, d.at_, c.secs, c.weight⟩
theorem Mix.swap {n : Nat} {l D : List Ap} (h : Mix n l D) {a b : Nat} {c d : Ap} (ha : D[a]? = some c) (hb : D[b]? = some d) : Mix n l (swapA D a b c d) := by
  have hal := (List.getElem?_eq_some_iff.1 ha).1
  have hbl := (List.getElem?_eq_some_iff.1 hb).1
  have oc := okAp_parts (h.ok c (List.mem_of_getElem? ha))
  have od := okAp_parts (h.ok d (List.mem_of_getElem? hb))
  have o1 : okAp (n : Int) ⟨d.cand, c.at_, d.secs, d.weight⟩ = true := by
    unfold okAp
    simp only [Bool.and_eq_true, decide_eq_true_eq]
    omega
  have o2 : okAp (n : Int) ⟨c.cand, d.at_, c.secs, c.weight⟩ = true := by
    unfold okAp
    simp only [Bool.and_eq_true, decide_eq_true_eq]
    omega
  unfold swapA
  refine ⟨by rw [List.length_set, List.length_set]; exact h.len, ?_, fun q => ?_, fun x hx => ?_⟩
  · rw [← h.at_, List.map_set, List.map_set]
    apply List.ext_getElem?
    intro i
    rw [List.getElem?_set, List.getElem?_set]
    by_cases e : b = i
    · subst e
      rw [if_pos rfl, if_pos (by rw [List.length_set, List.length_map]; exact hbl), List.getElem?_map, hb]
      rfl
    · rw [if_neg e]
      by_cases e2 : a = i
      · subst e2
        rw [if_pos rfl, if_pos (by rw [List.length_map]; exact hal), List.getElem?_map, ha]
        rfl
      · rw [if_neg e2]
  · rw [← h.sum q, List.map_set, List.map_set]
    have f1 : fS q ⟨d.cand, c.at_, d.secs, d.weight⟩ = fS q d := rfl
    have f2 : fS q ⟨c.cand, d.at_, c.secs, c.weight⟩ = fS q c := rfl
    rw [f1, f2]
    have s1 := sum_setI (D.map (fS q)) a (fS q d) (by rw [List.length_map]; exact hal)
    have s2 := sum_setI ((D.map (fS q)).set a (fS q d)) b (fS q c) (by rw [List.length_set, List.length_map]; exact hbl)
    have g1 : (D.map (fS q)).getD a 0 = fS q c := by rw [List.getD_eq_getElem?_getD, List.getElem?_map, ha]; rfl
    have g2 : ((D.map (fS q)).set a (fS q d)).getD b 0 = fS q d := by
      rw [getD_setL (by rw [List.length_map]; exact hal)]
      split
      · rfl
      · rw [List.getD_eq_getElem?_getD, List.getElem?_map, hb]; rfl
    omega
  · rcases List.mem_or_eq_of_mem_set hx with hx | rfl
    · rcases List.mem_or_eq_of_mem_set hx with hx | rfl
      · exact h.ok x hx
      · exact o1
    · exact o2
theorem Mix.self {n : Nat} {l : List Ap} (h : validA (n : Int) l = true) : Mix n l l := ⟨rfl, rfl, fun _ => rfl, fun x hx => by
  obtain ⟨j, hj⟩ := List.mem_iff_getElem?.1 hx
  exact aps_at (validA_parts h).2.2.2 hj⟩
theorem Mix.valid {n : Nat} {l D : List Ap} (h : Mix n l D) (hv : validA (n : Int) l = true) : validA (n : Int) D = true := by
  obtain ⟨h1, h2, h3, h4⟩ := validA_parts hv
  have hp : D.Pairwise fun x y => x.at_ < y.at_ := by
    have hl : l.Pairwise fun x y => x.at_ < y.at_ := by
      rw [List.pairwise_iff_getElem]
      intro i j hi hj hij
      exact aps_lt h4 hij (List.getElem?_eq_getElem hi) (List.getElem?_eq_getElem hj)
    have hm : (l.map fun x => x.at_).Pairwise (· < ·) := List.pairwise_map.2 hl
    rw [← h.at_] at hm
    exact List.pairwise_map.1 hm
  unfold validA
  rw [aps_of h.ok hp, h.len]
  simp only [Bool.and_true, Bool.and_eq_true, decide_eq_true_eq]
  omega
/-- EqualOrders in plain words. -/
theorem orders {n : Nat} {l D : List Ap} (h : Mix n l D) (hv : validA (n : Int) l = true) : owV n l 10000000 = owV n D 10000000 := by
  obtain ⟨h1, h2, h3, h4⟩ := validA_parts hv
  have hD := (validA_parts (h.valid hv)).2.2.2
  refine (owed_same (by omega) (by omega) h4 hD (fun x hx => ?_) (fun x hx => ?_) fun c _ => (h.sum c).symm).1
  · obtain ⟨j, hj⟩ := List.mem_iff_getElem?.1 hx
    have := okAp_parts (aps_at h4 hj)
    omega
  · have := okAp_parts (h.ok x hx)
    omega
end Go.Proofs.Ytinhjobjlpkflaa
