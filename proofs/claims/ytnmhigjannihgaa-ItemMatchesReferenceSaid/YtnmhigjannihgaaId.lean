/- Plain mathematics of lengths: sorted lists, their symmetry; trims that are added. -/
import Derived.Test.YtnmhigjannihgaaIc
namespace Go.Proofs.Ytnmhigjannihgaa

abbrev Asc (l : List Int) : Prop := l.Pairwise (· < ·)
theorem asc_ext : ∀ {a b : List Int}, Asc a → Asc b → (∀ x, x ∈ a ↔ x ∈ b) → a = b
  | [], [], _, _, _ => rfl
  | [], y :: b, _, _, h => absurd ((h y).2 (by simp)) (by simp)
  | x :: a, [], _, _, h => absurd ((h x).1 (by simp)) (by simp)
  | x :: a, y :: b, ha, hb, h => by
    obtain ⟨a1, a2⟩ := List.pairwise_cons.1 ha
    obtain ⟨b1, b2⟩ := List.pairwise_cons.1 hb
    have e : x = y := by
      have h1 : x ∈ y :: b := (h x).1 (by simp)
      have h2 : y ∈ x :: a := (h y).2 (by simp)
      rcases List.mem_cons.1 h1 with h1 | h1
      · exact h1
      · rcases List.mem_cons.1 h2 with h2 | h2
        · exact h2.symm
        · have := b1 x h1; have := a1 y h2; omega
    subst e
    congr 1
    refine asc_ext a2 b2 (fun z => ?_)
    have hz := h z
    simp only [List.mem_cons] at hz
    constructor
    · intro hm
      rcases hz.1 (.inr hm) with h3 | h3
      · have := a1 z hm; omega
      · exact h3
    · intro hm
      rcases hz.2 (.inr hm) with h3 | h3
      · have := b1 z hm; omega
      · exact h3
/-- A sorted list that has with each number the one that is as far from the other end. -/
theorem asc_mirror {l : List Int} {T : Int} (h : Asc l) (hs : ∀ x ∈ l, T - x ∈ l) : (l.map (T - ·)).reverse = l := by
  refine asc_ext ?_ h (fun x => ?_)
  · rw [Asc, List.pairwise_reverse, List.pairwise_map]
    exact h.imp (fun {a b} (hab : a < b) => by omega)
  · rw [List.mem_reverse, List.mem_map]
    constructor
    · rintro ⟨y, hy, rfl⟩; exact hs y hy
    · intro hx; exact ⟨T - x, hs x hx, by omega⟩
theorem mirror_at {l : List Int} {T : Int} (h : Asc l) (hs : ∀ x ∈ l, T - x ∈ l) {k : Nat} (hk : k < l.length) : l[k] + l[l.length - 1 - k] = T := by
  have e := asc_mirror h hs
  have h1 : (l.map (T - ·)).reverse[k]? = l[k]? := by rw [e]
  rw [List.getElem?_reverse (by simpa using hk), List.getElem?_map, List.length_map, List.getElem?_eq_getElem (show l.length - 1 - k < l.length by omega), List.getElem?_eq_getElem hk] at h1
  simp at h1
  omega
theorem asc_at {l : List Int} (h : Asc l) {i j : Nat} (hij : i < j) (hj : j < l.length) : l[i] < l[j] := List.pairwise_iff_getElem.1 h i j (by omega) hj hij
theorem asc_first {l : List Int} (h : Asc l) {x : Int} (hx : x ∈ l) (hm : ∀ y ∈ l, x ≤ y) : l[0]? = some x := by
  cases l with
  | nil => cases hx
  | cons y l =>
    obtain ⟨a, -⟩ := List.pairwise_cons.1 h
    have h1 := hm y (by simp)
    rcases List.mem_cons.1 hx with h2 | h2
    · rw [h2]; rfl
    · have := a x h2; omega
/-- How often numbers below a place are one of two. -/
def cnt2 (a b : Int) (l : List Int) : Nat := (l.filter fun x => decide (x = a) || decide (x = b)).length
theorem cnt2_none {a b : Int} : ∀ {l : List Int}, (∀ x ∈ l, x ≠ a ∧ x ≠ b) → cnt2 a b l = 0
  | [], _ => rfl
  | x :: l, h => by
    have h1 := h x (by simp)
    unfold cnt2
    rw [List.filter_cons, decide_eq_false h1.1, decide_eq_false h1.2]
    exact cnt2_none (fun y hy => h y (by simp [hy]))
theorem cnt2_one {a : Int} : ∀ {l : List Int}, Asc l → a ∈ l → cnt2 a a l = 1
  | x :: l, h, hm => by
    obtain ⟨h1, h2⟩ := List.pairwise_cons.1 h
    unfold cnt2
    by_cases e : x = a
    · subst e
      rw [List.filter_cons, decide_eq_true rfl]
      show cnt2 x x l + 1 = 1
      rw [cnt2_none (fun y hy => by have := h1 y hy; omega)]
    · rw [List.filter_cons, decide_eq_false e]
      exact cnt2_one h2 ((List.mem_cons.1 hm).resolve_left (fun h => e h.symm))
theorem cnt2_swap (a b : Int) (l : List Int) : cnt2 a b l = cnt2 b a l := by
  unfold cnt2
  congr 2
  funext x
  rw [Bool.or_comm]
theorem cnt2_tail {a b : Int} (hab : a ≠ b) : ∀ {l : List Int}, Asc l → a ∈ l → b ∉ l → cnt2 a b l = 1
  | x :: l, h, hm, hn => by
    obtain ⟨h1, h2⟩ := List.pairwise_cons.1 h
    have hxb : x ≠ b := fun e => hn (by simp [e])
    have hnl : b ∉ l := fun e => hn (by simp [e])
    unfold cnt2
    by_cases e : x = a
    · subst e
      rw [List.filter_cons, decide_eq_true rfl]
      show cnt2 x b l + 1 = 1
      rw [cnt2_none (a := x) (b := b) (fun y hy => ⟨by have := h1 y hy; omega, fun e => hnl (by rw [← e]; exact hy)⟩)]
    · rw [List.filter_cons, decide_eq_false e, decide_eq_false hxb]
      exact cnt2_tail hab h2 ((List.mem_cons.1 hm).resolve_left (fun h => e h.symm)) hnl
theorem cnt2_two {a b : Int} (hab : a < b) : ∀ {l : List Int}, Asc l → a ∈ l → b ∈ l → cnt2 a b l = 2
  | x :: l, h, hm, hn => by
    obtain ⟨h1, h2⟩ := List.pairwise_cons.1 h
    by_cases e : x = a
    · subst e
      have hbl : b ∈ l := (List.mem_cons.1 hn).resolve_left (fun h => by omega)
      unfold cnt2
      rw [List.filter_cons, decide_eq_true rfl]
      show cnt2 x b l + 1 = 2
      rw [cnt2_swap, cnt2_tail (by omega) h2 hbl (fun hx => by have := h1 x hx; omega)]
    · have hal : a ∈ l := (List.mem_cons.1 hm).resolve_left (fun h => e h.symm)
      have hxb : x ≠ b := fun e2 => by have := h1 a hal; omega
      unfold cnt2
      rw [List.filter_cons, decide_eq_false e, decide_eq_false hxb]
      exact cnt2_two hab h2 hal ((List.mem_cons.1 hn).resolve_left (fun h => hxb h.symm))
/-- What a part takes away of some talks. -/
def ovd (g : Int × Int) : List (Int × Int) → Int
  | [] => 0
  | q :: l => (ov q.2 g - ov q.1 g) + ovd g l
theorem ovd_bounds {len : Int} (g : Int × Int) : ∀ {l : List (Int × Int)} {e : Int}, partsF len e l → 0 ≤ ovd g l ∧ (l = [] ∧ ovd g l = 0 ∨ ovd g l ≤ ov len g - ov e g)
  | [], _, _ => ⟨Int.le_refl _, .inl ⟨rfl, rfl⟩⟩
  | q :: l, e, h => by
    obtain ⟨h1, h2, h3, h4⟩ := h
    have m1 := ov_mono h1 g
    have m2 := ov_mono (Int.le_of_lt h2) g
    have m3 := ov_mono h3 g
    obtain ⟨a, b⟩ := ovd_bounds g h4
    refine ⟨by simp only [ovd]; omega, .inr ?_⟩
    simp only [ovd]
    rcases b with ⟨-, b⟩ | b <;> omega
theorem ovd_le {len : Int} {g : Int × Int} (hg : g.1 < g.2) {l : List (Int × Int)} (h : partsF len 0 l) : 0 ≤ ovd g l ∧ ovd g l ≤ g.2 - g.1 := by
  obtain ⟨a, b⟩ := ovd_bounds g h
  refine ⟨a, ?_⟩
  have h1 : ov len g ≤ g.2 - g.1 := by unfold ov; omega
  have h2 : 0 ≤ ov 0 g := by unfold ov; omega
  rcases b with ⟨-, b⟩ | b <;> omega
theorem ovs_append (s : Int) : ∀ (a b : List (Int × Int)), ovs s (a ++ b) = ovs s a + ovs s b
  | [], b => by simp [ovs]
  | q :: a, b => by
    show ov s q + ovs s (a ++ b) = _
    rw [ovs_append s a b]; simp only [ovs]; omega
theorem tks_more (A B : List (Int × Int)) (g : Int × Int) : ∀ (l : List (Int × Int)), tks (A ++ B) l = tks (A ++ g :: B) l + ovd g l
  | [] => by simp [tks, ovd]
  | q :: l => by
    simp only [tks, ovd]
    rw [tks_more A B g l, bef_eq, bef_eq, bef_eq, bef_eq, ovs_append, ovs_append, ovs_append, ovs_append]
    simp only [ovs]; omega
end Go.Proofs.Ytnmhigjannihgaa
