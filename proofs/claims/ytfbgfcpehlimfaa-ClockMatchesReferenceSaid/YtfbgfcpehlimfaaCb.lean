/- Plain mathematics of layer 5: where most spells agree. No program is named here. -/
import Derived.Below
namespace Go.Proofs.Ytfbgfcpehlimfaa
namespace Cb
abbrev P2 := Int × Int

/-- In how many spells a second is. -/
def cnt : List P2 → Int → Int
  | [], _ => 0
  | x :: l, s => (if x.1 ≤ s ∧ s < x.2 then 1 else 0) + cnt l s
theorem cnt_nonneg (l : List P2) (s : Int) : 0 ≤ cnt l s := by
  induction l with
  | nil => simp [cnt]
  | cons x l ih => simp only [cnt]; split <;> omega
theorem cnt_len (l : List P2) (s : Int) : cnt l s ≤ l.length := by
  induction l with
  | nil => simp [cnt]
  | cons x l ih => simp only [cnt, List.length_cons]; split <;> omega
theorem cnt_snoc (l : List P2) (x : P2) (s : Int) : cnt (l ++ [x]) s = cnt l s + (if x.1 ≤ s ∧ s < x.2 then 1 else 0) := by
  induction l with
  | nil => simp [cnt]
  | cons y l ih => simp only [List.cons_append, cnt, ih]; omega
/-- What Agree returns of the spells l: from, to, how many. -/
def Agr (l : List P2) (f t k : Int) : Prop :=
  k = 0 ∧ f = 0 ∧ t = 0 ∧ (∀ s, cnt l s = 0) ∨ 0 < k ∧ f < t ∧ (∀ s, cnt l s ≤ k) ∧ (∀ s, f ≤ s → s < t → cnt l s = k) ∧ (∀ s, s < f → cnt l s < k) ∧ cnt l t < k
theorem Agr.unique {l : List P2} {f t k f' t' k' : Int} (h : Agr l f t k) (g : Agr l f' t' k') : f = f' ∧ t = t' ∧ k = k' := by
  rcases h with ⟨h1, h2, h3, h4⟩ | ⟨h1, h2, h3, h4, h5, h6⟩
  · rcases g with ⟨g1, g2, g3, g4⟩ | ⟨g1, g2, g3, g4, g5, g6⟩
    · omega
    · have a := g4 f' (Int.le_refl _) g2; rw [h4] at a; omega
  · rcases g with ⟨g1, g2, g3, g4⟩ | ⟨g1, g2, g3, g4, g5, g6⟩
    · have a := h4 f (Int.le_refl _) h2; rw [g4] at a; omega
    · have a := h4 f (Int.le_refl _) h2
      have b := g4 f' (Int.le_refl _) g2
      have a' := g3 f
      have b' := h3 f'
      have hk : k = k' := by omega
      subst hk
      have hf : f = f' := by
        rcases Int.lt_trichotomy f f' with c | c | c
        · have := g5 f c; omega
        · exact c
        · have := h5 f' c; omega
      subst hf
      refine ⟨rfl, ?_, rfl⟩
      rcases Int.lt_trichotomy t t' with c | c | c
      · have := g4 t (by omega) c; omega
      · exact c
      · have := h4 t' (by omega) c; omega

/-- What changes at a second, in all that has changed up to s. -/
def upTo : List P2 → Int → Int
  | [], _ => 0
  | x :: l, s => (if x.1 ≤ s then x.2 else 0) + upTo l s
theorem upTo_append (l r : List P2) (s : Int) : upTo (l ++ r) s = upTo l s + upTo r s := by
  induction l with
  | nil => simp [upTo]
  | cons x l ih => simp only [List.cons_append, upTo, ih]; omega
theorem upTo_perm {l r : List P2} (h : l.Perm r) (s : Int) : upTo l s = upTo r s := by
  induction h with
  | nil => rfl
  | cons x _ ih => simp only [upTo, ih]
  | swap x y l => simp only [upTo]; omega
  | trans _ _ a b => exact a.trans b
def chg : List P2 → List P2
  | [] => []
  | x :: l => (if x.1 < x.2 then [(x.1, 1), (x.2, -1)] else []) ++ chg l
theorem chg_snoc (l : List P2) (x : P2) : chg (l ++ [x]) = chg l ++ (if x.1 < x.2 then [(x.1, 1), (x.2, -1)] else []) := by
  induction l with
  | nil => simp [chg]
  | cons y l ih => simp only [List.cons_append, chg, ih, List.append_assoc]
theorem chg_len (l : List P2) : (chg l).length ≤ 2 * l.length := by
  induction l with
  | nil => simp [chg]
  | cons x l ih => simp only [chg, List.length_append, List.length_cons]; split <;> simp <;> omega
theorem upTo_chg (l : List P2) (s : Int) : upTo (chg l) s = cnt l s := by
  induction l with
  | nil => rfl
  | cons x l ih =>
    simp only [chg, upTo_append, cnt, ih]
    by_cases h : x.1 < x.2
    · rw [if_pos h]; simp only [upTo]
      split <;> split <;> split <;> omega
    · rw [if_neg h, if_neg (by omega)]; simp [upTo]
def tot : List P2 → Int
  | [] => 0
  | x :: l => x.2 + tot l
theorem tot_append (l r : List P2) : tot (l ++ r) = tot l + tot r := by
  induction l with
  | nil => simp [tot]
  | cons x l ih => simp only [List.cons_append, tot, ih]; omega
theorem tot_perm {l r : List P2} (h : l.Perm r) : tot l = tot r := by
  induction h with
  | nil => rfl
  | cons x _ ih => simp only [tot, ih]
  | swap x y l => simp only [tot]; omega
  | trans _ _ a b => exact a.trans b
theorem tot_chg (l : List P2) : tot (chg l) = 0 := by
  induction l with
  | nil => rfl
  | cons x l ih => simp only [chg, tot_append, ih]; split <;> simp [tot]
/-- Each change is by one. -/
theorem chg_one (l : List P2) : ∀ x ∈ chg l, x.2 = 1 ∨ x.2 = -1 := by
  induction l with
  | nil => intro x h; cases h
  | cons y l ih =>
    intro x h
    simp only [chg, List.mem_append] at h
    rcases h with h | h
    · split at h
      · simp only [List.mem_cons, List.not_mem_nil, or_false] at h; rcases h with rfl | rfl <;> simp
      · cases h
    · exact ih x h
theorem tot_bound : ∀ (l : List P2), (∀ x ∈ l, x.2 = 1 ∨ x.2 = -1) → -(l.length : Int) ≤ tot l ∧ tot l ≤ l.length
  | [], _ => by simp [tot]
  | x :: l, h => by
    have a := h x (by simp)
    have b := tot_bound l fun y hy => h y (List.mem_cons_of_mem _ hy)
    simp only [tot, List.length_cons]; omega
/-- The changes in order. -/
def Asc (c : List P2) : Prop := ∀ (i j : Nat) (x y : P2), i < j → c[i]? = some x → c[j]? = some y → x.1 ≤ y.1
theorem upTo_all : ∀ (c : List P2) (s : Int), (∀ x ∈ c, x.1 ≤ s) → upTo c s = tot c
  | [], _, _ => rfl
  | x :: c, s, h => by
    simp only [upTo, tot]
    rw [if_pos (h x (by simp)), upTo_all c s fun y hy => h y (List.mem_cons_of_mem _ hy)]
theorem upTo_none : ∀ (c : List P2) (s : Int), (∀ x ∈ c, s < x.1) → upTo c s = 0
  | [], _, _ => rfl
  | x :: c, s, h => by
    simp only [upTo]
    rw [if_neg (by have := h x (by simp); omega), upTo_none c s fun y hy => h y (List.mem_cons_of_mem _ hy)]; rfl
theorem upTo_cut {c : List P2} {i : Nat} {s : Int} (h1 : ∀ j x, j < i → c[j]? = some x → x.1 ≤ s) (h2 : ∀ j x, i ≤ j → c[j]? = some x → s < x.1) : upTo c s = tot (c.take i) := by
  conv => lhs; rw [← List.take_append_drop i c]
  rw [upTo_append, upTo_all, upTo_none, Int.add_zero]
  · intro x hx
    obtain ⟨k, hk⟩ := List.mem_iff_getElem?.1 hx
    rw [List.getElem?_drop] at hk
    exact h2 _ x (by omega) hk
  · intro x hx
    obtain ⟨k, hk⟩ := List.mem_iff_getElem?.1 hx
    have hki : k < i := by have := (List.getElem?_eq_some_iff.1 hk).1; rw [List.length_take] at this; omega
    rw [List.getElem?_take_of_lt hki] at hk
    exact h1 k x hki hk

/-- How many spells there are at a second, as levels say. -/
def lvAt (o : List P2) (s : Int) : Int := o.foldl (fun a x => if x.1 ≤ s then x.2 else a) 0
theorem lvAt_snoc (o : List P2) (x : P2) (s : Int) : lvAt (o ++ [x]) s = if x.1 ≤ s then x.2 else lvAt o s := by simp [lvAt, List.foldl_append]
/-- The levels of the first i changes. -/
structure Lv (c : List P2) (i : Nat) (o : List P2) : Prop where
  at_ : ∀ s, (∀ y, c[i]? = some y → s < y.1) → upTo c s = lvAt o s
  low : ∀ x ∈ o, ∀ y, c[i]? = some y → x.1 < y.1
  asc : o.Pairwise fun x y => x.1 < y.1
  apart : ∀ (j : Nat) (x y : P2), o[j]? = some x → o[j + 1]? = some y → x.2 ≠ y.2
  len : o.length ≤ i
theorem Lv.start {c : List P2} (h : Asc c) : Lv c 0 [] := by
  refine ⟨fun s hs => ?_, fun x hx => (by cases hx), List.Pairwise.nil, fun j x y hx => (by simp at hx), by simp⟩
  rw [upTo_none]; · rfl
  intro x hx
  obtain ⟨k, hk⟩ := List.mem_iff_getElem?.1 hx
  cases c with
  | nil => cases hx
  | cons z c =>
    have hz := hs z rfl
    rcases Nat.eq_zero_or_pos k with rfl | hp
    · simp at hk; subst hk; exact hz
    · have := h 0 k z x hp rfl hk; omega
theorem Lv.same {c : List P2} {i : Nat} {o : List P2} (h : Lv c i o) {x y : P2} (hx : c[i]? = some x) (hy : c[i + 1]? = some y) (he : y.1 = x.1) : Lv c (i + 1) o := by
  refine ⟨fun s hs => h.at_ s fun z hz => ?_, fun z hz u hu => ?_, h.asc, h.apart, by have := h.len; omega⟩
  · rw [hx] at hz; cases hz; rw [← he]; exact hs y hy
  · rw [hy] at hu; cases hu; rw [he]; exact h.low z hz x hx
theorem take_tot {c : List P2} {i : Nat} {x : P2} (hx : c[i]? = some x) : tot (c.take (i + 1)) = tot (c.take i) + x.2 := by
  have hl := (List.getElem?_eq_some_iff.1 hx)
  obtain ⟨hl, he⟩ := hl
  rw [List.take_succ_eq_append_getElem hl, tot_append, he]; simp [tot]
theorem lvAt_last : ∀ (o : List P2) (x : P2), o.getLast? = some x → ∀ s, x.1 ≤ s → lvAt o s = x.2 := by
  intro o x h s hs
  obtain ⟨o', rfl⟩ := List.getLast?_eq_some_iff.1 h
  rw [lvAt_snoc, if_pos hs]
/-- A change at another second than the next one. -/
theorem Lv.step {c : List P2} (ha : Asc c) {i : Nat} {o : List P2} (h : Lv c i o) {x : P2} (hx : c[i]? = some x) (hne : ∀ y, c[i + 1]? = some y → y.1 ≠ x.1) :
    (∀ z, o.getLast? = some z → z.2 = tot (c.take (i + 1)) → Lv c (i + 1) o) ∧ ((∀ z, o.getLast? = some z → z.2 ≠ tot (c.take (i + 1))) → Lv c (i + 1) (o ++ [(x.1, tot (c.take (i + 1)))])) := by
  have hgap : ∀ y, c[i + 1]? = some y → x.1 < y.1 := fun y hy => by
    have := ha i (i + 1) x y (by omega) hx hy; have := hne y hy; omega
  have hS : ∀ s, x.1 ≤ s → (∀ y, c[i + 1]? = some y → s < y.1) → upTo c s = tot (c.take (i + 1)) := fun s h1 h2 => by
    refine upTo_cut (fun j z hj hz => ?_) (fun j z hj hz => ?_)
    · rcases Nat.lt_or_ge j i with c1 | c1
      · have := ha j i z x c1 hz hx; omega
      · obtain rfl : j = i := by omega
        rw [hx] at hz; cases hz; exact h1
    · rcases Nat.lt_or_ge (i + 1) j with c1 | c1
      · have hl : i + 1 < c.length := by have := (List.getElem?_eq_some_iff.1 hz).1; omega
        have := ha (i + 1) j _ z c1 (List.getElem?_eq_getElem hl) hz
        have := h2 _ (List.getElem?_eq_getElem hl); omega
      · obtain rfl : j = i + 1 := by omega
        exact h2 z hz
  constructor
  · intro z hz hzt
    refine ⟨fun s hs => ?_, fun u hu y hy => ?_, h.asc, h.apart, by have := h.len; omega⟩
    · by_cases hs2 : s < x.1
      · exact h.at_ s fun y hy => by rw [hx] at hy; cases hy; exact hs2
      · have hm : z ∈ o := List.mem_of_getLast? hz
        have := h.low z hm x hx
        rw [hS s (by omega) hs, lvAt_last o z hz s (by omega), hzt]
    · have := h.low u hu x hx; have := hgap y hy; omega
  · intro hn
    refine ⟨fun s hs => ?_, fun u hu y hy => ?_, ?_, ?_, by have := h.len; simp; omega⟩
    · rw [lvAt_snoc]
      by_cases hs2 : s < x.1
      · rw [if_neg (by omega)]
        exact h.at_ s fun y hy => by rw [hx] at hy; cases hy; exact hs2
      · rw [if_pos (by show x.1 ≤ s; omega)]
        exact hS s (by omega) hs
    · rcases List.mem_append.1 hu with hu | hu
      · have := h.low u hu x hx; have := hgap y hy; omega
      · simp only [List.mem_cons, List.not_mem_nil, or_false] at hu; subst hu; exact hgap y hy
    · rw [List.pairwise_append]
      refine ⟨h.asc, List.pairwise_singleton _ _, fun u hu v hv => ?_⟩
      simp only [List.mem_cons, List.not_mem_nil, or_false] at hv; subst hv
      exact h.low u hu x hx
    · intro j u v hu hv
      have hl := (List.getElem?_eq_some_iff.1 hv).1
      rw [List.length_append] at hl
      simp only [List.length_cons, List.length_nil] at hl
      rw [List.getElem?_append_left (by omega)] at hu
      rcases Nat.lt_or_ge (j + 1) o.length with c1 | c1
      · rw [List.getElem?_append_left c1] at hv; exact h.apart j u v hu hv
      · have hj : j + 1 = o.length := by omega
        rw [List.getElem?_append_right (by omega), hj, Nat.sub_self] at hv
        simp at hv
        have hz : o.getLast? = some u := by rw [List.getLast?_eq_getElem?, ← hj]; exact hu
        have := hn u hz
        rw [← hv]; exact this
/-- Of all levels the best is among the first i. -/
structure Best (o : List P2) (i : Nat) (f t k : Int) : Prop where
  pos : 0 ≤ k
  all : ∀ j x, j < i → o[j]? = some x → x.2 ≤ k
  zero : k = 0 → f = 0 ∧ t = 0
  one : 0 < k → ∃ (j : Nat) (y : P2), j < i ∧ o[j]? = some (f, k) ∧ o[j + 1]? = some y ∧ y.1 = t ∧ ∀ (m : Nat) (z : P2), m < j → o[m]? = some z → z.2 < k
theorem Best.start (o : List P2) : Best o 0 0 0 0 := ⟨Int.le_refl _, fun j x h => by omega, fun _ => ⟨rfl, rfl⟩, fun h => by omega⟩
theorem Best.keep {o : List P2} {i : Nat} {f t k : Int} (h : Best o i f t k) {x : P2} (hx : o[i]? = some x) (hk : ¬ x.2 > k) : Best o (i + 1) f t k := by
  refine ⟨h.pos, fun j y hj hy => ?_, h.zero, fun hp => ?_⟩
  · rcases Nat.lt_or_ge j i with c | c
    · exact h.all j y c hy
    · obtain rfl : j = i := by omega
      rw [hx] at hy; cases hy; omega
  · obtain ⟨j, y, a, b⟩ := h.one hp
    exact ⟨j, y, by omega, b⟩
theorem Best.new {o : List P2} {i : Nat} {f t k : Int} (h : Best o i f t k) {x y : P2} (hx : o[i]? = some x) (hy : o[i + 1]? = some y) (hk : x.2 > k) : Best o (i + 1) x.1 y.1 x.2 := by
  have hp := h.pos
  refine ⟨by omega, fun j z hj hz => ?_, fun e => by omega, fun _ => ⟨i, y, by omega, hx, hy, rfl, fun m z hm hz => ?_⟩⟩
  · rcases Nat.lt_or_ge j i with c | c
    · have := h.all j z c hz; omega
    · obtain rfl : j = i := by omega
      rw [hx] at hz; cases hz; exact Int.le_refl _
  · have := h.all m z hm hz; omega
/-- The last level has no spells, so that there is a next one. -/
theorem Lv.next {c : List P2} {o : List P2} (h : Lv c c.length o) (ht : tot c = 0) {i : Nat} {x : P2} (hx : o[i]? = some x) (hp : 0 < x.2) : i + 1 < o.length := by
  have hl := (List.getElem?_eq_some_iff.1 hx).1
  rcases Nat.lt_or_ge (i + 1) o.length with c1 | c1
  · exact c1
  · exfalso
    have hi : i = o.length - 1 := by omega
    have hz : o.getLast? = some x := by rw [List.getLast?_eq_getElem?, ← hi]; exact hx
    have hbig : ∃ s : Int, x.1 ≤ s ∧ ∀ y ∈ c, y.1 ≤ s := by
      clear hz hi hx hl h ht c1
      induction c with
      | nil => exact ⟨x.1, Int.le_refl _, fun y hy => by cases hy⟩
      | cons z c ih =>
        obtain ⟨s, h1, h2⟩ := ih
        refine ⟨max s z.1, by omega, fun y hy => ?_⟩
        rcases List.mem_cons.1 hy with rfl | hy
        · omega
        · have := h2 y hy; omega
    obtain ⟨s, h1, h2⟩ := hbig
    have a := h.at_ s fun y hy => by simp at hy
    rw [upTo_all c s h2, ht, lvAt_last o x hz s h1] at a
    omega
theorem lvAt_ind (Q : Int → Prop) (s : Int) : ∀ (o : List P2) (a : Int), Q a → (∀ x ∈ o, x.1 ≤ s → Q x.2) → Q (o.foldl (fun a x => if x.1 ≤ s then x.2 else a) a)
  | [], a, h, _ => h
  | x :: o, a, h, g => by
    rw [List.foldl_cons]
    refine lvAt_ind Q s o _ ?_ fun y hy => g y (List.mem_cons_of_mem _ hy)
    split
    · exact g x (by simp) (by assumption)
    · exact h
theorem lvAt_idx {o : List P2} (ha : o.Pairwise fun x y => x.1 < y.1) {j : Nat} {x : P2} (hx : o[j]? = some x) {s : Int} (h1 : x.1 ≤ s) (h2 : ∀ y, o[j + 1]? = some y → s < y.1) : lvAt o s = x.2 := by
  have hl := (List.getElem?_eq_some_iff.1 hx)
  obtain ⟨hl, he⟩ := hl
  have e : o = o.take (j + 1) ++ o.drop (j + 1) := (List.take_append_drop _ _).symm
  unfold lvAt
  rw [e, List.foldl_append]
  have e1 : (o.take (j + 1)).foldl (fun a x => if x.1 ≤ s then x.2 else a) 0 = x.2 := by
    rw [List.take_succ_eq_append_getElem hl, he, List.foldl_append]; simp [h1]
  rw [e1]
  refine lvAt_ind (fun v => v = x.2) s _ _ rfl fun y hy hys => ?_
  exfalso
  obtain ⟨m, hm⟩ := List.mem_iff_getElem?.1 hy
  rw [List.getElem?_drop] at hm
  have hj1 : j + 1 < o.length := by have := (List.getElem?_eq_some_iff.1 hm).1; omega
  have a := h2 _ (List.getElem?_eq_getElem hj1)
  rcases Nat.eq_zero_or_pos m with rfl | hp
  · rw [Nat.add_zero, List.getElem?_eq_getElem hj1] at hm; cases hm; omega
  · have hml := (List.getElem?_eq_some_iff.1 hm)
    obtain ⟨hml, hme⟩ := hml
    have := List.pairwise_iff_getElem.1 ha (j + 1) (j + 1 + m) hj1 hml (by omega)
    rw [hme] at this
    omega
theorem agr_of {l c o : List P2} (hp : (chg l).Perm c) (h : Lv c c.length o) {f t k : Int} (hb : Best o o.length f t k) : Agr l f t k := by
  have hS : ∀ s, cnt l s = lvAt o s := fun s => by
    rw [← upTo_chg, upTo_perm hp, h.at_ s fun y hy => by simp at hy]
  have hle : ∀ s, lvAt o s ≤ k := fun s => lvAt_ind (fun v => v ≤ k) s o 0 hb.pos fun x hx _ => by
    obtain ⟨j, hj⟩ := List.mem_iff_getElem?.1 hx
    exact hb.all j x (List.getElem?_eq_some_iff.1 hj).1 hj
  rcases Int.lt_or_eq_of_le hb.pos with hk | hk
  · obtain ⟨j, y, hj, hx, hy, rfl, hlt⟩ := hb.one hk
    have hjl := (List.getElem?_eq_some_iff.1 hx)
    obtain ⟨hjl, hje⟩ := hjl
    have hyl := (List.getElem?_eq_some_iff.1 hy)
    obtain ⟨hyl, hye⟩ := hyl
    have hfy : f < y.1 := by have := List.pairwise_iff_getElem.1 h.asc j (j + 1) hjl hyl (by omega); rw [hje, hye] at this; exact this
    refine .inr ⟨hk, hfy, fun s => by rw [hS]; exact hle s, fun s h1 h2 => ?_, fun s h1 => ?_, ?_⟩
    · rw [hS]; exact lvAt_idx h.asc hx h1 fun z hz => by rw [hy] at hz; cases hz; exact h2
    · rw [hS]
      refine lvAt_ind (fun v => v < k) s o 0 hk fun z hz hzs => ?_
      obtain ⟨m, hm⟩ := List.mem_iff_getElem?.1 hz
      rcases Nat.lt_or_ge m j with c1 | c1
      · exact hlt m z c1 hm
      · exfalso
        have hml := (List.getElem?_eq_some_iff.1 hm)
        obtain ⟨hml, hme⟩ := hml
        rcases Nat.lt_or_ge j m with c2 | c2
        · have := List.pairwise_iff_getElem.1 h.asc j m hjl hml c2; rw [hje, hme] at this; simp only at this; omega
        · obtain rfl : j = m := by omega
          rw [hx] at hm; cases hm; simp only at hzs; omega
    · rw [hS]
      have e1 : lvAt o y.1 = y.2 := lvAt_idx h.asc hy (Int.le_refl _) fun z hz => by
        have hzl := (List.getElem?_eq_some_iff.1 hz)
        obtain ⟨hzl, hze⟩ := hzl
        have := List.pairwise_iff_getElem.1 h.asc (j + 1) (j + 1 + 1) hyl hzl (by omega)
        rw [hye, hze] at this; exact this
      have e2 := hle y.1
      have e3 := h.apart j _ y hx hy
      simp only at e3
      rw [e1] at e2 ⊢
      omega
  · obtain ⟨rfl, rfl⟩ := hb.zero hk.symm
    subst hk
    refine .inl ⟨rfl, rfl, rfl, fun s => ?_⟩
    have a := hle s
    have b := cnt_nonneg l s
    rw [hS] at b ⊢
    omega
end Cb
end Go.Proofs.Ytfbgfcpehlimfaa
