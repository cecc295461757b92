/- Plain mathematics of the reference's Agree. -/
import Derived.Test.YtfbgfcpehlimfaaCb
namespace Go.Proofs.Ytfbgfcpehlimfaa
namespace Cb
theorem cnt_peak : ∀ (l m : List P2) (s : Int), (∀ x ∈ l, x ∈ m) → 0 < cnt l s → ∃ x ∈ l, x.1 ≤ s ∧ s < x.2 ∧ ∀ y ∈ l, y.1 ≤ s → s < y.2 → y.1 ≤ x.1
  | [], _, s, _, h => by simp [cnt] at h
  | z :: l, m, s, hm, h => by
    simp only [cnt] at h
    by_cases hl : 0 < cnt l s
    · obtain ⟨x, hx, a, b, c⟩ := cnt_peak l m s (fun x hx => hm x (List.mem_cons_of_mem _ hx)) hl
      by_cases hz : z.1 ≤ s ∧ s < z.2 ∧ x.1 < z.1
      · refine ⟨z, by simp, hz.1, hz.2.1, fun y hy h1 h2 => ?_⟩
        rcases List.mem_cons.1 hy with rfl | hy
        · exact Int.le_refl _
        · have := c y hy h1 h2; omega
      · refine ⟨x, List.mem_cons_of_mem _ hx, a, b, fun y hy h1 h2 => ?_⟩
        rcases List.mem_cons.1 hy with rfl | hy
        · omega
        · exact c y hy h1 h2
    · have h0 := cnt_nonneg l s
      have hz : z.1 ≤ s ∧ s < z.2 := by
        by_cases g : z.1 ≤ s ∧ s < z.2
        · exact g
        · rw [if_neg g] at h; omega
      refine ⟨z, by simp, hz.1, hz.2, fun y hy h1 h2 => ?_⟩
      rcases List.mem_cons.1 hy with rfl | hy
      · exact Int.le_refl _
      · exfalso
        apply hl
        clear hm h hl h0
        induction l with
        | nil => cases hy
        | cons u l ih =>
          simp only [cnt]
          rcases List.mem_cons.1 hy with rfl | hy
          · have := cnt_nonneg l s; rw [if_pos ⟨h1, h2⟩]; omega
          · have := ih (by
              rcases List.mem_cons.1 ‹y ∈ z :: u :: l› with e | e
              · exact List.mem_cons.2 (.inl e)
              · exact List.mem_cons_of_mem _ hy) hy
            split <;> omega
theorem cnt_mono : ∀ (l : List P2) (s t : Int), (∀ y ∈ l, y.1 ≤ s → s < y.2 → y.1 ≤ t ∧ t < y.2) → cnt l s ≤ cnt l t
  | [], _, _, _ => Int.le_refl _
  | z :: l, s, t, h => by
    simp only [cnt]
    have ih := cnt_mono l s t fun y hy => h y (List.mem_cons_of_mem _ hy)
    have hz := h z (by simp)
    by_cases g : z.1 ≤ s ∧ s < z.2
    · rw [if_pos g, if_pos (hz g.1 g.2)]; omega
    · rw [if_neg g]; split <;> omega
theorem peak (l : List P2) (s : Int) (h : 0 < cnt l s) : ∃ x ∈ l, x.1 ≤ s ∧ s < x.2 ∧ cnt l s ≤ cnt l x.1 := by
  obtain ⟨x, hx, a, b, c⟩ := cnt_peak l l s (fun x hx => hx) h
  exact ⟨x, hx, a, b, cnt_mono l s x.1 fun y hy h1 h2 => ⟨c y hy h1 h2, by omega⟩⟩

/-- The first loop: the greatest number, and where it is met first, among k spells. -/
structure Top (l : List P2) (k : Nat) (m f : Int) : Prop where
  pos : 0 ≤ m
  all : ∀ j x, j < k → l[j]? = some x → cnt l x.1 ≤ m
  one : 0 < m → (∃ x ∈ l, x.1 = f ∧ cnt l f = m) ∧ ∀ j x, j < k → l[j]? = some x → cnt l x.1 = m → f ≤ x.1
theorem Top.start (l : List P2) : Top l 0 0 0 := ⟨Int.le_refl _, fun j x h => by omega, fun h => by omega⟩
theorem Top.new {l : List P2} {k : Nat} {m f : Int} (h : Top l k m f) {x : P2} (hx : l[k]? = some x) (hn : m < cnt l x.1 ∨ cnt l x.1 = m ∧ x.1 < f) : Top l (k + 1) (cnt l x.1) x.1 := by
  have hp := h.pos
  refine ⟨by omega, fun j y hj hy => ?_, fun h0 => ⟨⟨x, List.mem_of_getElem? hx, rfl, rfl⟩, fun j y hj hy he => ?_⟩⟩
  · rcases Nat.lt_or_ge j k with c | c
    · have := h.all j y c hy; omega
    · obtain rfl : j = k := by omega
      rw [hx] at hy; cases hy; exact Int.le_refl _
  · rcases Nat.lt_or_ge j k with c | c
    · have := h.all j y c hy
      rcases hn with hn | ⟨hn, hf⟩
      · omega
      · have := (h.one (by omega)).2 j y c hy (by omega); omega
    · obtain rfl : j = k := by omega
      rw [hx] at hy; cases hy; exact Int.le_refl _
theorem Top.keep {l : List P2} {k : Nat} {m f : Int} (h : Top l k m f) {x : P2} (hx : l[k]? = some x) (hn : ¬ (m < cnt l x.1 ∨ cnt l x.1 = m ∧ x.1 < f)) : Top l (k + 1) m f := by
  refine ⟨h.pos, fun j y hj hy => ?_, fun h0 => ⟨(h.one h0).1, fun j y hj hy he => ?_⟩⟩
  · rcases Nat.lt_or_ge j k with c | c
    · exact h.all j y c hy
    · obtain rfl : j = k := by omega
      rw [hx] at hy; cases hy; omega
  · rcases Nat.lt_or_ge j k with c | c
    · exact (h.one h0).2 j y c hy he
    · obtain rfl : j = k := by omega
      rw [hx] at hy; cases hy; omega
theorem Top.most {l : List P2} {m f : Int} (h : Top l l.length m f) (s : Int) : cnt l s ≤ m := by
  have hp := h.pos
  by_cases h0 : 0 < cnt l s
  · obtain ⟨x, hx, a, b, c⟩ := peak l s h0
    obtain ⟨j, hj⟩ := List.mem_iff_getElem?.1 hx
    have := h.all j x (List.getElem?_eq_some_iff.1 hj).1 hj
    omega
  · omega
theorem Top.before {l : List P2} {m f : Int} (h : Top l l.length m f) (hm : 0 < m) (s : Int) (hs : s < f) : cnt l s < m := by
  have h1 := h.most s
  by_cases e : cnt l s = m
  · exfalso
    obtain ⟨x, hx, a, b, c⟩ := peak l s (by omega)
    obtain ⟨j, hj⟩ := List.mem_iff_getElem?.1 hx
    have h2 := h.most x.1
    have := (h.one hm).2 j x (List.getElem?_eq_some_iff.1 hj).1 hj (by omega)
    omega
  · omega
/-- The least end behind a second, among some. -/
def nx (to next e : Int) : Int := if e > to ∧ (next = to ∨ e < next) then e else next
structure Nxt (l : List P2) (to : Int) (j : Nat) (n : Int) : Prop where
  ge : to ≤ n
  mem : to < n → ∃ x ∈ l, x.1 = n ∨ x.2 = n
  none_ : n = to → ∀ i x, i < j → l[i]? = some x → x.1 ≤ to ∧ x.2 ≤ to
  least : to < n → ∀ i x, i < j → l[i]? = some x → (x.1 ≤ to ∨ n ≤ x.1) ∧ (x.2 ≤ to ∨ n ≤ x.2)
theorem Nxt.start (l : List P2) (to : Int) : Nxt l to 0 to := ⟨Int.le_refl _, fun h => by omega, fun _ i x h => by omega, fun h => by omega⟩
theorem nx_cases (to next e : Int) : nx to next e = e ∧ to < e ∧ (next = to ∨ e < next) ∨ nx to next e = next ∧ ¬ (e > to ∧ (next = to ∨ e < next)) := by
  unfold nx; split
  · rename_i h; exact .inl ⟨rfl, h.1, h.2⟩
  · rename_i h; exact .inr ⟨rfl, h⟩
theorem Nxt.step {l : List P2} {to : Int} {j : Nat} {n : Int} (h : Nxt l to j n) {x : P2} (hx : l[j]? = some x) : Nxt l to (j + 1) (nx to (nx to n x.1) x.2) := by
  have hm := List.mem_of_getElem? hx
  have h0 := h.ge
  have key : ∀ (i : Nat) (y : P2), i < j + 1 → l[i]? = some y → i < j ∧ l[i]? = some y ∨ y = x := fun i y hi hy => by
    rcases Nat.lt_or_ge i j with c | c
    · exact .inl ⟨c, hy⟩
    · obtain rfl : i = j := by omega
      rw [hx] at hy; cases hy; exact .inr rfl
  rcases nx_cases to n x.1 with ⟨a, b, c⟩ | ⟨a, b⟩ <;> rw [a] <;> rcases nx_cases to _ x.2 with ⟨a', b', c'⟩ | ⟨a', b'⟩ <;> rw [a']
  · refine ⟨by omega, fun _ => ⟨x, hm, .inr rfl⟩, fun e => by omega, fun _ i y hi hy => ?_⟩
    rcases key i y hi hy with ⟨g, hy⟩ | rfl
    · rcases Int.lt_or_eq_of_le h0 with e | e
      · have := h.least e i y g hy; omega
      · have := h.none_ e.symm i y g hy; omega
    · omega
  · refine ⟨by omega, fun _ => ⟨x, hm, .inl rfl⟩, fun e => by omega, fun _ i y hi hy => ?_⟩
    rcases key i y hi hy with ⟨g, hy⟩ | rfl
    · rcases Int.lt_or_eq_of_le h0 with e | e
      · have := h.least e i y g hy; omega
      · have := h.none_ e.symm i y g hy; omega
    · omega
  · refine ⟨by omega, fun _ => ⟨x, hm, .inr rfl⟩, fun e => by omega, fun _ i y hi hy => ?_⟩
    rcases key i y hi hy with ⟨g, hy⟩ | rfl
    · rcases Int.lt_or_eq_of_le h0 with e | e
      · have := h.least e i y g hy; omega
      · have := h.none_ e.symm i y g hy; omega
    · omega
  · refine ⟨h0, h.mem, fun e i y hi hy => ?_, fun e i y hi hy => ?_⟩
    · rcases key i y hi hy with ⟨g, hy⟩ | rfl
      · exact h.none_ e i y g hy
      · omega
    · rcases key i y hi hy with ⟨g, hy⟩ | rfl
      · exact h.least e i y g hy
      · omega
theorem Nxt.same {l : List P2} {to n : Int} (h : Nxt l to l.length n) (hn : to < n) (s : Int) (h1 : to ≤ s) (h2 : s < n) : cnt l s = cnt l to := by
  have key : ∀ y ∈ l, (y.1 ≤ to ∨ n ≤ y.1) ∧ (y.2 ≤ to ∨ n ≤ y.2) := fun y hy => by
    obtain ⟨i, hi⟩ := List.mem_iff_getElem?.1 hy
    exact h.least hn i y (List.getElem?_eq_some_iff.1 hi).1 hi
  refine Int.le_antisymm (cnt_mono l s to fun y hy a b => ?_) (cnt_mono l to s fun y hy a b => ?_)
  · have := key y hy; omega
  · have := key y hy; omega
theorem Nxt.gt {l : List P2} {to n : Int} (h : Nxt l to l.length n) (hc : 0 < cnt l to) : to < n := by
  rcases Int.lt_or_eq_of_le h.ge with e | e
  · exact e
  · exfalso
    obtain ⟨x, hx, a, b, c⟩ := peak l to hc
    obtain ⟨i, hi⟩ := List.mem_iff_getElem?.1 hx
    have := h.none_ e.symm i x (List.getElem?_eq_some_iff.1 hi).1 hi
    omega
/-- A number that no end is above. -/
def ceil (l : List P2) : Int := l.foldr (fun x a => max (max x.1 x.2) a) 0
theorem le_ceil : ∀ (l : List P2) (x : P2), x ∈ l → x.1 ≤ ceil l ∧ x.2 ≤ ceil l
  | [], _, h => by cases h
  | y :: l, x, h => by
    simp only [ceil, List.foldr_cons]
    rcases List.mem_cons.1 h with rfl | h
    · omega
    · have := le_ceil l x h; simp only [ceil] at this; omega
/-- The second loop: up to here as many spells as at the first second. -/
structure Run (l : List P2) (f m to : Int) : Prop where
  ge : f ≤ to
  same : ∀ s, f ≤ s → s < to → cnt l s = m
  top : to ≤ ceil l
theorem Run.step {l : List P2} {f m to n : Int} (h : Run l f m to) (hm : 0 < m) (hc : cnt l to = m) (hn : Nxt l to l.length n) : Run l f m n ∧ to < n := by
  have hlt := hn.gt (by omega)
  refine ⟨⟨by have := h.ge; omega, fun s h1 h2 => ?_, ?_⟩, hlt⟩
  · rcases Int.lt_or_le s to with c | c
    · exact h.same s h1 c
    · rw [hn.same hlt s c h2]; exact hc
  · obtain ⟨x, hx, e⟩ := hn.mem hlt
    have := le_ceil l x hx; omega
theorem agr_zero {l : List P2} {m f : Int} (h : Top l l.length m f) (hm : m = 0) : Agr l 0 0 0 := .inl ⟨rfl, rfl, rfl, fun s => by have := h.most s; have := cnt_nonneg l s; omega⟩
theorem agr_run {l : List P2} {m f to : Int} (h : Top l l.length m f) (hm : 0 < m) (hr : Run l f m to) (hc : cnt l to ≠ m) : Agr l f to m := by
  obtain ⟨x, hx, h1, h2⟩ := (h.one hm).1
  have h3 := h.most to
  refine .inr ⟨hm, ?_, h.most, hr.same, fun s hs => h.before hm s hs, by omega⟩
  have := hr.ge
  rcases Int.lt_or_eq_of_le this with e | e
  · exact e
  · rw [← e] at hc; exact absurd h2 hc
theorem run_start {l : List P2} {m f : Int} (h : Top l l.length m f) (hm : 0 < m) : Run l f m f := by
  obtain ⟨x, hx, h1, h2⟩ := (h.one hm).1
  exact ⟨Int.le_refl _, fun s a b => by omega, by have := le_ceil l x hx; omega⟩
end Cb
end Go.Proofs.Ytfbgfcpehlimfaa
