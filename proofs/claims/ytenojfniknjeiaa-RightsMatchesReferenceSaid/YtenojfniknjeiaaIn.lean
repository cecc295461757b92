/- RightsMore's and RightsFirst's mathematics, as their walks want it. -/
import Derived.Test.YtenojfniknjeiaaIm
namespace Go.Proofs.Ytenojfniknjeiaa
open Go.RowKit Go.Shelf

theorem validG_app {L : List Gr} {q : Gr} (h : validG L = true) (hl : L.length ≤ 8) (hq : okG q = true) : validG (L ++ [q]) = true := by
  unfold validG at h ⊢
  rw [Bool.and_eq_true, decide_eq_true_eq, List.all_eq_true] at h ⊢
  refine ⟨by rw [List.length_append]; simp; omega, fun g hg => ?_⟩
  rcases List.mem_append.1 hg with hg | hg
  · exact h.2 g hg
  · rw [List.mem_singleton.1 hg]; exact hq
theorem okG_withP {x : Gr} {p : Int} (h : okG x = true) (h0 : 0 ≤ p) (h1 : p ≤ 100) : okG (withP x p) = true := by
  unfold okG withP at *
  simp only [Bool.and_eq_true, decide_eq_true_eq] at *
  omega
theorem validG_set {L : List Gr} {k : Nat} {x : Gr} {p : Int} (h : validG L = true) (hk : L[k]? = some x) (h0 : 0 ≤ p) (h1 : p ≤ 100) : validG (L.set k (withP x p)) = true := by
  unfold validG at h ⊢
  rw [Bool.and_eq_true, decide_eq_true_eq, List.all_eq_true] at h ⊢
  refine ⟨by rw [List.length_set]; exact h.1, fun g hg => ?_⟩
  rcases List.mem_or_eq_of_mem_set hg with hg | rfl
  · exact h.2 g hg
  · exact okG_withP (h.2 x (List.mem_of_getElem? hk)) h0 h1
theorem madeG_plays (xs : List I5) : ∀ g ∈ madeG xs, 0 ≤ g.plays ∧ g.plays ≤ 3 := fun g hg => by
  obtain ⟨x, -, rfl⟩ := List.mem_map.1 hg
  have := pickI_lt x.d 4 (by decide)
  unfold mkG
  exact ⟨this.1, by dsimp only; omega⟩
/-- What is added up of the plays before grant k. -/
def sumK (L : List Gr) (U : List Us) (a : List Nat) (k : Nat) : Int := (U.length : Int) + (((restN L a).take k).sum : Nat) - (((plN L).take k).sum : Nat)
theorem sumK_zero (L : List Gr) (U : List Us) (a : List Nat) : sumK L U a 0 = (U.length : Int) := by simp [sumK]
theorem take_sum_le {l : List Nat} {b : Nat} (h : ∀ x ∈ l, x ≤ b) (k : Nat) : (l.take k).sum ≤ l.length * b := by
  have h2 : ∀ l : List Nat, (∀ x ∈ l, x ≤ b) → l.sum ≤ l.length * b := fun l => by
    induction l with
    | nil => intro _; simp
    | cons x l ih =>
      intro h
      have h1 := h x (by simp)
      have h3 := ih fun y hy => h y (by simp [hy])
      rw [List.sum_cons, List.length_cons, Nat.add_mul]
      omega
  refine Nat.le_trans (h2 _ fun x hx => h x (List.mem_of_mem_take hx)) (Nat.mul_le_mul_right _ ?_)
  rw [List.length_take]; omega
theorem plN_le {L : List Gr} (h : validG L = true) : ∀ x ∈ plN L, x ≤ 100 := fun x hx => by
  unfold plN at hx
  obtain ⟨g, hg, rfl⟩ := List.mem_map.1 hx
  have := validG_plays h g hg
  omega
theorem restN_le {L : List Gr} (h : validG L = true) (a : List Nat) : ∀ x ∈ restN L a, x ≤ 100 := fun x hx => by
  unfold restN at hx
  obtain ⟨g, hg, rfl⟩ := List.mem_map.1 hx
  have hg := List.mem_range.1 hg
  have h1 : (plN L).getD g 0 ≤ 100 := by
    have hp : g < (plN L).length := by unfold plN; simpa using hg
    rw [List.getD_eq_getElem?_getD, List.getElem?_eq_getElem hp]
    exact plN_le h _ (List.getElem_mem hp)
  omega
theorem plN_length (L : List Gr) : (plN L).length = L.length := by simp [plN]
theorem sumK_bound {L : List Gr} {U : List Us} (hl : validG L = true) (hu : U.length ≤ 7) (a : List Nat) (k : Nat) : -1200 ≤ sumK L U a k ∧ sumK L U a k ≤ 1207 := by
  have h1 := take_sum_le (restN_le hl a) k
  have h2 := take_sum_le (plN_le hl) k
  rw [restN_len] at h1
  rw [plN_length] at h2
  have h3 := validG_len hl
  have : L.length * 100 ≤ 12 * 100 := Nat.mul_le_mul_right _ h3
  unfold sumK
  omega
theorem sumK_next {L : List Gr} {U : List Us} {a : List Nat} {k x : Nat} {q : Gr} (hl : validG L = true) (hq : L[k]? = some q) (hx : (restN L a)[k]? = some x) : sumK L U a (k + 1) = sumK L U a k + (x : Int) - q.plays := by
  obtain ⟨h1, h2, h3⟩ := plN_get hl hq
  unfold sumK
  rw [sum_take hx, sum_take h1]
  omega
theorem as_mem_lt {L : List Gr} {U : List Us} {a : List Nat} (h : IsAs (plN L) (chL L U) a) : ∀ g ∈ a, g < L.length := fun g hg => by
  obtain ⟨i, hi, rfl⟩ := List.getElem_of_mem hg
  have hm := h.mem i (by have := h.len; omega)
  rw [at_eq hi] at hm
  have hi2 : i < U.length := by have := h.len; rw [chL_len] at this; omega
  rw [chL_get8 hi2] at hm
  exact (mem_permV.1 hm).2.2.1
theorem sumK_all {L : List Gr} {U : List Us} {a : List Nat} (h : IsAs (plN L) (chL L U) a) : sumK L U a L.length = 0 := by
  have h1 := rest_sum (as_mem_lt h) h.cnt
  have h2 : a.length = U.length := by rw [h.len, chL_len]
  unfold sumK
  rw [List.take_of_length_le (by rw [restN_len]; exact Nat.le_refl _), List.take_of_length_le (by rw [plN_length]; exact Nat.le_refl _)]
  omega
theorem restN_get {L : List Gr} {a : List Nat} {k : Nat} (h : k < L.length) : ∃ x, (restN L a)[k]? = some x ∧ x = (restN L a).getD k 0 := by
  have hk : k < (restN L a).length := by rw [restN_len]; exact h
  exact ⟨_, List.getElem?_eq_getElem hk, (at_eq hk).symm⟩
theorem more_can {L : List Gr} {U : List Us} {q : Gr} (hl : validG L = true) (h8 : L.length ≤ 8) (hq : okG q = true) (h : canB L U = true) : validG (L ++ [q]) = true ∧ canB (L ++ [q]) U = true := by
  have hv := validG_app hl h8 hq
  exact ⟨hv, canB_iff.2 (can_further q hv (canB_iff.1 h))⟩
theorem rich_can {L : List Gr} {U : List Us} {k : Nat} {x : Gr} (hl : validG L = true) (h3 : ∀ g ∈ L, 0 ≤ g.plays ∧ g.plays ≤ 3) (hk : L[k]? = some x) (h : canB L U = true) : validG (L.set k (withP x (x.plays + 1))) = true ∧ canB (L.set k (withP x (x.plays + 1))) U = true := by
  have hp := h3 x (List.mem_of_getElem? hk)
  have hv := validG_set (p := x.plays + 1) hl hk (by omega) (by omega)
  exact ⟨hv, canB_iff.2 (can_rich hk ⟨rfl, rfl, rfl, rfl, rfl⟩ (by unfold withP; dsimp only; omega) hv (canB_iff.1 h))⟩
/-- The grants, the first k of which have the plays R. -/
def mixG (L : List Gr) (R : List Nat) (k : Nat) : List Gr := (List.range L.length).map fun j => if j < k then withP (L.getD j g0) ((R.getD j 0 : Nat) : Int) else L.getD j g0
theorem mixG_len (L : List Gr) (R : List Nat) (k : Nat) : (mixG L R k).length = L.length := by simp [mixG]
theorem mixG_zero (L : List Gr) (R : List Nat) : mixG L R 0 = L := by
  apply List.ext_getElem
  · simp [mixG]
  · intro i h1 h2
    simp [mixG, List.getD_eq_getElem?_getD, h2]
theorem mixG_get {L : List Gr} {R : List Nat} {k : Nat} (h : k < L.length) : (mixG L R k)[k]? = some (L.getD k g0) := by
  simp [mixG, h]
theorem mixG_next {L : List Gr} {R : List Nat} {k : Nat} (_ : k < L.length) : (mixG L R k).set k (withP (L.getD k g0) ((R.getD k 0 : Nat) : Int)) = mixG L R (k + 1) := by
  apply List.ext_getElem
  · simp [mixG]
  · intro i h1 h2
    have hi : i < L.length := by rw [mixG_len] at h2; exact h2
    rw [List.getElem_set]
    simp only [mixG, List.getElem_map, List.getElem_range]
    by_cases e : k = i
    · subst e
      rw [if_pos rfl, if_pos (by omega)]
    · rw [if_neg e]
      by_cases h3 : i < k
      · rw [if_pos h3, if_pos (by omega)]
      · rw [if_neg h3, if_neg (by omega)]
theorem mixG_at {L : List Gr} {R : List Nat} {k : Nat} (h : k < L.length) : (mixG L R L.length)[k]? = some (withP (L.getD k g0) ((R.getD k 0 : Nat) : Int)) := by
  simp [mixG, h]
/-- What is left of the grants, where k has one play less. -/
def lessG (L : List Gr) (R : List Nat) (k : Nat) : List Gr := (mixG L R L.length).set k (withP (withP (L.getD k g0) ((R.getD k 0 : Nat) : Int)) (((R.getD k 0 : Nat) : Int) - 1))
theorem lessG_get {L : List Gr} {R : List Nat} {k g : Nat} (hg : g < L.length) : (lessG L R k)[g]? = some (withP (L.getD g g0) (if g = k then ((R.getD k 0 : Nat) : Int) - 1 else ((R.getD g 0 : Nat) : Int))) := by
  unfold lessG
  rw [List.getElem?_set]
  by_cases e : k = g
  · subst e
    rw [if_pos rfl, if_pos (by rw [mixG_len]; exact hg), if_pos rfl]
    rfl
  · rw [if_neg e, mixG_at hg, if_neg (fun h => e h.symm)]
theorem lessG_len (L : List Gr) (R : List Nat) (k : Nat) : (lessG L R k).length = L.length := by unfold lessG; rw [List.length_set, mixG_len]
theorem first_can {L : List Gr} {U : List Us} {a : List Nat} (hl : validG L = true) (hu : validU U = true) (hF : FirstAs (plN L) (chL L U) a) {n k : Nat} (hn : n < U.length) (hk : (zi (permV L (U.getD n u0))).contains (k : Int) = true) (hlt : k < a.getD n 0)
    (h0 : (restN L (a.take n)).getD k 0 ≠ 0) : validG (lessG L (restN L (a.take n)) k) = true ∧ validU (U.drop (n + 1)) = true ∧ canB (lessG L (restN L (a.take n)) k) (U.drop (n + 1)) = false := by
  rw [zi_contains, List.contains_iff_mem] at hk
  obtain ⟨_, _, hkl, _⟩ := mem_permV.1 hk
  have hR := restN_le hl (a.take n)
  have hRg : ∀ g, (restN L (a.take n)).getD g 0 ≤ 100 := fun g => by
    rcases Nat.lt_or_ge g (restN L (a.take n)).length with c | c
    · rw [at_eq c]; exact hR _ (List.getElem_mem c)
    · rw [List.getD_eq_getElem?_getD, List.getElem?_eq_none c]; exact Nat.zero_le _
  have hall : ∀ g, g < L.length → okG (L.getD g g0) = true := fun g hg => by
    unfold validG at hl
    rw [Bool.and_eq_true, List.all_eq_true] at hl
    have e : L.getD g g0 = L[g] := by simp [List.getD_eq_getElem?_getD, hg]
    rw [e]; exact hl.2 _ (List.getElem_mem hg)
  have hv1 : validG (lessG L (restN L (a.take n)) k) = true := by
    unfold validG
    rw [Bool.and_eq_true, decide_eq_true_eq, List.all_eq_true]
    refine ⟨by rw [lessG_len]; exact validG_len hl, fun g hg => ?_⟩
    obtain ⟨i, hi, rfl⟩ := List.getElem_of_mem hg
    have hi2 : i < L.length := by rw [lessG_len] at hi; exact hi
    have e := lessG_get (R := restN L (a.take n)) (k := k) hi2
    rw [List.getElem?_eq_getElem hi] at e
    rw [Option.some.inj e]
    have h1 := hRg i
    have h2 := hRg k
    refine okG_withP (hall i hi2) ?_ ?_
    · split <;> omega
    · split <;> omega
  have hv2 : validU (U.drop (n + 1)) = true := by
    unfold validU at hu ⊢
    rw [Bool.and_eq_true, decide_eq_true_eq, List.all_eq_true] at hu ⊢
    exact ⟨by rw [List.length_drop]; omega, fun q hq => hu.2 q (List.mem_of_mem_drop hq)⟩
  refine ⟨hv1, hv2, ?_⟩
  rw [← Bool.not_eq_true, canB_iff]
  have hlen : a.length = U.length := by rw [hF.is.len, chL_len]
  refine first_no hF (n := n) (k := k) (by rw [chL_len]; exact hn) (by rw [chL_get8 hn]; exact hk) hlt (by rw [chL_len, chL_len, List.length_drop]) (fun u hu' g hg => ?_) fun g => ?_
  · rw [chL_len] at hu'
    have hu2 : u + (n + 1) < U.length := by rw [List.length_drop] at hu'; omega
    rw [chL_get8 hu'] at hg
    rw [chL_get8 hu2]
    obtain ⟨_, h2, h3, h4⟩ := mem_permV.1 hg
    rw [lessG_len] at h3
    have e : (U.drop (n + 1)).getD u u0 = U.getD (u + (n + 1)) u0 := by rw [List.getD_eq_getElem?_getD, List.getElem?_drop, List.getD_eq_getElem?_getD, Nat.add_comm]
    rw [e] at h2 h4
    refine mem_permV.2 ⟨hl, h2, h3, ?_⟩
    rw [List.getD_eq_getElem?_getD, lessG_get h3] at h4
    exact h4
  · rw [List.count_append, List.count_singleton]
    rcases Nat.lt_or_ge g L.length with c | c
    · have e : (plN (lessG L (restN L (a.take n)) k)).getD g 0 = if g = k then (restN L (a.take n)).getD k 0 - 1 else (restN L (a.take n)).getD g 0 := by
        unfold plN
        rw [List.getD_eq_getElem?_getD, List.getElem?_map, lessG_get c]
        simp only [Option.map_some, Option.getD_some, withP]
        split
        · omega
        · omega
      rw [e]
      have h3 : (a.take n).count g ≤ (plN L).getD g 0 := Nat.le_trans ((List.take_sublist n a).count_le g) (hF.is.cnt g)
      by_cases e2 : g = k
      · subst e2
        rw [restN_getD c] at h0
        rw [if_pos rfl, restN_getD c]
        simp only [beq_self_eq_true, if_true]
        omega
      · rw [if_neg e2, if_neg (by simpa using fun h => e2 h.symm)]
        rw [restN_getD c]
        omega
    · have h1 : (plN (lessG L (restN L (a.take n)) k)).getD g 0 = 0 := by
        rw [List.getD_eq_getElem?_getD, List.getElem?_eq_none (by rw [plN_length, lessG_len]; exact c)]
        rfl
      have h2 : (a.take n).count g = 0 := List.count_eq_zero.2 fun hm => by
        have := as_mem_lt hF.is g (List.mem_of_mem_take hm)
        omega
      rw [h1, h2, if_neg (by simp; omega)]
      exact Nat.zero_le _
theorem recs_post {α : Type} {enc : α → List Value} {k : Nat} {w : World} {B n c g off : Nat} {l : List α} (h : Recs enc k w B (.slice (some ⟨g, off, none⟩) n c) l) (d : Nat) (hd : d ≤ l.length) : ∃ A, (d < c → A = some ⟨g, off + d * k, none⟩) ∧ (c ≤ d → A = some ⟨g, off, none⟩) ∧ Recs enc k w B (.slice A (n - d) (c - d)) (l.drop d) := by
  obtain ⟨hn, h1, h2⟩ := recs_cap h
  by_cases hc : d < c
  · refine ⟨some ⟨g, off + d * k, none⟩, fun _ => rfl, fun h => absurd h (by omega), ?_⟩
    refine ⟨some ⟨g, off + d * k, none⟩, c - d, by rw [List.length_drop, hn], by rw [List.length_drop]; omega, by unfold maxLen; omega, ?_⟩
    rcases Nat.lt_or_ge d l.length with c2 | c2
    · obtain ⟨g', off', e, hg, hcell⟩ := recs_at h d c2
      obtain ⟨rfl, rfl⟩ : g = g' ∧ off = off' := by injection e with e; injection e with e1 e2 e3; exact ⟨e1, e2⟩
      refine .inr ⟨g, off + d * k, rfl, hg, fun j x hj i u hu => ?_⟩
      rw [List.getElem?_drop] at hj
      have := hcell (d + j) x hj i u hu
      rw [Nat.add_mul] at this
      rwa [show off + d * k + j * k + i = off + (d * k + j * k) + i by omega]
    · exact .inl (List.drop_of_length_le c2)
  · refine ⟨some ⟨g, off, none⟩, fun h => absurd h hc, fun _ => rfl, ?_⟩
    have hz : l.drop d = [] := List.drop_of_length_le (by omega)
    rw [hz]
    refine ⟨some ⟨g, off, none⟩, c - d, ?_, Nat.zero_le _, by unfold maxLen; omega, .inl rfl⟩
    have : n - d = 0 := by omega
    rw [this]; rfl
end Go.Proofs.Ytenojfniknjeiaa
