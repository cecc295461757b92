/- More plays and more grants; what is left and the uses add up. -/
import Derived.Test.YtenojfniknjeiaaIh
namespace Go.Proofs.Ytenojfniknjeiaa

theorem Can.mono {P P' : List Nat} {ch ch' : List (List Nat)} (h : Can P ch) (hl : ch'.length = ch.length) (hc : ∀ u, u < ch.length → ∀ g ∈ ch.getD u [], g ∈ ch'.getD u []) (hP : ∀ g, P.getD g 0 ≤ P'.getD g 0) : Can P' ch' := by
  obtain ⟨a, ha⟩ := h
  exact ⟨a, by rw [hl]; exact ha.len, fun u hu => hc u (by omega) _ (ha.mem u (by omega)), fun g => Nat.le_trans (ha.cnt g) (hP g)⟩
theorem mem_permV {l : List Gr} {u : Us} {g : Nat} : g ∈ permV l u ↔ validG l = true ∧ okU u = true ∧ g < l.length ∧ perB (l.getD g g0) u = true := by
  unfold permV
  by_cases hv : (validG l && okU u) = true
  · rw [if_pos hv]
    rw [Bool.and_eq_true] at hv
    unfold permL permK
    rw [List.mem_filter, List.mem_range]
    exact ⟨fun h => ⟨hv.1, hv.2, h⟩, fun h => h.2.2⟩
  · rw [if_neg hv]
    exact ⟨fun h => (by cases h), fun h => absurd (by rw [h.1, h.2.1]; rfl) hv⟩
theorem chL_len (l : List Gr) (U : List Us) : (chL l U).length = U.length := by unfold chL; rw [List.length_map]
theorem chL_get8 {l : List Gr} {U : List Us} {u : Nat} (h : u < U.length) : (chL l U).getD u [] = permV l (U.getD u u0) := by
  unfold chL
  simp [List.getD_eq_getElem?_getD, h]
/-- Grants that permit no less, with no fewer plays. -/
theorem can_grants {l l' : List Gr} {U : List Us} (hl' : validG l' = true) (h : Can (plN l) (chL l U)) (hm : ∀ u g, g < l.length → perB (l.getD g g0) u = true → g < l'.length ∧ perB (l'.getD g g0) u = true) (hP : ∀ g, (plN l).getD g 0 ≤ (plN l').getD g 0) : Can (plN l') (chL l' U) := by
  refine h.mono (by rw [chL_len, chL_len]) (fun u hu g hg => ?_) hP
  rw [chL_len] at hu
  rw [chL_get8 hu] at hg ⊢
  obtain ⟨_, h2, h3, h4⟩ := mem_permV.1 hg
  obtain ⟨h5, h6⟩ := hm _ g h3 h4
  exact mem_permV.2 ⟨hl', h2, h5, h6⟩
theorem can_further {l : List Gr} {U : List Us} (q : Gr) (hl' : validG (l ++ [q]) = true) (h : Can (plN l) (chL l U)) : Can (plN (l ++ [q])) (chL (l ++ [q]) U) := by
  have e : ∀ g, g < l.length → (l ++ [q]).getD g g0 = l.getD g g0 := fun g hg => by simp [List.getD_eq_getElem?_getD, List.getElem?_append_left hg]
  refine can_grants hl' h (fun u g hg hp => ⟨by rw [List.length_append]; omega, by rw [e g hg]; exact hp⟩) fun g => ?_
  unfold plN
  rw [List.map_append]
  rcases Nat.lt_or_ge g l.length with c | c
  · rw [List.getD_eq_getElem?_getD, List.getD_eq_getElem?_getD, List.getElem?_append_left (by rw [List.length_map]; exact c)]
    exact Nat.le_refl _
  · rw [List.getD_eq_getElem?_getD, List.getElem?_eq_none (by rw [List.length_map]; exact c)]
    exact Nat.zero_le _
theorem can_rich {l : List Gr} {U : List Us} {k : Nat} {x : Gr} (hk : l[k]? = some x) {x' : Gr} (hx : x'.item = x.item ∧ x'.acts = x.acts ∧ x'.regions = x.regions ∧ x'.fr = x.fr ∧ x'.tw = x.tw) (hp : x.plays ≤ x'.plays) (hl' : validG (l.set k x') = true) (h : Can (plN l) (chL l U)) : Can (plN (l.set k x')) (chL (l.set k x') U) := by
  have hkl := (List.getElem?_eq_some_iff.1 hk).1
  have eb : ∀ u, perB x' u = perB x u := fun u => by unfold perB; rw [hx.1, hx.2.1, hx.2.2.1, hx.2.2.2.1, hx.2.2.2.2]
  refine can_grants hl' h (fun u g hg hb => ⟨by rw [List.length_set]; exact hg, ?_⟩) fun g => ?_
  · rw [List.getD_eq_getElem?_getD, List.getElem?_set]
    rw [List.getD_eq_getElem?_getD] at hb
    by_cases e : k = g
    · subst e
      rw [if_pos rfl, if_pos hkl]
      rw [hk] at hb
      exact (eb u).trans hb
    · rw [if_neg e]; exact hb
  · unfold plN
    rw [List.map_set, List.getD_eq_getElem?_getD, List.getD_eq_getElem?_getD, List.getElem?_set]
    by_cases e : k = g
    · subst e
      rw [if_pos rfl, if_pos (by rw [List.length_map]; exact hkl), List.getElem?_map, hk]
      simp
      omega
    · rw [if_neg e]; exact Nat.le_refl _
theorem sum_sub (p c : Nat → Nat) : ∀ F : List Nat, (∀ g ∈ F, c g ≤ p g) → (F.map fun g => p g - c g).sum + (F.map c).sum = (F.map p).sum
  | [], _ => rfl
  | g :: F, h => by
    have ih := sum_sub p c F fun x hx => h x (by simp [hx])
    have := h g (by simp)
    rw [List.map_cons, List.map_cons, List.map_cons, List.sum_cons, List.sum_cons, List.sum_cons]
    omega
/-- The plays that are left and the uses add up to all plays. -/
theorem rest_sum {l : List Gr} {a : List Nat} (hm : ∀ g ∈ a, g < l.length) (hc : ∀ g, a.count g ≤ (plN l).getD g 0) : (restN l a).sum + a.length = (plN l).sum := by
  have h1 := len_count (F := List.range l.length) (A := a) List.nodup_range fun x hx => List.mem_range.2 (hm x hx)
  have h2 := sum_sub (fun g => (plN l).getD g 0) (fun g => a.count g) (List.range l.length) fun g _ => hc g
  have h3 : ((List.range l.length).map fun g => (plN l).getD g 0) = plN l := by
    apply List.ext_getElem
    · simp [plN]
    · intro i h4 h5
      simp at h4
      simp [plN, List.getD_eq_getElem?_getD, h4]
  unfold restN
  rw [h3] at h2
  omega
end Go.Proofs.Ytenojfniknjeiaa
