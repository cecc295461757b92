/- The sets that Lack looks through, and Hall's theorem: uses can be assigned exactly if no set of them lacks plays. -/
import Derived.Test.YtenojfniknjeiaaIc
namespace Go.Proofs.Ytenojfniknjeiaa

theorem asc_room {n : Nat} : ∀ (T : List Nat) (k : Nat), (k :: T).Pairwise (· < ·) → (∀ x ∈ k :: T, x < n) → k + T.length < n
  | [], k, _, h => by simpa using h k (by simp)
  | x :: T, k, hp, h => by
    obtain ⟨h1, h2⟩ := List.pairwise_cons.1 hp
    have ih := asc_room T x h2 fun y hy => h y (by simp only [List.mem_cons] at hy ⊢; exact .inr hy)
    have := h1 x (by simp)
    simp only [List.length_cons]
    omega
theorem ext_mem {n : Nat} : ∀ (m : Nat) (set T : List Nat) (first : Nat), T.length = m → T.Pairwise (· < ·) → (∀ x ∈ T, first ≤ x ∧ x < n) → set ++ T ∈ extL n m set first
  | 0, set, T, first, hl, _, _ => by
    rw [List.eq_nil_of_length_eq_zero hl, List.append_nil]
    exact List.mem_singleton.2 rfl
  | m + 1, set, k :: T, first, hl, hp, hx => by
    obtain ⟨h1, h2⟩ := List.pairwise_cons.1 hp
    have hl' : T.length = m := by simpa using hl
    have hr := asc_room T k hp fun x hx' => (hx x hx').2
    have hk := hx k (by simp)
    have ih := ext_mem m (set ++ [k]) T (k + 1) hl' h2 fun x hx' => ⟨h1 x hx', (hx x (by simp [hx'])).2⟩
    unfold extL
    refine List.mem_flatMap.2 ⟨k, List.mem_range'_1.2 (by omega), ?_⟩
    rwa [List.append_assoc] at ih
theorem ext_shape {n : Nat} : ∀ (m : Nat) (set : List Nat) (first : Nat), set.Pairwise (· < ·) → (∀ x ∈ set, x < first) → ∀ x ∈ extL n m set first, x.length = set.length + m ∧ x.Pairwise (· < ·)
  | 0, set, first, hp, _, x, hx => by rw [List.mem_singleton.1 hx]; exact ⟨rfl, hp⟩
  | m + 1, set, first, hp, hf, x, hx => by
    unfold extL at hx
    obtain ⟨k, hk, hx⟩ := List.mem_flatMap.1 hx
    rw [List.mem_range'_1] at hk
    obtain ⟨h1, h2⟩ := ext_shape m (set ++ [k]) (k + 1) (List.pairwise_append.2 ⟨hp, List.pairwise_singleton _ _, fun a ha b hb => by rw [List.mem_singleton.1 hb]; have := hf a ha; omega⟩) (fun y hy => by
      rcases List.mem_append.1 hy with hy | hy
      · have := hf y hy; omega
      · rw [List.mem_singleton.1 hy]; omega) x hx
    exact ⟨by rw [h1, List.length_append]; simp; omega, h2⟩
theorem sets_mem {n : Nat} {T : List Nat} (h0 : T ≠ []) (hp : T.Pairwise (· < ·)) (hx : ∀ x ∈ T, x < n) : T ∈ setsL n := by
  have hl : T.length ≤ n := by
    cases T with
    | nil => simp
    | cons k T => have := asc_room T k hp hx; simp only [List.length_cons]; omega
  have h1 : 0 < T.length := List.length_pos_iff.2 h0
  refine List.mem_flatMap.2 ⟨T.length, List.mem_range'_1.2 (by omega), ?_⟩
  have h := ext_mem (n := n) T.length [] T 0 rfl hp fun x hx' => ⟨Nat.zero_le _, hx x hx'⟩
  rwa [List.nil_append] at h
theorem sets_shape {n : Nat} {x : List Nat} (hx : x ∈ setsL n) : x ≠ [] ∧ x.Pairwise (· < ·) ∧ x.length ≤ n := by
  obtain ⟨s, hs, hx⟩ := List.mem_flatMap.1 hx
  rw [List.mem_range'_1] at hs
  obtain ⟨h1, h2⟩ := ext_shape s [] 0 List.Pairwise.nil (fun x h => by cases h) x hx
  rw [List.length_nil] at h1
  exact ⟨fun e => by rw [e] at h1; simp at h1; omega, h2, by omega⟩
theorem pw_all {α : Type} {R : α → α → Prop} : ∀ {L : List α}, (∀ x ∈ L, ∀ y ∈ L, R x y) → L.Pairwise R
  | [], _ => List.Pairwise.nil
  | x :: L, h => List.pairwise_cons.2 ⟨fun y hy => h x (by simp) y (by simp [hy]), pw_all fun a ha b hb => h a (by simp [ha]) b (by simp [hb])⟩
theorem sets_sizes (n : Nat) : (setsL n).Pairwise fun x y => x.length ≤ y.length := by
  unfold setsL
  have hsz : ∀ s, ∀ x ∈ extL n s [] 0, x.length = s := fun s x hx => by
    have := (ext_shape s [] 0 List.Pairwise.nil (fun x h => by cases h) x hx).1
    simpa using this
  rw [List.pairwise_flatMap]
  refine ⟨fun s _ => pw_all fun x hx y hy => (by rw [hsz s x hx, hsz s y hy]; exact Nat.le_refl _), ?_⟩
  have hr : (List.range' 1 n).Pairwise (· < ·) := List.pairwise_iff_getElem.2 fun i j hi hj hij => by simp; omega
  refine hr.imp fun {a b} hab x hx y hy => ?_
  rw [hsz a x hx, hsz b y hy]
  exact Nat.le_of_lt hab
theorem find_least {n : Nat} {p : List Nat → Bool} {S : List Nat} (h : (setsL n).find? p = some S) {T : List Nat} (h0 : T ≠ []) (hp : T.Pairwise (· < ·)) (hx : ∀ x ∈ T, x < n) (hl : T.length < S.length) : p T = false := by
  obtain ⟨_, l1, l2, he, ha⟩ := List.find?_eq_some_iff_append.1 h
  have hm := sets_mem h0 hp hx
  have hs := sets_sizes n
  rw [he] at hm hs
  rcases List.mem_append.1 hm with hm | hm
  · simpa using ha T hm
  · have h1 := (List.pairwise_append.1 hs).2.1
    rcases List.mem_cons.1 hm with rfl | hm
    · omega
    · have := (List.pairwise_cons.1 h1).1 T hm
      omega
theorem sum_filter (p : Nat → Bool) (f : Nat → Nat) : ∀ L : List Nat, ((L.filter p).map f).sum = (L.map fun x => if p x then f x else 0).sum
  | [] => rfl
  | x :: L => by
    rw [List.filter_cons, List.map_cons, List.sum_cons, ← sum_filter p f L]
    split <;> simp
theorem okU_of {U : List Us} (h : validU U = true) {q : Us} (hq : q ∈ U) : okU q = true := by
  unfold validU at h
  rw [Bool.and_eq_true, List.all_eq_true] at h
  exact h.2 q hq
theorem chL_at {l : List Gr} {U : List Us} (hl : validG l = true) (hu : validU U = true) {u : Nat} (h : u < U.length) : (chL l U).getD u [] = permL l (U.getD u u0) := by
  have e : U.getD u u0 = U[u] := by simp [List.getD_eq_getElem?_getD, h]
  have e2 : (chL l U).getD u [] = permV l U[u] := by unfold chL; simp [List.getD_eq_getElem?_getD, h]
  rw [e, e2]
  unfold permV
  rw [hl, okU_of hu (List.getElem_mem h)]
  rfl
theorem sum_plays {l : List Gr} {U : List Us} (hl : validG l = true) (hu : validU U = true) {S : List Nat} (hS : ∀ u ∈ S, u < U.length) : playsN (plN l) (chL l U) S = sumL l U S := by
  unfold playsN sumL
  rw [sum_filter]
  congr 1
  apply List.ext_getElem
  · simp [plN]
  · intro i h1 h2
    have hi : i < l.length := by simpa using h2
    have hn : nbr (chL l U) S i = S.any (pG l[i] U) := by
      rw [Bool.eq_iff_iff, nbr_iff, List.any_eq_true]
      constructor
      · rintro ⟨u, h3, h4⟩
        rw [chL_at hl hu (hS u h3)] at h4
        have h5 := (List.mem_filter.1 h4).2
        rw [show l.getD i g0 = l[i] by simp [List.getD_eq_getElem?_getD, hi]] at h5
        exact ⟨u, h3, h5⟩
      · rintro ⟨u, h3, h4⟩
        refine ⟨u, h3, ?_⟩
        rw [chL_at hl hu (hS u h3)]
        refine List.mem_filter.2 ⟨List.mem_range.2 hi, ?_⟩
        rw [show l.getD i g0 = l[i] by simp [List.getD_eq_getElem?_getD, hi]]
        exact h4
    simp only [List.getElem_map, List.getElem_range, hn]
    have hp : (plN l).getD i 0 = l[i].plays.toNat := by unfold plN; simp [List.getD_eq_getElem?_getD, hi]
    rw [hp]
theorem lackB_iff {l : List Gr} {U : List Us} (hl : validG l = true) (hu : validU U = true) {S : List Nat} (hS : ∀ u ∈ S, u < U.length) (hn : S.Nodup) : lackB l U S = true ↔ LackS (plN l) (chL l U) S := by
  unfold lackB
  rw [decide_eq_true_eq, ← sum_plays hl hu hS]
  exact ⟨fun h => ⟨hn, fun u hu' => by unfold chL; rw [List.length_map]; exact hS u hu', h⟩, fun h => h.less⟩
theorem asc_nodup {S : List Nat} (h : S.Pairwise (· < ·)) : S.Nodup := h.imp fun h => Nat.ne_of_lt h
/-- A set that lacks plays, in order. -/
theorem lack_sorted {P : List Nat} {ch : List (List Nat)} {S : List Nat} (h : LackS P ch S) : ∃ T : List Nat, T ≠ [] ∧ T.Pairwise (· < ·) ∧ (∀ u ∈ T, u < ch.length) ∧ LackS P ch T := by
  have hp : (S.mergeSort fun x y => decide (x ≤ y)).Perm S := List.mergeSort_perm S _
  have hs := List.pairwise_mergeSort (le := fun (x y : Nat) => decide (x ≤ y)) (fun a b c h1 h2 => by simp only [decide_eq_true_eq] at *; omega) (fun a b => by simp only [Bool.or_eq_true, decide_eq_true_eq]; omega) S
  generalize (S.mergeSort fun x y => decide (x ≤ y)) = T at hp hs
  have hn : T.Nodup := hp.nodup_iff.2 h.nodup
  have hlt : ∀ u ∈ T, u < ch.length := fun u hu => h.lt u (hp.mem_iff.1 hu)
  have hb : ∀ g, nbr ch T g = nbr ch S g := fun g => by
    rw [Bool.eq_iff_iff, nbr_iff, nbr_iff]
    exact ⟨fun ⟨u, a, b⟩ => ⟨u, hp.mem_iff.1 a, b⟩, fun ⟨u, a, b⟩ => ⟨u, hp.mem_iff.2 a, b⟩⟩
  have hless : playsN P ch T < T.length := by
    have := h.less
    unfold playsN at this ⊢
    rw [show nbr ch T = nbr ch S from funext hb, hp.length_eq]
    exact this
  refine ⟨T, fun e => by rw [e] at hless; simp at hless, ?_, hlt, hn, hlt, hless⟩
  have h2 := List.Pairwise.and hs hn
  exact h2.imp fun {a b} hab => by
    have h3 := hab.1
    simp only [decide_eq_true_eq] at h3
    have := hab.2
    omega
theorem lack_sorted_len {P : List Nat} {ch : List (List Nat)} {S : List Nat} (h : LackS P ch S) : ∃ T : List Nat, T ≠ [] ∧ T.Pairwise (· < ·) ∧ (∀ u ∈ T, u < ch.length) ∧ LackS P ch T ∧ T.length = S.length := by
  have hp : (S.mergeSort fun x y => decide (x ≤ y)).Perm S := List.mergeSort_perm S _
  have hs := List.pairwise_mergeSort (le := fun (x y : Nat) => decide (x ≤ y)) (fun a b c h1 h2 => by simp only [decide_eq_true_eq] at *; omega) (fun a b => by simp only [Bool.or_eq_true, decide_eq_true_eq]; omega) S
  generalize (S.mergeSort fun x y => decide (x ≤ y)) = T at hp hs
  have hn : T.Nodup := hp.nodup_iff.2 h.nodup
  have hlt : ∀ u ∈ T, u < ch.length := fun u hu => h.lt u (hp.mem_iff.1 hu)
  have hb : ∀ g, nbr ch T g = nbr ch S g := fun g => by
    rw [Bool.eq_iff_iff, nbr_iff, nbr_iff]
    exact ⟨fun ⟨u, a, b⟩ => ⟨u, hp.mem_iff.1 a, b⟩, fun ⟨u, a, b⟩ => ⟨u, hp.mem_iff.2 a, b⟩⟩
  have hless : playsN P ch T < T.length := by
    have := h.less
    unfold playsN at this ⊢
    rw [show nbr ch T = nbr ch S from funext hb, hp.length_eq]
    exact this
  refine ⟨T, fun e => by rw [e] at hless; simp at hless, ?_, hlt, ⟨hn, hlt, hless⟩, hp.length_eq⟩
  have h2 := List.Pairwise.and hs hn
  exact h2.imp fun {a b} hab => by
    have h3 := hab.1
    simp only [decide_eq_true_eq] at h3
    have := hab.2
    omega
/-- Lack finds none exactly if the uses can be assigned. -/
theorem lack_none {l : List Gr} {U : List Us} (hl : validG l = true) (hu : validU U = true) : lackV l U = none ↔ canB l U = true := by
  have e : lackV l U = (setsL U.length).find? (lackB l U) := by unfold lackV; rw [hl, hu]; rfl
  rw [e, canB_iff, List.find?_eq_none]
  constructor
  · intro h
    refine Classical.byContradiction fun hc => ?_
    obtain ⟨S, hS⟩ := (not_can (chL_ok l U)).1 hc
    obtain ⟨T, h0, hp, hlt, hT⟩ := lack_sorted hS
    have hlt2 : ∀ u ∈ T, u < U.length := fun u hu' => by have := hlt u hu'; unfold chL at this; rwa [List.length_map] at this
    exact h T (sets_mem h0 hp hlt2) ((lackB_iff hl hu hlt2 (asc_nodup hp)).2 hT)
  · intro hc x hx hb
    exact hc.no_lack (chL_ok l U) ((lackB_iff hl hu (sets_lt x hx) (asc_nodup (sets_shape hx).2.1)).1 hb)
end Go.Proofs.Ytenojfniknjeiaa
