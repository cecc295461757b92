/- Uses and grants, in plain words: assignments, sets of uses that lack plays, and what a search along choices finds. -/
namespace Go.Proofs.Ytenojfniknjeiaa

theorem len_sub : ∀ {S R : List Nat}, S.Nodup → (∀ x ∈ S, x ∈ R) → S.length ≤ R.length
  | [], _, _, _ => Nat.zero_le _
  | x :: S, R, h, hs => by
    obtain ⟨h1, h2⟩ := List.nodup_cons.1 h
    have hx := hs x (by simp)
    have ih := len_sub (R := R.erase x) h2 fun y hy => (List.mem_erase_of_ne (show y ≠ x from fun e => h1 (e ▸ hy))).2 (hs y (by simp [hy]))
    have := List.length_erase_of_mem hx
    have := List.length_pos_of_mem hx
    simp only [List.length_cons]
    omega
theorem filter_len_sub {S R : List Nat} (p : Nat → Bool) (h : S.Nodup) (hs : ∀ x ∈ S, x ∈ R) : (S.filter p).length ≤ (R.filter p).length :=
  len_sub (List.Pairwise.filter p h) fun x hx => List.mem_filter.2 ⟨hs x (List.mem_filter.1 hx).1, (List.mem_filter.1 hx).2⟩
theorem len_count : ∀ {F A : List Nat}, F.Nodup → (∀ x ∈ A, x ∈ F) → A.length = (F.map fun g => A.count g).sum
  | [], A, _, h => by
    cases A with
    | nil => rfl
    | cons a A => exact absurd (h a (by simp)) (by simp)
  | f :: F, A, hF, h => by
    obtain ⟨h1, h2⟩ := List.nodup_cons.1 hF
    have ih := len_count (F := F) (A := A.filter fun x => x != f) h2 fun x hx => by
      obtain ⟨hx1, hx2⟩ := List.mem_filter.1 hx
      have := h x hx1
      simp only [List.mem_cons] at this
      rcases this with rfl | this
      · simp at hx2
      · exact this
    have e : (F.map fun g => (A.filter fun x => x != f).count g) = F.map fun g => A.count g := List.map_congr_left fun g hg => by
      rw [List.count_filter]
      have : g ≠ f := fun e => h1 (e ▸ hg)
      simpa using this
    rw [e] at ih
    rw [List.map_cons, List.sum_cons, ← ih, List.count_eq_countP, List.countP_eq_length_filter]
    have := List.length_eq_countP_add_countP (fun x => x == f) (l := A)
    rw [List.countP_eq_length_filter, List.countP_eq_length_filter] at this
    rw [this]
    congr 2
    apply List.filter_congr
    intro x _
    rw [Bool.eq_iff_iff]
    simp
theorem sum_le {F : List Nat} {f g : Nat → Nat} (h : ∀ x ∈ F, f x ≤ g x) : (F.map f).sum ≤ (F.map g).sum := by
  induction F with
  | nil => exact Nat.le_refl _
  | cons a F ih =>
    rw [List.map_cons, List.map_cons, List.sum_cons, List.sum_cons]
    have := h a (by simp)
    have := ih fun x hx => h x (by simp [hx])
    omega

/-- For each use one of its choices, no grant more often than it has plays. -/
structure IsAs (P : List Nat) (ch : List (List Nat)) (a : List Nat) : Prop where
  len : a.length = ch.length
  mem : ∀ u, u < ch.length → a.getD u 0 ∈ ch.getD u []
  cnt : ∀ g, a.count g ≤ P.getD g 0
def Can (P : List Nat) (ch : List (List Nat)) : Prop := ∃ a, IsAs P ch a
/-- The choices name grants that there are. -/
def ChOk (P : List Nat) (ch : List (List Nat)) : Prop := ∀ u, ∀ g ∈ ch.getD u [], g < P.length
def nbr (ch : List (List Nat)) (S : List Nat) (g : Nat) : Bool := S.any fun u => (ch.getD u []).contains g
def playsN (P : List Nat) (ch : List (List Nat)) (S : List Nat) : Nat := (((List.range P.length).filter (nbr ch S)).map fun g => P.getD g 0).sum
/-- A set of uses that lacks plays. -/
structure LackS (P : List Nat) (ch : List (List Nat)) (S : List Nat) : Prop where
  nodup : S.Nodup
  lt : ∀ u ∈ S, u < ch.length
  less : playsN P ch S < S.length
theorem nbr_iff {ch : List (List Nat)} {S : List Nat} {g : Nat} : nbr ch S g = true ↔ ∃ u ∈ S, g ∈ ch.getD u [] := by
  unfold nbr
  rw [List.any_eq_true]
  constructor
  · rintro ⟨u, h1, h2⟩; exact ⟨u, h1, by simpa using h2⟩
  · rintro ⟨u, h1, h2⟩; exact ⟨u, h1, by simpa using h2⟩
theorem count_map_le {a S : List Nat} (hS : S.Nodup) (hl : ∀ u ∈ S, u < a.length) (g : Nat) : (S.map fun u => a.getD u 0).count g ≤ a.count g := by
  have e1 : (S.map fun u => a.getD u 0).count g = (S.filter fun u => a.getD u 0 == g).length := by
    rw [List.count_eq_countP, List.countP_map, List.countP_eq_length_filter]; rfl
  have e2 : a.count g = ((List.range a.length).filter fun u => a.getD u 0 == g).length := by
    have e3 : (List.range a.length).map (fun u => a.getD u 0) = a := by
      apply List.ext_getElem
      · simp
      · intro i h1 h2; simp at h1; simp [h1]
    rw [← List.countP_eq_length_filter]
    have e4 := List.countP_map (p := fun x => x == g) (f := fun u => a.getD u 0) (l := List.range a.length)
    rw [e3] at e4
    rw [List.count_eq_countP, e4]; rfl
  rw [e1, e2]
  exact filter_len_sub _ hS fun u hu => List.mem_range.2 (hl u hu)
theorem Can.no_lack {P : List Nat} {ch : List (List Nat)} {S : List Nat} (h : Can P ch) (hc : ChOk P ch) (hS : LackS P ch S) : False := by
  obtain ⟨a, ha⟩ := h
  have hn : ((List.range P.length).filter (nbr ch S)).Nodup := List.Pairwise.filter _ List.nodup_range
  have h1 := len_count (A := S.map fun u => a.getD u 0) hn fun x hx => by
    obtain ⟨u, hu, rfl⟩ := List.mem_map.1 hx
    have hm := ha.mem u (hS.lt u hu)
    exact List.mem_filter.2 ⟨List.mem_range.2 (hc u _ hm), nbr_iff.2 ⟨u, hu, hm⟩⟩
  have h2 := sum_le (F := (List.range P.length).filter (nbr ch S)) (f := fun g => (S.map fun u => a.getD u 0).count g) (g := fun g => P.getD g 0) fun g _ => Nat.le_trans (count_map_le hS.nodup (fun u hu => by rw [ha.len]; exact hS.lt u hu) g) (ha.cnt g)
  have h3 := hS.less
  unfold playsN at h3
  rw [List.length_map] at h1
  omega

/-- What each grant has been given: no more than its plays, and only uses that may have it. -/
structure GOk (P : List Nat) (ch G : List (List Nat)) : Prop where
  len : G.length = P.length
  le : ∀ g, (G.getD g []).length ≤ P.getD g 0
  mem : ∀ g, ∀ u ∈ G.getD g [], g ∈ ch.getD u []
abbrev tr (T : List Bool) (g : Nat) : Bool := T.getD g false
def Full (P : List Nat) (ch G : List (List Nat)) (T T' : List Bool) : Prop := ∀ g, tr T' g = true → tr T g = false → P.getD g 0 ≤ (G.getD g []).length ∧ ∀ u ∈ G.getD g [], ∀ h ∈ ch.getD u [], tr T' h = true
/-- What one search for a use does. -/
structure Step (P : List Nat) (ch : List (List Nat)) (use : Nat) (T : List Bool) (G : List (List Nat)) (b : Bool) (T' : List Bool) (G' : List (List Nat)) : Prop where
  tlen : T'.length = T.length
  sub : ∀ g, tr T g = true → tr T' g = true
  keep : ∀ g, tr T g = true → G'.getD g [] = G.getD g []
  ok : GOk P ch G'
  no : b = false → G' = G ∧ (∀ g ∈ ch.getD use [], tr T' g = true) ∧ Full P ch G T T'
  yes : b = true → ∀ u, G'.flatten.count u = G.flatten.count u + (if use = u then 1 else 0)
structure OutI (P : List Nat) (ch : List (List Nat)) (use k : Nat) (T : List Bool) (G : List (List Nat)) (Tk : List Bool) : Prop where
  tlen : Tk.length = T.length
  sub : ∀ g, tr T g = true → tr Tk g = true
  seen : ∀ j, j < k → tr Tk ((ch.getD use []).getD j 0) = true
  full : Full P ch G T Tk
structure InI (P : List Nat) (ch : List (List Nat)) (i j : Nat) (T : List Bool) (G : List (List Nat)) (Tj : List Bool) : Prop where
  tlen : Tj.length = T.length
  sub : ∀ g, tr (T.set i true) g = true → tr Tj g = true
  seen : ∀ k, k < j → ∀ h ∈ ch.getD ((G.getD i []).getD k 0) [], tr Tj h = true
  full : Full P ch G (T.set i true) Tj
theorem at_eq {l : List Nat} {j : Nat} (h : j < l.length) : l.getD j 0 = l[j] := by rw [List.getD_eq_getElem?_getD, List.getElem?_eq_getElem h]; rfl
theorem at_mem {l : List Nat} {j : Nat} (h : j < l.length) : l.getD j 0 ∈ l := by rw [at_eq h]; exact List.getElem_mem h
theorem tr_set {T : List Bool} {i : Nat} (hi : i < T.length) (g : Nat) : tr (T.set i true) g = if g = i then true else tr T g := by
  unfold tr
  rw [List.getD_eq_getElem?_getD, List.getD_eq_getElem?_getD, List.getElem?_set]
  by_cases h : g = i
  · subst h; simp [hi]
  · rw [if_neg (fun e => h e.symm), if_neg h]
theorem tr_mono {T : List Bool} {i : Nat} (hi : i < T.length) {g : Nat} (hg : tr T g = true) : tr (T.set i true) g = true := by
  rw [tr_set hi]
  split
  · rfl
  · exact hg
theorem getD_set {G : List (List Nat)} {i : Nat} {x : List Nat} (hi : i < G.length) (g : Nat) : (G.set i x).getD g [] = if g = i then x else G.getD g [] := by
  rw [List.getD_eq_getElem?_getD, List.getD_eq_getElem?_getD, List.getElem?_set]
  by_cases h : g = i
  · subst h; simp [hi]
  · rw [if_neg (fun e => h e.symm), if_neg h]
theorem sum_set : ∀ (l : List Nat) (i v : Nat), i < l.length → (l.set i v).sum + l.getD i 0 = l.sum + v
  | x :: l, 0, v, _ => by simp; omega
  | x :: l, i + 1, v, h => by
    have := sum_set l i v (by simpa using h)
    simp at this ⊢
    omega
theorem count_flat_set {G : List (List Nat)} {i : Nat} (hi : i < G.length) (x : List Nat) (u : Nat) : (G.set i x).flatten.count u + (G.getD i []).count u = G.flatten.count u + x.count u := by
  rw [List.count_flatten, List.count_flatten, List.map_set]
  have := sum_set (G.map (List.count u)) i (x.count u) (by simpa using hi)
  have e : (G.map (List.count u)).getD i 0 = (G.getD i []).count u := by
    rw [List.getD_eq_getElem?_getD, List.getD_eq_getElem?_getD, List.getElem?_map, List.getElem?_eq_getElem hi]; rfl
  rw [e] at this
  exact this
theorem Full.trans {P : List Nat} {ch G : List (List Nat)} {T T1 T2 : List Bool} (h1 : Full P ch G T T1) (h2 : Full P ch G T1 T2) (hs : ∀ g, tr T1 g = true → tr T2 g = true) : Full P ch G T T2 := fun g h3 h4 => by
  cases h5 : tr T1 g with
  | true =>
    obtain ⟨a, b⟩ := h1 g h5 h4
    exact ⟨a, fun u hu h hh => hs h (b u hu h hh)⟩
  | false => exact h2 g h3 h5
theorem Full.refl (P : List Nat) (ch G : List (List Nat)) (T : List Bool) : Full P ch G T T := fun g h1 h2 => by rw [h1] at h2; cases h2
theorem OutI.start (P : List Nat) (ch : List (List Nat)) (use : Nat) (T : List Bool) (G : List (List Nat)) : OutI P ch use 0 T G T := ⟨rfl, fun _ h => h, fun j h => absurd h (by omega), Full.refl _ _ _ _⟩
theorem OutI.skip {P : List Nat} {ch : List (List Nat)} {use k : Nat} {T : List Bool} {G : List (List Nat)} {Tk : List Bool} (h : OutI P ch use k T G Tk) (hs : tr Tk ((ch.getD use []).getD k 0) = true) : OutI P ch use (k + 1) T G Tk :=
  ⟨h.tlen, h.sub, fun j hj => by
    by_cases hjk : j = k
    · rw [hjk]; exact hs
    · exact h.seen j (by omega), h.full⟩
theorem OutI.done {P : List Nat} {ch : List (List Nat)} {use : Nat} {T : List Bool} {G : List (List Nat)} {Tk : List Bool} (h : OutI P ch use (ch.getD use []).length T G Tk) (hG : GOk P ch G) : Step P ch use T G false Tk G :=
  ⟨h.tlen, h.sub, fun _ _ => rfl, hG, fun _ => ⟨rfl, fun g hg => by
    obtain ⟨j, hj, e⟩ := List.getElem_of_mem hg
    have := h.seen j hj
    rwa [List.getD_eq_getElem?_getD, List.getElem?_eq_getElem hj, Option.getD_some, e] at this, h.full⟩, fun e => by cases e⟩
theorem OutI.free {P : List Nat} {ch : List (List Nat)} {use k i : Nat} {T : List Bool} {G : List (List Nat)} {Tk : List Bool} (h : OutI P ch use k T G Tk) (hG : GOk P ch G) (hT : T.length = P.length) (hi : i < P.length) (hm : i ∈ ch.getD use []) (hn : tr Tk i = false) (hl : (G.getD i []).length < P.getD i 0) :
    Step P ch use T G true (Tk.set i true) (G.set i (G.getD i [] ++ [use])) := by
  have hiT : i < Tk.length := by rw [h.tlen, hT]; exact hi
  have hiG : i < G.length := by rw [hG.len]; exact hi
  refine ⟨by rw [List.length_set]; exact h.tlen, fun g hg => ?_, fun g hg => ?_, ⟨by rw [List.length_set]; exact hG.len, fun g => ?_, fun g u hu => ?_⟩, (fun e => by cases e), fun _ u => ?_⟩
  · rw [tr_set hiT]; split
    · rfl
    · exact h.sub g hg
  · rw [getD_set hiG]
    split
    · next e => subst e; rw [h.sub _ hg] at hn; cases hn
    · rfl
  · rw [getD_set hiG]
    split
    · next e => subst e; rw [List.length_append, List.length_singleton]; omega
    · exact hG.le g
  · rw [getD_set hiG] at hu
    split at hu
    · next e =>
      subst e
      rcases List.mem_append.1 hu with hu | hu
      · exact hG.mem _ _ hu
      · rw [List.mem_singleton.1 hu]; exact hm
    · exact hG.mem _ _ hu
  · have h1 := count_flat_set hiG (G.getD i [] ++ [use]) u
    rw [List.count_append] at h1
    have h2 : List.count u [use] = if use = u then 1 else 0 := by
      rw [List.count_cons, List.count_nil]
      by_cases e : use = u <;> simp [e]
    rw [h2] at h1
    omega
theorem InI.start {P : List Nat} {ch : List (List Nat)} {i : Nat} (T : List Bool) (G : List (List Nat)) : InI P ch i 0 T G (T.set i true) := ⟨by simp, fun _ h => h, fun j h => absurd h (by omega), Full.refl _ _ _ _⟩
theorem InI.next {P : List Nat} {ch : List (List Nat)} {i j : Nat} {T : List Bool} {G G' : List (List Nat)} {Tj T' : List Bool} (h : InI P ch i j T G Tj) (hs : Step P ch ((G.getD i []).getD j 0) Tj G false T' G') : G' = G ∧ InI P ch i (j + 1) T G T' := by
  obtain ⟨e, h1, h2⟩ := hs.no rfl
  refine ⟨e, hs.tlen.trans h.tlen, fun g hg => hs.sub g (h.sub g hg), fun k hk x hx => ?_, h.full.trans h2 hs.sub⟩
  by_cases hkj : k = j
  · subst hkj; exact h1 x hx
  · exact hs.sub x (h.seen k (by omega) x hx)
theorem InI.found {P : List Nat} {ch : List (List Nat)} {use k i j : Nat} {T : List Bool} {G G' : List (List Nat)} {Tk Tj T' : List Bool} (ho : OutI P ch use k T G Tk) (h : InI P ch i j Tk G Tj) (hT : T.length = P.length) (hi : i < P.length) (hm : i ∈ ch.getD use []) (hn : tr Tk i = false) (hj : j < (G.getD i []).length)
    (hs : Step P ch ((G.getD i []).getD j 0) Tj G true T' G') : G'.getD i [] = G.getD i [] ∧ Step P ch use T G true T' (G'.set i ((G'.getD i []).set j use)) := by
  have hiT : i < Tk.length := by rw [ho.tlen, hT]; exact hi
  have hiG : i < G'.length := by rw [hs.ok.len]; exact hi
  have hti : tr Tj i = true := h.sub i (by rw [tr_set hiT, if_pos rfl])
  have hk := hs.keep i hti
  have hsub : ∀ g, tr Tk g = true → tr Tj g = true := fun g hg => h.sub g (tr_mono hiT hg)
  refine ⟨hk, hs.tlen.trans (h.tlen.trans ho.tlen), fun g hg => hs.sub g (hsub g (ho.sub g hg)), fun g hg => ?_, ⟨by rw [List.length_set]; exact hs.ok.len, fun g => ?_, fun g u hu => ?_⟩, (fun e => by cases e), fun _ u => ?_⟩
  · rw [getD_set hiG]
    split
    · next e => subst e; rw [ho.sub _ hg] at hn; cases hn
    · exact hs.keep g (hsub g (ho.sub g hg))
  · rw [getD_set hiG]
    split
    · next e => subst e; rw [List.length_set]; exact hs.ok.le _
    · exact hs.ok.le g
  · rw [getD_set hiG] at hu
    split at hu
    · next e =>
      subst e
      rcases List.mem_or_eq_of_mem_set hu with hu | hu
      · exact hs.ok.mem _ _ hu
      · rw [hu]; exact hm
    · exact hs.ok.mem _ _ hu
  · have h1 := count_flat_set hiG ((G'.getD i []).set j use) u
    have h2 := hs.yes rfl u
    have hj' : j < (G'.getD i []).length := by rw [hk]; exact hj
    rw [List.count_set hj'] at h1
    have h3 : (G'.getD i [])[j] = (G.getD i []).getD j 0 := by rw [← at_eq hj', hk]
    rw [h3] at h1
    have h4 : (if ((G.getD i []).getD j 0 == u) = true then 1 else 0) ≤ (G'.getD i []).count u := by
      split
      · next e =>
        have e := eq_of_beq e
        rw [hk]
        refine List.count_pos_iff.2 ?_
        rw [← e]
        exact at_mem hj
      · exact Nat.zero_le _
    simp only [beq_iff_eq] at h1 h4
    omega
theorem InI.done {P : List Nat} {ch : List (List Nat)} {use k i : Nat} {T : List Bool} {G : List (List Nat)} {Tk Tj : List Bool} (ho : OutI P ch use k T G Tk) (h : InI P ch i (G.getD i []).length Tk G Tj) (hT : T.length = P.length) (hi : i < P.length) (hik : (ch.getD use []).getD k 0 = i) (hl : P.getD i 0 ≤ (G.getD i []).length) : OutI P ch use (k + 1) T G Tj := by
  have hiT : i < Tk.length := by rw [ho.tlen, hT]; exact hi
  have hti : tr Tj i = true := h.sub i (by rw [tr_set hiT, if_pos rfl])
  have hsub : ∀ g, tr Tk g = true → tr Tj g = true := fun g hg => h.sub g (tr_mono hiT hg)
  refine ⟨h.tlen.trans ho.tlen, fun g hg => hsub g (ho.sub g hg), fun j hj => ?_, fun g h1 h2 => ?_⟩
  · by_cases hjk : j = k
    · rw [hjk, hik]; exact hti
    · exact hsub _ (ho.seen j (by omega))
  · cases h3 : tr Tk g with
    | true =>
      obtain ⟨a, b⟩ := ho.full g h3 h2
      exact ⟨a, fun u hu x hx => hsub x (b u hu x hx)⟩
    | false =>
      by_cases hgi : g = i
      · subst hgi
        refine ⟨hl, fun u hu x hx => ?_⟩
        obtain ⟨j, hj, e⟩ := List.getElem_of_mem hu
        have e2 : (G.getD g []).getD j 0 = u := by rw [List.getD_eq_getElem?_getD, List.getElem?_eq_getElem hj]; exact e
        exact h.seen j hj x (by rw [e2]; exact hx)
      · exact h.full g h1 (by rw [tr_set hiT, if_neg hgi]; exact h3)

/-- Behind the search for the first n uses. -/
structure TopI (P : List Nat) (ch : List (List Nat)) (n : Nat) (G : List (List Nat)) : Prop where
  ok : GOk P ch G
  cnt : ∀ u, G.flatten.count u = if u < n then 1 else 0
theorem TopI.start {P : List Nat} {ch : List (List Nat)} : TopI P ch 0 (List.replicate P.length []) := by
  have hg : ∀ g, (List.replicate P.length ([] : List Nat)).getD g [] = [] := fun g => by
    rw [List.getD_eq_getElem?_getD, List.getElem?_replicate]
    split <;> rfl
  refine ⟨⟨by simp, fun g => by rw [hg]; exact Nat.zero_le _, fun g u hu => by rw [hg] at hu; cases hu⟩, fun u => ?_⟩
  rw [if_neg (by omega)]
  exact List.count_eq_zero.2 fun h => by
    obtain ⟨l, h1, h2⟩ := List.mem_flatten.1 h
    rw [(List.mem_replicate.1 h1).2] at h2
    cases h2
theorem TopI.next {P : List Nat} {ch : List (List Nat)} {n : Nat} {G G' : List (List Nat)} {T T' : List Bool} (h : TopI P ch n G) (hs : Step P ch n T G true T' G') : TopI P ch (n + 1) G' := by
  refine ⟨hs.ok, fun u => ?_⟩
  rw [hs.yes rfl u, h.cnt u]
  by_cases h1 : u < n
  · rw [if_pos h1, if_neg (by omega), if_pos (by omega)]
  · by_cases h2 : n = u
    · rw [if_neg h1, if_pos h2, if_pos (by omega)]
    · rw [if_neg h1, if_neg h2, if_neg (by omega)]
theorem getD_flat {G : List (List Nat)} : (List.range G.length).flatMap (fun g => G.getD g []) = G.flatten := by
  rw [List.flatMap_def]
  congr 1
  apply List.ext_getElem
  · simp
  · intro i h1 h2
    simp at h1
    simp [h1]
theorem sub_flatMap {f : Nat → List Nat} : ∀ {l₁ l₂ : List Nat}, l₁.Sublist l₂ → (l₁.flatMap f).Sublist (l₂.flatMap f)
  | _, _, .slnil => List.Sublist.refl _
  | _, _, .cons a h => by
    rw [List.flatMap_cons]
    exact (sub_flatMap h).trans (List.sublist_append_right _ _)
  | _, _, .cons_cons a h => by
    rw [List.flatMap_cons, List.flatMap_cons]
    exact List.Sublist.append (List.Sublist.refl _) (sub_flatMap h)
theorem sum_filter_le {f : Nat → Nat} {p q : Nat → Bool} (h : ∀ x, p x = true → q x = true) : ∀ l : List Nat, ((l.filter p).map f).sum ≤ ((l.filter q).map f).sum
  | [] => Nat.le_refl _
  | x :: l => by
    have ih := sum_filter_le (f := f) h l
    rw [List.filter_cons, List.filter_cons]
    by_cases hp : p x = true
    · rw [if_pos hp, if_pos (h x hp)]; simp; omega
    · rw [if_neg hp]
      by_cases hq : q x = true
      · rw [if_pos hq]; simp; omega
      · rw [if_neg hq]; exact ih
theorem TopI.mem_lt {P : List Nat} {ch : List (List Nat)} {n : Nat} {G : List (List Nat)} (h : TopI P ch n G) {g u : Nat} (hu : u ∈ G.getD g []) : u < n := by
  have : u ∈ G.flatten := by
    by_cases hg : g < G.length
    · rw [List.getD_eq_getElem?_getD, List.getElem?_eq_getElem hg] at hu
      exact List.mem_flatten.2 ⟨_, List.getElem_mem hg, hu⟩
    · rw [List.getD_eq_getElem?_getD, List.getElem?_eq_none (by omega)] at hu
      cases hu
  have h1 := List.count_pos_iff.2 this
  rw [h.cnt u] at h1
  split at h1
  · assumption
  · omega
theorem TopI.lack {P : List Nat} {ch : List (List Nat)} {n : Nat} {G G' : List (List Nat)} {T T' : List Bool} (h : TopI P ch n G) (hn : n < ch.length) (hT : ∀ g, tr T g = false) (hs : Step P ch n T G false T' G') : ∃ S, LackS P ch S := by
  obtain ⟨-, h1, h2⟩ := hs.no rfl
  obtain ⟨F, hF⟩ : ∃ F, (List.range P.length).filter (tr T') = F := ⟨_, rfl⟩
  have hsub : (F.flatMap fun g => G.getD g []).Sublist G.flatten := by
    rw [← getD_flat, h.ok.len, ← hF]
    exact sub_flatMap List.filter_sublist
  have hFm : ∀ g ∈ F, tr T' g = true := fun g hg => by rw [← hF] at hg; exact (List.mem_filter.1 hg).2
  refine ⟨n :: F.flatMap fun g => G.getD g [], List.nodup_cons.2 ⟨fun hm => ?_, List.nodup_iff_count.2 fun a => ?_⟩, fun u hu => ?_, ?_⟩
  · obtain ⟨g, _, hg⟩ := List.mem_flatMap.1 hm
    exact Nat.lt_irrefl _ (h.mem_lt hg)
  · refine Nat.le_trans (hsub.count_le a) ?_
    rw [h.cnt a]; split <;> omega
  · rcases List.mem_cons.1 hu with rfl | hu
    · exact hn
    · obtain ⟨g, _, hg⟩ := List.mem_flatMap.1 hu
      have := h.mem_lt hg
      omega
  · have e1 : playsN P ch (n :: F.flatMap fun g => G.getD g []) ≤ ((List.range P.length).filter (tr T') |>.map fun g => P.getD g 0).sum := by
      refine sum_filter_le (fun g hg => ?_) _
      obtain ⟨u, hu, hgu⟩ := nbr_iff.1 hg
      rcases List.mem_cons.1 hu with rfl | hu
      · exact h1 g hgu
      · obtain ⟨x, hx, hux⟩ := List.mem_flatMap.1 hu
        exact (h2 x (hFm x hx) (hT x)).2 u hux g hgu
    rw [hF] at e1
    have e2 := sum_le (F := F) (f := fun g => P.getD g 0) (g := fun g => (G.getD g []).length) fun g hg => (h2 g (hFm g hg) (hT g)).1
    rw [List.length_cons, List.length_flatMap]
    omega
theorem TopI.can {P : List Nat} {ch : List (List Nat)} {G : List (List Nat)} (h : TopI P ch ch.length G) : Can P ch := by
  have hfind : ∀ u, u < ch.length → u ∈ G.getD (((List.range G.length).find? fun g => (G.getD g []).contains u).getD 0) [] := fun u hu => by
    have h1 := h.cnt u
    rw [if_pos hu] at h1
    obtain ⟨l, h2, h3⟩ := List.mem_flatten.1 (List.count_pos_iff.1 (show 0 < G.flatten.count u by omega))
    obtain ⟨g, hg, e⟩ := List.getElem_of_mem h2
    have hs : ((List.range G.length).find? fun g => (G.getD g []).contains u).isSome = true := List.find?_isSome.2 ⟨g, List.mem_range.2 hg, by
      rw [List.getD_eq_getElem?_getD, List.getElem?_eq_getElem hg, Option.getD_some, e]; simpa using h3⟩
    obtain ⟨y, hy⟩ := Option.isSome_iff_exists.1 hs
    rw [hy]
    have := List.find?_some hy
    simpa using this
  refine ⟨(List.range ch.length).map fun u => ((List.range G.length).find? fun g => (G.getD g []).contains u).getD 0, by simp, fun u hu => ?_, fun g => ?_⟩
  · have e : ((List.range ch.length).map fun u => ((List.range G.length).find? fun g => (G.getD g []).contains u).getD 0).getD u 0 = ((List.range G.length).find? fun g => (G.getD g []).contains u).getD 0 := by
      rw [List.getD_eq_getElem?_getD, List.getElem?_map, List.getElem?_range hu]; rfl
    rw [e]
    exact h.ok.mem _ u (hfind u hu)
  · refine Nat.le_trans ?_ (h.ok.le g)
    rw [List.count_eq_countP, List.countP_map, List.countP_eq_length_filter]
    refine len_sub (List.Pairwise.filter _ List.nodup_range) fun u hu => ?_
    obtain ⟨h1, h2⟩ := List.mem_filter.1 hu
    have h3 := hfind u (List.mem_range.1 h1)
    have h4 := eq_of_beq h2
    simp only at h4
    rwa [h4] at h3
end Go.Proofs.Ytenojfniknjeiaa
