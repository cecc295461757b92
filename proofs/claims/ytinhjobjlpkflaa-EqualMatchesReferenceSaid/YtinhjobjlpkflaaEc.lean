/- Layer 13 in plain words: what candidates have had as sums; what is owed follows from it. -/
import Derived.Test.YtinhjobjlpkflaaEb
namespace Go.Proofs.Ytinhjobjlpkflaa

theorem lev_owed {n : Nat} {s s' : Ac} {M M' : Int} (h : Lev n s M) (h' : Lev n s' M') (he : ∀ j, j < n → s.had.getD j 0 = s'.had.getD j 0) : ∀ j, j < n → owedL (s.op.getD j []) = owedL (s'.op.getD j []) := fun j hj => by
  obtain ⟨t, ht, e⟩ := h.top
  obtain ⟨t', ht', e'⟩ := h'.top
  have a1 := h'.sum t ht
  have a2 := owedL_nonneg (h'.pos t)
  have a3 := he t ht
  have b1 := h.sum t' ht'
  have b2 := owedL_nonneg (h.pos t')
  have b3 := he t' ht'
  have c1 := h.sum j hj
  have c2 := h'.sum j hj
  have c3 := he j hj
  omega
def fS (c : Nat) (x : Ap) : Int := if x.cand = (c : Int) then worth x else 0
theorem had_sum {n : Nat} {l : List Ap} {now : Int} (hn8 : n ≤ 8) (hok : ∀ x ∈ l, 0 ≤ x.cand ∧ x.cand < (n : Int) ∧ x.at_ ≤ now) (c : Nat) : ∀ k, k ≤ l.length → (accK n l now k).had.length = 8 ∧ (accK n l now k).had.getD c 0 = ((l.take k).map (fS c)).sum
  | 0, _ => ⟨by simp [accK, Ac.start], by rw [List.take_zero]; exact rep_getD 8 c 0⟩
  | k + 1, hk => by
    obtain ⟨i1, i2⟩ := had_sum (now := now) hn8 hok c k (by omega)
    have hq : l[k]? = some l[k] := List.getElem?_eq_getElem (by omega)
    obtain ⟨h1, h2, h3⟩ := hok l[k] (List.getElem_mem _)
    rw [accK_succ hq, if_pos h3]
    have e : (apStep n k l[k] (accK n l now k)).had = (accK n l now k).had.set l[k].cand.toNat ((accK n l now k).had.getD l[k].cand.toNat 0 + worth l[k]) := rfl
    rw [e]
    refine ⟨by rw [List.length_set]; exact i1, ?_⟩
    rw [getD_setL (by omega), List.take_add_one, hq, Option.toList_some, List.map_append, List.sum_append]
    have e2 : ([l[k]].map (fS c)).sum = fS c l[k] := by simp
    rw [e2]
    unfold fS
    by_cases hc : c = l[k].cand.toNat
    · rw [if_pos hc, if_pos (by omega), ← hc, i2]
      rfl
    · rw [if_neg hc, if_neg (by omega), i2]
      unfold fS
      omega
theorem had_all {n : Nat} {l : List Ap} {now : Int} (hn8 : n ≤ 8) (hok : ∀ x ∈ l, 0 ≤ x.cand ∧ x.cand < (n : Int) ∧ x.at_ ≤ now) (c : Nat) : (accV n l now).had.getD c 0 = (l.map (fS c)).sum := by
  have := (had_sum (now := now) hn8 hok c l.length (Nat.le_refl _)).2
  rwa [List.take_length] at this
theorem sum_setI : ∀ (l : List Int) (i : Nat) (v : Int), i < l.length → (l.set i v).sum + l.getD i 0 = l.sum + v
  | [], i, v, h => absurd h (Nat.not_lt_zero _)
  | x :: l, 0, v, _ => by simp; omega
  | x :: l, i + 1, v, h => by
    have ih := sum_setI l i v (by simpa using h)
    simp only [List.set_cons_succ, List.sum_cons, List.getD_cons_succ]
    omega
/-- The greatest one of some numbers, none below 0. -/
def greatL (l : List Int) : Int := l.foldl max 0
theorem greatL_step {l : List Int} {k : Nat} {x : Int} (h : l[k]? = some x) : greatL (l.take (k + 1)) = max (greatL (l.take k)) x := by
  unfold greatL
  rw [List.take_add_one, h, Option.toList_some, List.foldl_append]
  rfl
theorem greatL_is : ∀ (l : List Int) (a M : Int), 0 ≤ a → (∀ x ∈ l, x ≤ M) → a ≤ M → (a = M ∨ ∃ x ∈ l, x = M) → l.foldl max a = M
  | [], a, M, _, _, _, h => by
    rcases h with h | ⟨x, hx, _⟩
    · exact h
    · cases hx
  | y :: l, a, M, h0, hx, ha, h => by
    have hy := hx y (by simp)
    rw [List.foldl_cons]
    refine greatL_is l _ M (by omega) (fun x h => hx x (by simp [h])) (by omega) ?_
    rcases h with h | ⟨x, h1, h2⟩
    · left; omega
    · rcases List.mem_cons.1 h1 with e | h1
      · left; rw [← e, h2]; omega
      · exact .inr ⟨x, h1, h2⟩
/-- What candidates have had, and what they may claim. -/
def totV (n : Nat) (l : List Ap) (now : Int) : List Int := (accV n l now).had.take n
def owV (n : Nat) (l : List Ap) (now : Int) : List Int := (List.range n).map fun j => owedL ((accV n l now).op.getD j [])
theorem owV_len (n : Nat) (l : List Ap) (now : Int) : (owV n l now).length = n := by simp [owV]
theorem owV_get {n : Nat} {l : List Ap} {now : Int} {j : Nat} (h : j < n) : (owV n l now)[j]? = some (owedL ((accV n l now).op.getD j [])) := by
  unfold owV
  simp [h]
/-- EqualLevels in plain words. -/
theorem levels {n : Nat} {l : List Ap} {now : Int} (hn : 2 ≤ n) (hn8 : n ≤ 8) (h : apsK (n : Int) l l.length = true) : (totV n l now).length = n ∧ ∀ (j : Nat) (t o : Int), (totV n l now)[j]? = some t → (owV n l now)[j]? = some o → 0 ≤ t ∧ 0 ≤ o ∧ t + o = greatL (totV n l now) := by
  obtain ⟨M, hM, _⟩ := (acc_ok (now := now) hn hn8 h l.length (Nat.le_refl _)).lev
  have hlen : (totV n l now).length = n := by unfold totV accV; rw [List.length_take, hM.lh]; omega
  have hg : ∀ j, j < n → (totV n l now)[j]? = some ((accK n l now l.length).had.getD j 0) := fun j hj => by
    have h8 : j < (accK n l now l.length).had.length := by rw [hM.lh]; omega
    unfold totV accV
    rw [List.getElem?_take_of_lt hj, List.getElem?_eq_getElem h8]
    simp [List.getD_eq_getElem?_getD, h8]
  have hgr : greatL (totV n l now) = M := by
    unfold greatL
    refine greatL_is _ 0 M (Int.le_refl _) (fun x hx => ?_) ?_ (.inr ?_)
    · obtain ⟨j, hj⟩ := List.mem_iff_getElem?.1 hx
      have hjn : j < n := by have := (List.getElem?_eq_some_iff.1 hj).1; omega
      rw [hg j hjn] at hj
      have := Option.some.inj hj
      have h1 := hM.sum j hjn
      have h2 := owedL_nonneg (hM.pos j)
      omega
    · obtain ⟨t, ht, e⟩ := hM.top
      have := hM.nn t
      omega
    · obtain ⟨t, ht, e⟩ := hM.top
      exact ⟨_, List.mem_iff_getElem?.2 ⟨t, hg t ht⟩, e⟩
  refine ⟨hlen, fun j t o ht ho => ?_⟩
  have hjn : j < n := by have := (List.getElem?_eq_some_iff.1 ht).1; omega
  rw [hg j hjn] at ht
  rw [owV_get hjn] at ho
  obtain rfl := Option.some.inj ht
  obtain rfl := Option.some.inj ho
  rw [hgr]
  exact ⟨hM.nn j, owedL_nonneg (hM.pos j), hM.sum j hjn⟩
/-- The same totals, the same claims. -/
theorem owed_same {n : Nat} {l m : List Ap} {now : Int} (hn : 2 ≤ n) (hn8 : n ≤ 8) (h : apsK (n : Int) l l.length = true) (h' : apsK (n : Int) m m.length = true) (hl : ∀ x ∈ l, x.at_ ≤ now) (hm : ∀ x ∈ m, x.at_ ≤ now) (hs : ∀ c, c < n → (l.map (fS c)).sum = (m.map (fS c)).sum) : owV n l now = owV n m now ∧ totV n l now = totV n m now := by
  have hok : ∀ {l : List Ap}, apsK (n : Int) l l.length = true → (∀ x ∈ l, x.at_ ≤ now) → ∀ x ∈ l, 0 ≤ x.cand ∧ x.cand < (n : Int) ∧ x.at_ ≤ now := fun {l} h hl x hx => by
    obtain ⟨j, hj⟩ := List.mem_iff_getElem?.1 hx
    have := okAp_parts (aps_at h hj)
    exact ⟨this.1, this.2.1, hl x hx⟩
  obtain ⟨M, hM, _⟩ := (acc_ok (now := now) hn hn8 h l.length (Nat.le_refl _)).lev
  obtain ⟨M', hM', _⟩ := (acc_ok (now := now) hn hn8 h' m.length (Nat.le_refl _)).lev
  have he : ∀ j, j < n → (accV n l now).had.getD j 0 = (accV n m now).had.getD j 0 := fun j hj => by
    rw [had_all hn8 (hok h hl) j, had_all hn8 (hok h' hm) j]
    exact hs j hj
  refine ⟨?_, ?_⟩
  · unfold owV
    refine List.map_congr_left fun j hj => ?_
    exact lev_owed hM hM' he j (List.mem_range.1 hj)
  · unfold totV
    apply List.ext_getElem?
    intro j
    rcases Nat.lt_or_ge j n with c | c
    · have h1 : j < (accV n l now).had.length := by unfold accV; rw [hM.lh]; omega
      have h2 : j < (accV n m now).had.length := by unfold accV; rw [hM'.lh]; omega
      have := he j c
      rw [List.getD_eq_getElem?_getD, List.getD_eq_getElem?_getD, List.getElem?_eq_getElem h1, List.getElem?_eq_getElem h2] at this
      rw [List.getElem?_take_of_lt c, List.getElem?_take_of_lt c, List.getElem?_eq_getElem h1, List.getElem?_eq_getElem h2]
      exact congrArg some this
    · rw [List.getElem?_eq_none (by rw [List.length_take]; omega), List.getElem?_eq_none (by rw [List.length_take]; omega)]
end Go.Proofs.Ytinhjobjlpkflaa
