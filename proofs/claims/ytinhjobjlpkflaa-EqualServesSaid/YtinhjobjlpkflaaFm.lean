/- EqualServes in plain words. -/
import Derived.Test.YtinhjobjlpkflaaFf
namespace Go.Proofs.Ytinhjobjlpkflaa
open Go.RowKit

theorem flat_setperm {f : Cl} {t : List Cl} : ∀ (l : List (List Cl)) (c : Nat), l[c]? = some (f :: t) → l.flatten.Perm (f :: (l.set c t).flatten)
  | [], c, h => by simp at h
  | x :: l, 0, h => by
    simp at h
    subst h
    simp
  | x :: l, c + 1, h => by
    have ih := flat_setperm l c (by simpa using h)
    simp only [List.flatten_cons, List.set_cons_succ]
    refine (ih.append_left x).trans ?_
    exact List.perm_middle
theorem owed_ge {n : Nat} {l : List Ap} {now : Int} (hn : 2 ≤ n) (hn8 : n ≤ 8) (h : apsK (n : Int) l l.length = true) (i : Nat) : 0 ≤ (owV n l now).getD i 0 := by
  obtain ⟨M, hM, _⟩ := (acc_ok (now := now) hn hn8 h l.length (Nat.le_refl _)).lev
  rw [List.getD_eq_getElem?_getD]
  rcases hx : (owV n l now)[i]? with _ | x
  · exact Int.le_refl _
  · have hi : i < n := by have := (List.getElem?_eq_some_iff.1 hx).1; rwa [owV_len] at this
    rw [owV_get hi] at hx
    rw [← Option.some.inj hx]
    exact owedL_nonneg (hM.pos i)
/-- The second at which a round begins. -/
def nowS (L : List Ap) (i : Nat) : Int := if L.length = 0 then (i : Int) else (L.getD (L.length - 1) ⟨0, 0, 0, 0⟩).at_
structure Sv (m i : Nat) (L : List Ap) : Prop where
  v : validA (m : Int) L = true
  len : L.length ≤ 6 + i
  at_ : ∀ x ∈ L, 1 ≤ x.at_ ∧ x.at_ ≤ 1728000 + (i : Int)
  w : ∀ x ∈ L, worth x ≤ 120
  cl : (clV m L (nowS L i)).length + i ≤ 30
theorem Sv.le {m i : Nat} {L : List Ap} (h : Sv m i L) : ∀ x ∈ L, x.at_ ≤ nowS L i := fun x hx => by
  obtain ⟨k, hk⟩ := List.mem_iff_getElem?.1 hx
  have hkl := (List.getElem?_eq_some_iff.1 hk).1
  have hq : L[L.length - 1]? = some L[L.length - 1] := List.getElem?_eq_getElem (by omega)
  unfold nowS
  rw [if_neg (by omega), ap_getD hq]
  by_cases e : k = L.length - 1
  · subst e
    rw [hq] at hk
    rw [← Option.some.inj hk]
    exact Int.le_refl _
  · exact Int.le_of_lt (aps_lt (validA_parts h.v).2.2.2 (show k < L.length - 1 by omega) hk hq)
theorem Sv.now {m i : Nat} {L : List Ap} (h : Sv m i L) (hi : i ≤ 30) : 0 ≤ nowS L i ∧ nowS L i ≤ 1728060 := by
  unfold nowS
  split
  · omega
  · have hq : L[L.length - 1]? = some L[L.length - 1] := List.getElem?_eq_getElem (by omega)
    rw [ap_getD hq]
    have := h.at_ _ (List.getElem_mem (show L.length - 1 < L.length by omega))
    omega
theorem Sv.rest {m i : Nat} {L : List Ap} (h : Sv m i L) {f : Cl} {C : List Cl} (hC : clV m L (nowS L i) = f :: C) : 1 ≤ f.rest ∧ f.rest ≤ 120 ∧ 0 ≤ f.cand ∧ f.cand < (m : Int) := by
  obtain ⟨h1, h2, h3, h4⟩ := validA_parts h.v
  obtain ⟨j, p, q, hj, hjm, hp, hpl, hq, hr1, hqs, ht, hcq, v, hv, hrv, hsv⟩ := oldest (n := m) (by omega) (by omega) h4 (show (clV m L (nowS L i))[0]? = some f by rw [hC]; rfl)
  have hw := h.w q (List.mem_of_getElem? hq)
  have hg := owed_ge (n := m) (now := q.at_ - 1) (by omega) (by omega) h4 q.cand.toNat
  have hw1 := worth_bound (aps_at h4 hq)
  refine ⟨hr1, ?_, by omega, by omega⟩
  split at hv <;> omega
/-- The appearance that serves the first claim. -/
def srv (L : List Ap) (i : Nat) (f : Cl) : Ap := ⟨f.cand, nowS L i + 1, f.rest, 1⟩
theorem Sv.now1 {L : List Ap} {i j : Nat} {f : Cl} : nowS (L ++ [srv L i f]) j = nowS L i + 1 := by
  unfold nowS
  rw [List.length_append, List.length_singleton, if_neg (by omega), Nat.add_sub_cancel, List.getD_eq_getElem?_getD, List.getElem?_append_right (Nat.le_refl _), Nat.sub_self]
  rfl
theorem Sv.val {m i : Nat} {L : List Ap} (h : Sv m i L) (hi : i < 30) {f : Cl} {C : List Cl} (hC : clV m L (nowS L i) = f :: C) : validA (m : Int) (L ++ [srv L i f]) = true := by
  obtain ⟨h1, h2, h3, h4⟩ := validA_parts h.v
  obtain ⟨r1, r2, r3, r4⟩ := h.rest hC
  have hn := h.now (by omega)
  have hl := h.len
  have hp : L.Pairwise fun x y => x.at_ < y.at_ := by
    rw [List.pairwise_iff_getElem]
    intro a b ha hb hab
    exact aps_lt h4 hab (List.getElem?_eq_getElem ha) (List.getElem?_eq_getElem hb)
  have ha := aps_of (n := (m : Int)) (l := L ++ [srv L i f]) (fun x hx => by
    rcases List.mem_append.1 hx with hx | hx
    · obtain ⟨k, hk⟩ := List.mem_iff_getElem?.1 hx
      exact aps_at h4 hk
    · rw [List.mem_singleton.1 hx]
      unfold okAp srv
      simp only [Bool.and_eq_true, decide_eq_true_eq]
      omega) (List.pairwise_append.2 ⟨hp, List.pairwise_singleton _ _, fun a ha b hb => by
    rw [List.mem_singleton.1 hb]
    have := h.le a ha
    unfold srv
    dsimp only
    omega⟩)
  unfold validA
  rw [ha, List.length_append, List.length_singleton]
  simp only [Bool.and_true, Bool.and_eq_true, decide_eq_true_eq]
  omega
theorem Sv.clear {m i : Nat} {L : List Ap} (h : Sv m i L) (hi : i < 30) {f : Cl} {C : List Cl} (hC : clV m L (nowS L i) = f :: C) : clV m (L ++ [srv L i f]) (nowS L i + 1) = C := by
  obtain ⟨h1, h2, h3, h4⟩ := validA_parts h.v
  obtain ⟨r1, r2, r3, r4⟩ := h.rest hC
  have hv' := h.val hi hC
  have h4' := (validA_parts hv').2.2.2
  have hco := cl_ok (n := m) (now := nowS L i) (by omega) (by omega) h4
  have hq : (L ++ [srv L i f])[L.length]? = some (srv L i f) := by rw [List.getElem?_append_right (Nat.le_refl _), Nat.sub_self]; rfl
  have e0 : accK m (L ++ [srv L i f]) (nowS L i + 1) L.length = accV m L (nowS L i) := by
    unfold accV
    refine accK_same _ fun k hk => ?_
    have hqk : L[k]? = some L[k] := List.getElem?_eq_getElem hk
    have := h.le _ (List.getElem_mem hk)
    exact ⟨_, by rw [List.getElem?_append_left hk]; exact hqk, hqk, by omega⟩
  have e1 : accV m (L ++ [srv L i f]) (nowS L i + 1) = apStep m L.length (srv L i f) (accV m L (nowS L i)) := by
    show accK m (L ++ [srv L i f]) (nowS L i + 1) (L ++ [srv L i f]).length = _
    rw [List.length_append, List.length_singleton, accK_succ hq, if_pos (by unfold srv; dsimp only; omega), e0]
  obtain ⟨c, hc⟩ : ∃ c, f.cand.toNat = c := ⟨_, rfl⟩
  have hof : ofC c f = true := by unfold ofC; rw [decide_eq_true_eq]; omega
  have hop := hco.per c
  rw [hC, List.filter_cons_of_pos hof] at hop
  have hk := acc_ok (n := m) (now := nowS L i) (by omega) (by omega) h4 L.length (Nat.le_refl _)
  obtain ⟨M, hM, _⟩ := hk.lev
  have hpos := hM.pos c
  have hlo : (accV m L (nowS L i)).op.length = 8 := hM.lo
  have hopc : (accV m L (nowS L i)).op[c]? = some (f :: C.filter (ofC c)) := by
    have hl : c < (accV m L (nowS L i)).op.length := by rw [hlo]; omega
    rw [List.getElem?_eq_getElem hl, hop, List.getD_eq_getElem?_getD, List.getElem?_eq_getElem hl]
    rfl
  have hw : worth (srv L i f) = f.rest := by unfold worth srv; dsimp only; omega
  have hpos2 : ∀ d ∈ C.filter (ofC c), 0 < d.rest := fun d hd => (hco.mem d (by rw [hC]; exact List.mem_cons_of_mem _ (List.mem_filter.1 hd).1)).1
  have hR : serveL ((accV m L (nowS L i)).op.getD c []) (worth (srv L i f)) = (C.filter (ofC c), 0) := by
    rw [← hop, hw, serveL_cons_le (Int.le_refl _), Int.sub_self, serveL_zero hpos2]
  have e2 : (apStep m L.length (srv L i f) (accV m L (nowS L i))).op = (accV m L (nowS L i)).op.set c (C.filter (ofC c)) := by
    unfold apStep
    dsimp only
    rw [show (srv L i f).cand.toNat = c from hc, hR]
    rfl
  have hk' := acc_ok (n := m) (now := nowS L i + 1) (by omega) (by omega) h4' _ (Nat.le_refl _)
  have hkeys := flat_keys hk'
  have hfl : (accK m (L ++ [srv L i f]) (nowS L i + 1) (L ++ [srv L i f]).length).op = (accV m L (nowS L i)).op.set c (C.filter (ofC c)) := by
    have := congrArg Ac.op e1
    rw [e2] at this
    exact this
  rw [hfl] at hkeys
  have hperm : ((accV m L (nowS L i)).op.set c (C.filter (ofC c))).flatten.Perm C := by
    have p1 := flat_setperm _ c hopc
    have p2 : (accV m L (nowS L i)).op.flatten.Perm (f :: C) := by
      rw [← hC]
      exact sortC_perm _
    exact (List.Perm.cons_inv (p2.symm.trans p1)).symm
  have hasc : AscC C := fun a b x y hab hx hy => by
    have hs := hco.srt
    rw [hC] at hs
    have hs2 := (List.pairwise_cons.1 hs).2
    obtain ⟨ha, rfl⟩ := List.getElem?_eq_some_iff.1 hx
    obtain ⟨hb, rfl⟩ := List.getElem?_eq_some_iff.1 hy
    have := (List.pairwise_iff_getElem.1 hs2) a b ha hb hab
    omega
  have := asc_unique hkeys hperm hasc
  rw [this]
  unfold clV
  rw [e1, e2]
theorem Sv.step {m i : Nat} {L : List Ap} (h : Sv m i L) {f : Cl} {C : List Cl} (hC : clV m L (nowS L i) = f :: C) : Sv m (i + 1) (L ++ [srv L i f]) := by
  have hcl := h.cl
  rw [hC, List.length_cons] at hcl
  have hn := h.now (by omega)
  obtain ⟨r1, r2, r3, r4⟩ := h.rest hC
  have hnb : nowS L i ≤ 1728000 + (i : Int) := by
    unfold nowS
    split
    · omega
    · rename_i e
      have hq : L[L.length - 1]? = some L[L.length - 1] := List.getElem?_eq_getElem (by omega)
      rw [ap_getD hq]
      exact (h.at_ _ (List.getElem_mem (show L.length - 1 < L.length by omega))).2
  refine ⟨h.val (by omega) hC, by have := h.len; rw [List.length_append, List.length_singleton]; omega, fun x hx => ?_, fun x hx => ?_, ?_⟩
  · rcases List.mem_append.1 hx with hx | hx
    · have := h.at_ x hx
      omega
    · rw [List.mem_singleton.1 hx]
      unfold srv
      dsimp only
      omega
  · rcases List.mem_append.1 hx with hx | hx
    · exact h.w x hx
    · rw [List.mem_singleton.1 hx]
      unfold worth srv
      dsimp only
      omega
  · rw [Sv.now1, h.clear (by omega) hC]
    omega
theorem flat_len {n : Nat} {o : List (List Cl)} (lo : o.length = 8) (hn : n ≤ 5) (h0 : ∀ j, n ≤ j → o.getD j [] = []) (h1 : ∀ j, (o.getD j []).length ≤ 6) : o.flatten.length ≤ 30 := by
  match o, lo with
  | [a, b, c, d, e, f, g, k], _ =>
    have x5 := h0 5 (by omega)
    have x6 := h0 6 (by omega)
    have x7 := h0 7 (by omega)
    have y0 := h1 0
    have y1 := h1 1
    have y2 := h1 2
    have y3 := h1 3
    have y4 := h1 4
    simp at x5 x6 x7 y0 y1 y2 y3 y4
    subst x5 x6 x7
    simp
    omega
theorem Sv.start {nn : Int} {m : Nat} (hm : countV nn = (m : Int)) (h5 : m ≤ 5) (h2 : 2 ≤ m) (xs : List I4) (hx : xs.length ≤ 6) : Sv m 0 (madeA nn xs) := by
  have hv := made_valid nn xs
  rw [hm] at hv
  obtain ⟨_, _, _, h4⟩ := validA_parts hv
  have hl := made_len nn xs
  refine ⟨hv, by omega, fun x hx => ?_, fun x hx => ?_, ?_⟩
  · have := made_at nn xs hx
    omega
  · have h1 := made_at nn xs hx
    obtain ⟨k, hk⟩ := List.mem_iff_getElem?.1 hx
    have h2 := okAp_parts (aps_at h4 hk)
    unfold worth
    have : x.secs * x.weight ≤ 30 * 4 := Int.mul_le_mul (by omega) (by omega) (by omega) (by omega)
    omega
  · have hk := acc_ok (n := m) (now := nowS (madeA nn xs) 0) (by omega) (by omega) h4 _ (Nat.le_refl _)
    have ho := old_ok (n := m) (now := nowS (madeA nn xs) 0) (by omega) (by omega) h4 _ (Nat.le_refl _)
    obtain ⟨M, hM, _⟩ := hk.lev
    have := flat_len hM.lo h5 ho.no fun j => by have := hk.len j; omega
    unfold clV accV
    rw [← (sortC_perm _).length_eq]
    omega
/-- When no claim is open, all have had the same. -/
theorem all_same {m : Nat} {L : List Ap} {now : Int} (h2 : 2 ≤ m) (h8 : m ≤ 8) (h : apsK (m : Int) L L.length = true) (hC : clV m L now = []) : ∀ (j : Nat) (t u : Int), (totV m L now)[j]? = some t → (totV m L now)[0]? = some u → t = u := by
  have hco := cl_ok (n := m) (now := now) h2 h8 h
  have hz : ∀ j, owedL ((accV m L now).op.getD j []) = 0 := fun j => by
    rw [← hco.per, hC]
    rfl
  obtain ⟨hl, hlev⟩ := levels (now := now) h2 h8 h
  intro j t u ht hu
  have hj : j < m := by have := (List.getElem?_eq_some_iff.1 ht).1; omega
  have a := (hlev j t _ ht (owV_get hj)).2.2
  have b := (hlev 0 u _ hu (owV_get (by omega))).2.2
  have := hz j
  have := hz 0
  omega
end Go.Proofs.Ytinhjobjlpkflaa
