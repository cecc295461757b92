/- The open claims in their order: those of one candidate; the first one; the late ones. -/
import Derived.Test.YtinhjobjlpkflaaFb
import Derived.Test.YtinhjobjlpkflaaEp
namespace Go.Proofs.Ytinhjobjlpkflaa
open Go.RowKit

def ofC (j : Nat) (c : Cl) : Bool := decide (c.cand = (j : Int))
theorem filter_flat {n k : Nat} {s : Ac} (h : AcOk n k s) (j : Nat) : ∀ (L : List (List Cl)) (b : Nat), (∀ (i : Nat) (x : List Cl), L[i]? = some x → x = s.op.getD (b + i) []) → L.flatten.filter (ofC j) = if b ≤ j ∧ j < b + L.length then s.op.getD j [] else []
  | [], b, _ => by simp; omega
  | x :: L, b, hL => by
    have h0 : x = s.op.getD b [] := hL 0 x rfl
    have ih := filter_flat h j L (b + 1) fun i y hy => by
      rw [show b + 1 + i = b + (i + 1) by omega]
      exact hL (i + 1) y (by simpa using hy)
    rw [List.flatten_cons, List.filter_append, ih, List.length_cons]
    by_cases e : b = j
    · have h1 : x.filter (ofC j) = x := List.filter_eq_self.2 fun c hc => by
        rw [h0] at hc
        have := (h.cand b c hc).1
        unfold ofC
        rw [decide_eq_true_eq]
        omega
      rw [h1, if_neg (by omega), if_pos (by omega), List.append_nil, h0, e]
    · have h1 : x.filter (ofC j) = [] := List.filter_eq_nil_iff.2 fun c hc => by
        rw [h0] at hc
        have := (h.cand b c hc).1
        unfold ofC
        rw [decide_eq_true_eq]
        omega
      rw [h1, List.nil_append]
      by_cases e2 : b + 1 ≤ j ∧ j < b + 1 + L.length
      · rw [if_pos e2, if_pos (by omega)]
      · rw [if_neg e2, if_neg (by omega)]
theorem flat_of {n k : Nat} {s : Ac} (h : AcOk n k s) (lo : s.op.length = 8) (j : Nat) : s.op.flatten.filter (ofC j) = s.op.getD j [] := by
  rw [filter_flat h j s.op 0 fun i x hx => by rw [Nat.zero_add, List.getD_eq_getElem?_getD, hx]; rfl]
  by_cases e : j < 8
  · rw [if_pos (by omega)]
  · rw [if_neg (by omega), List.getD_eq_getElem?_getD, List.getElem?_eq_none (by omega)]
    rfl
theorem same_of_perm {a b : List Cl} (hp : a.Perm b) (ha : a.Pairwise fun x y => x.of_ < y.of_) (hb : b.Pairwise fun x y => leC x y = true) (hc : ∀ x ∈ a, ∀ y ∈ a, x.cand = y.cand) : a = b := by
  refine List.Perm.eq_of_pairwise (le := fun x y => leC x y = true) (fun x y hx hy h1 h2 => ?_) ?_ hb hp
  · have hy' := hp.symm.mem_iff.1 hy
    rw [leC_iff] at h1 h2
    have h3 := hc x hx y hy'
    obtain ⟨i, hi, rfl⟩ := List.getElem_of_mem hx
    obtain ⟨j, hj, rfl⟩ := List.getElem_of_mem hy'
    rw [List.pairwise_iff_getElem] at ha
    rcases Nat.lt_trichotomy i j with c | rfl | c
    · have := ha i j hi hj c; omega
    · rfl
    · have := ha j i hj hi c; omega
  · exact ha.imp fun {x y} h => by rw [leC_iff]; omega
/-- What is known of accounts and of their claims in order. -/
structure ClOk (n : Nat) (l : List Ap) (now : Int) (c : List Cl) : Prop where
  per : ∀ j, c.filter (ofC j) = (accV n l now).op.getD j []
  srt : c.Pairwise fun x y => x.of_ < y.of_ ∨ x.of_ = y.of_ ∧ x.cand < y.cand
  mem : ∀ x ∈ c, 0 < x.rest ∧ 0 ≤ x.cand ∧ x.cand < (n : Int)
theorem cl_ok {n : Nat} {l : List Ap} {now : Int} (hn : 2 ≤ n) (hn8 : n ≤ 8) (h : apsK (n : Int) l l.length = true) : ClOk n l now (clV n l now) := by
  have hk := acc_ok (now := now) hn hn8 h l.length (Nat.le_refl _)
  have ho := old_ok (now := now) hn hn8 h l.length (Nat.le_refl _)
  obtain ⟨M, hM, _⟩ := hk.lev
  have hper : ∀ j, (clV n l now).filter (ofC j) = (accV n l now).op.getD j [] := fun j => by
    have h1 := flat_of hk hM.lo j
    unfold clV accV
    have h2 := ((sortC_perm (accK n l now l.length).op.flatten).filter (ofC j))
    rw [h1] at h2
    refine (same_of_perm h2 (hk.asc j) ((sortC_asc _).filter _) fun x hx y hy => ?_).symm
    have := (hk.cand j x hx).1
    have := (hk.cand j y hy).1
    omega
  refine ⟨hper, ?_, fun x hx => ?_⟩
  · have hkeys := flat_keys hk
    have hs := sortC_asc (accK n l now l.length).op.flatten
    rw [List.pairwise_iff_getElem]
    intro i j hi hj hij
    have hle : leC (clV n l now)[i] (clV n l now)[j] = true := (List.pairwise_iff_getElem.1 hs) i j hi hj hij
    rw [leC_iff] at hle
    by_cases e : (clV n l now)[i].of_ < (clV n l now)[j].of_ ∨ (clV n l now)[i].of_ = (clV n l now)[j].of_ ∧ (clV n l now)[i].cand < (clV n l now)[j].cand
    · exact e
    · exfalso
      have mi : (clV n l now)[i] ∈ (accK n l now l.length).op.flatten := (sortC_perm _).symm.mem_iff.1 (List.getElem_mem _)
      have mj : (clV n l now)[j] ∈ (accK n l now l.length).op.flatten := (sortC_perm _).symm.mem_iff.1 (List.getElem_mem _)
      have heq := hkeys _ mi _ mj (by omega) (by omega)
      obtain ⟨L, hL1, hL2⟩ := List.mem_flatten.1 mi
      obtain ⟨q, hq, rfl⟩ := List.getElem_of_mem hL1
      have gq : (accK n l now l.length).op.getD q [] = (accK n l now l.length).op[q] := by simp [List.getD_eq_getElem?_getD, hq]
      have cq := (hk.cand q _ (by rw [gq]; exact hL2)).1
      have hf := hper q
      have hp := hk.asc q
      unfold accV at hf
      rw [← hf] at hp
      have hsub : [(clV n l now)[i], (clV n l now)[j]].Sublist (clV n l now) := by
        have h1 : (clV n l now) = (clV n l now).take j ++ (clV n l now).drop j := (List.take_append_drop _ _).symm
        have h2 : (clV n l now)[i] ∈ (clV n l now).take j := by
          rw [List.mem_take_iff_getElem]
          exact ⟨i, by omega, rfl⟩
        have h3 : (clV n l now)[j] ∈ (clV n l now).drop j := by
          rw [List.mem_drop_iff_getElem]
          exact ⟨0, by omega, by simp⟩
        have h4 := (List.singleton_sublist.2 h2).append (List.singleton_sublist.2 h3)
        rw [List.take_append_drop] at h4
        exact h4
      have h5 := hsub.filter (ofC q)
      have o1 : ofC q (clV n l now)[i] = true := by unfold ofC; rw [decide_eq_true_eq]; exact cq
      have o2 : ofC q (clV n l now)[j] = true := by rw [← heq]; exact o1
      rw [List.filter_cons_of_pos o1, List.filter_cons_of_pos o2, List.filter_nil] at h5
      have h6 := hp.sublist h5
      have h7 := (List.pairwise_cons.1 h6).1 _ (List.mem_singleton.2 rfl)
      rw [← heq] at h7
      omega
  · have mx : x ∈ (accK n l now l.length).op.flatten := (sortC_perm _).symm.mem_iff.1 hx
    obtain ⟨L, hL1, hL2⟩ := List.mem_flatten.1 mx
    obtain ⟨q, hq, rfl⟩ := List.getElem_of_mem hL1
    have gq : (accK n l now l.length).op.getD q [] = (accK n l now l.length).op[q] := by simp [List.getD_eq_getElem?_getD, hq]
    rw [← gq] at hL2
    have cq := (hk.cand q x hL2).1
    have hp := hM.pos q x hL2
    refine ⟨hp, by omega, ?_⟩
    rcases Nat.lt_or_ge q n with c | c
    · omega
    · rw [ho.no q c] at hL2
      cases hL2
theorem filt_at {α : Type} {f : α → Bool} : ∀ (c : List α) (i : Nat) (x : α), c[i]? = some x → f x = true → (c.filter f)[((c.take i).filter f).length]? = some x
  | [], i, x, h, _ => by simp at h
  | y :: c, 0, x, h, hf => by
    simp at h
    subst h
    rw [List.filter_cons_of_pos hf]
    rfl
  | y :: c, i + 1, x, h, hf => by
    have ih := filt_at c i x (by simpa using h) hf
    rw [List.take_succ_cons]
    by_cases hy : f y = true
    · rw [List.filter_cons_of_pos hy, List.filter_cons_of_pos hy, List.length_cons, List.getElem?_cons_succ]
      exact ih
    · rw [List.filter_cons_of_neg hy, List.filter_cons_of_neg hy]
      exact ih
theorem filt_pre {α : Type} {f : α → Bool} (c : List α) (i : Nat) : (c.take i).filter f = (c.filter f).take ((c.take i).filter f).length := by
  have h : c.filter f = (c.take i).filter f ++ (c.drop i).filter f := by rw [← List.filter_append, List.take_append_drop]
  rw [h, List.take_left']
  rfl
/-- What has been claimed by each candidate, of the first i claims. -/
def sumsK (n : Nat) (c : List Cl) (i : Nat) : List Int := (List.range n).map fun j => owedL ((c.take i).filter (ofC j))
theorem sumsK_len (n : Nat) (c : List Cl) (i : Nat) : (sumsK n c i).length = n := by simp [sumsK]
theorem sumsK_get {n : Nat} {c : List Cl} {i j : Nat} (h : j < n) : (sumsK n c i)[j]? = some (owedL ((c.take i).filter (ofC j))) := by
  unfold sumsK
  simp [h]
theorem sumsK_zero (n : Nat) (c : List Cl) : sumsK n c 0 = List.replicate n 0 := by
  apply List.ext_getElem?
  intro j
  rcases Nat.lt_or_ge j n with h | h
  · rw [sumsK_get h, List.getElem?_replicate, if_pos h]
    simp [owedL]
  · rw [List.getElem?_eq_none (by rw [sumsK_len]; exact h), List.getElem?_eq_none (by rw [List.length_replicate]; exact h)]
theorem sumsK_step {n : Nat} {c : List Cl} {i j : Nat} {x : Cl} (hx : c[i]? = some x) (hj : x.cand = (j : Int)) : sumsK n c (i + 1) = (sumsK n c i).set j (owedL ((c.take i).filter (ofC j)) + x.rest) := by
  apply List.ext_getElem?
  intro k
  rcases Nat.lt_or_ge k n with h | h
  · have e : (c.take (i + 1)).filter (ofC k) = (c.take i).filter (ofC k) ++ [x].filter (ofC k) := by
      rw [List.take_add_one, hx, Option.toList_some, List.filter_append]
    rw [sumsK_get h, e, owedL_append, List.getElem?_set]
    by_cases hk : j = k
    · subst hk
      have hf : ofC j x = true := by unfold ofC; rw [decide_eq_true_eq]; exact hj
      rw [if_pos rfl, if_pos (by rw [sumsK_len]; exact h), List.filter_cons_of_pos hf, List.filter_nil, owedL_one]
    · have hf : ¬ ofC k x = true := by unfold ofC; rw [decide_eq_true_eq]; omega
      rw [if_neg hk, sumsK_get h, List.filter_cons_of_neg hf, List.filter_nil]
      have : owedL [] = 0 := rfl
      rw [this, Int.add_zero]
  · rw [List.getElem?_eq_none (by rw [sumsK_len]; exact h), List.getElem?_eq_none (by rw [List.length_set, sumsK_len]; exact h)]
theorem sumsK_all {n : Nat} {l : List Ap} {now : Int} {c : List Cl} (h : ClOk n l now c) : sumsK n c c.length = owV n l now := by
  unfold sumsK owV
  refine List.map_congr_left fun j _ => ?_
  rw [List.take_length, h.per]
/-- EqualOldest in plain words. -/
theorem oldest {n : Nat} {l : List Ap} {now : Int} (hn : 2 ≤ n) (hn8 : n ≤ 8) (h : apsK (n : Int) l l.length = true) {i : Nat} {x : Cl} (hx : (clV n l now)[i]? = some x) :
    ∃ (j p : Nat) (q : Ap), x.cand = (j : Int) ∧ j < n ∧ x.of_ = (p : Int) ∧ p < l.length ∧ l[p]? = some q ∧ 1 ≤ x.rest ∧ q.at_ ≤ now ∧ x.until_ = q.at_ + 604800 ∧ x.cand ≠ q.cand ∧
      (∃ v, v = (if p = 0 then worth q else worth q - min (worth q) ((owV n l (q.at_ - 1)).getD q.cand.toNat 0)) ∧ x.rest ≤ v ∧ (0 < owedL (((clV n l now).take i).filter (ofC j)) → x.rest = v)) := by
  have hc := cl_ok (now := now) hn hn8 h
  have ho := old_ok (now := now) hn hn8 h l.length (Nat.le_refl _)
  obtain ⟨m1, m2, m3⟩ := hc.mem x (List.mem_of_getElem? hx)
  obtain ⟨j, hj⟩ : ∃ j, x.cand.toNat = j := ⟨_, rfl⟩
  have hf : ofC j x = true := by unfold ofC; rw [decide_eq_true_eq]; omega
  have hat := filt_at _ i x hx hf
  rw [hc.per] at hat
  obtain ⟨p, q, g1, g2, g3, g4, g5, g6, g7, g8⟩ := ho.cl j _ x hat
  have hq := aps_at h g3
  obtain ⟨p1, p2, _⟩ := okAp_parts hq
  obtain ⟨w1, _⟩ := worth_bound hq
  have hk := acc_ok (now := now) hn hn8 h p (by omega)
  obtain ⟨M, hM, _⟩ := hk.lev
  have hlv : leftV n l now p = if p = 0 then worth q else worth q - min (worth q) ((owV n l (q.at_ - 1)).getD q.cand.toNat 0) := by
    unfold leftV
    rw [ap_getD g3, serve_left (hM.pos _) (by omega)]
    by_cases e : p = 0
    · rw [if_pos e, e]
      have h2 : (accK n l now 0).op.getD q.cand.toNat [] = [] := rep_getD 8 _ []
      rw [h2]
      have : owedL [] = 0 := rfl
      omega
    · rw [if_neg e]
      have h3 : (owV n l (q.at_ - 1)).getD q.cand.toNat 0 = owedL ((accK n l now p).op.getD q.cand.toNat []) := by
        rw [List.getD_eq_getElem?_getD, owV_get (by omega), acc_before h g3 g4]
        rfl
      rw [h3]
  refine ⟨j, p, q, by omega, by omega, g1, g2, g3, by omega, g4, g5, by omega, leftV n l now p, hlv, g7, fun hs => g8 ?_⟩
  rcases Nat.eq_zero_or_pos (((clV n l now).take i).filter (ofC j)).length with e | e
  · rw [List.eq_nil_of_length_eq_zero e] at hs
    exact absurd hs (Int.lt_irrefl _)
  · exact e
end Go.Proofs.Ytinhjobjlpkflaa
