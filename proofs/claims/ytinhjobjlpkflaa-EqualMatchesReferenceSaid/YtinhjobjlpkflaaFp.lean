/- The reference's claims in plain words: one list, in order from the first. -/
import Derived.Test.YtinhjobjlpkflaaFc
namespace Go.Proofs.Ytinhjobjlpkflaa
open Go.RowKit

/-- The reference's round over one open claim. -/
def srF (cand : Int) (st : List Cl × Int) (c : Cl) : List Cl × Int :=
  if c.cand = cand then (if 0 < c.rest - min st.2 c.rest then st.1 ++ [⟨c.cand, c.of_, c.rest - min st.2 c.rest, c.until_⟩] else st.1, st.2 - min st.2 c.rest)
  else (if 0 < c.rest then st.1 ++ [c] else st.1, st.2)
def srL (cand : Int) (l : List Cl) (w : Int) : List Cl × Int := l.foldl (srF cand) ([], w)
theorem srL_step {cand : Int} {l : List Cl} {k : Nat} {c : Cl} (h : l[k]? = some c) (w : Int) : srL cand (l.take (k + 1)) w = srF cand (srL cand (l.take k) w) c := by
  unfold srL
  rw [List.take_add_one, h, Option.toList_some, List.foldl_append]
  rfl
theorem sr_fold (cand : Nat) : ∀ (l : List Cl) (st : List Cl × Int), (∀ c ∈ l, 0 < c.rest) →
    (∀ j, ((l.foldl (srF cand) st).1.filter (ofC j)) = if j = cand then ((l.filter (ofC cand)).foldl serveF (st.1.filter (ofC cand), st.2)).1 else st.1.filter (ofC j) ++ l.filter (ofC j)) ∧
      (l.foldl (srF cand) st).2 = ((l.filter (ofC cand)).foldl serveF (st.1.filter (ofC cand), st.2)).2
  | [], st, _ => ⟨fun j => by
      by_cases e : j = cand
      · rw [if_pos e, e]; rfl
      · rw [if_neg e]; simp, rfl⟩
  | c :: l, st, h => by
    have h0 := h c (by simp)
    obtain ⟨i1, i2⟩ := sr_fold cand l (srF cand st c) fun x hx => h x (by simp [hx])
    rw [List.foldl_cons]
    by_cases e : c.cand = (cand : Int)
    · have hof : ofC cand c = true := by unfold ofC; rw [decide_eq_true_eq]; exact e
      have hs : srF cand st c = (if 0 < c.rest - min c.rest st.2 then st.1 ++ [⟨c.cand, c.of_, c.rest - min c.rest st.2, c.until_⟩] else st.1, st.2 - min c.rest st.2) := by
        unfold srF
        rw [if_pos e, Int.min_comm]
      have hf : ((srF cand st c).1.filter (ofC cand), (srF cand st c).2) = serveF (st.1.filter (ofC cand), st.2) c := by
        rw [hs]
        unfold serveF
        dsimp only
        split
        · have : ofC cand ⟨c.cand, c.of_, c.rest - min c.rest st.2, c.until_⟩ = true := hof
          rw [List.filter_append, List.filter_cons_of_pos this, List.filter_nil]
        · rfl
      refine ⟨fun j => ?_, ?_⟩
      · rw [i1]
        by_cases ej : j = cand
        · rw [if_pos ej, if_pos ej, List.filter_cons_of_pos hof, List.foldl_cons, hf]
        · have hn : ¬ ofC j c = true := by unfold ofC; rw [decide_eq_true_eq]; omega
          rw [if_neg ej, if_neg ej, List.filter_cons_of_neg hn, hs]
          congr 1
          dsimp only
          split
          · have : ¬ ofC j ⟨c.cand, c.of_, c.rest - min c.rest st.2, c.until_⟩ = true := hn
            rw [List.filter_append, List.filter_cons_of_neg this, List.filter_nil, List.append_nil]
          · rfl
      · rw [i2, List.filter_cons_of_pos hof, List.foldl_cons, hf]
    · have hof : ¬ ofC cand c = true := by unfold ofC; rw [decide_eq_true_eq]; exact e
      have hs : srF cand st c = (st.1 ++ [c], st.2) := by
        unfold srF
        rw [if_neg e, if_pos h0]
      refine ⟨fun j => ?_, ?_⟩
      · rw [i1, hs]
        dsimp only
        by_cases ej : j = cand
        · rw [if_pos ej, if_pos ej, List.filter_cons_of_neg hof, List.filter_append, List.filter_cons_of_neg hof, List.filter_nil, List.append_nil]
        · rw [if_neg ej, if_neg ej, List.filter_append, List.append_assoc, ← List.filter_append]
          rfl
      · rw [i2, hs]
        dsimp only
        rw [List.filter_cons_of_neg hof, List.filter_append, List.filter_cons_of_neg hof, List.filter_nil, List.append_nil]
def kyC (c : Cl) : Int × Int := (c.of_, c.cand)
theorem sr_sub (cand : Int) : ∀ (l : List Cl) (st : List Cl × Int), ((l.foldl (srF cand) st).1.map kyC).Sublist (st.1.map kyC ++ l.map kyC)
  | [], st => by simp
  | c :: l, st => by
    rw [List.foldl_cons]
    refine (sr_sub cand l (srF cand st c)).trans ?_
    rw [List.map_cons, show st.1.map kyC ++ kyC c :: l.map kyC = (st.1.map kyC ++ [kyC c]) ++ l.map kyC by simp]
    refine List.Sublist.append ?_ (List.Sublist.refl _)
    unfold srF
    split
    · dsimp only
      split
      · rw [List.map_append]; exact List.Sublist.refl _
      · exact List.sublist_append_left _ _
    · dsimp only
      split
      · rw [List.map_append]; exact List.Sublist.refl _
      · exact List.sublist_append_left _ _
theorem sr_mem (cand : Int) : ∀ (l : List Cl) (st : List Cl × Int), ∀ x ∈ (l.foldl (srF cand) st).1, x ∈ st.1 ∨ (0 < x.rest ∧ ∃ y ∈ l, x.cand = y.cand ∧ x.of_ = y.of_)
  | [], st, x, hx => .inl hx
  | c :: l, st, x, hx => by
    rw [List.foldl_cons] at hx
    rcases sr_mem cand l (srF cand st c) x hx with h | ⟨h1, y, hy, h2⟩
    · unfold srF at h
      split at h
      · dsimp only at h
        split at h
        · rename_i hr
          rcases List.mem_append.1 h with h | h
          · exact .inl h
          · rw [List.mem_singleton.1 h]
            exact .inr ⟨hr, c, by simp, rfl, rfl⟩
        · exact .inl h
      · dsimp only at h
        split at h
        · rename_i hr
          rcases List.mem_append.1 h with h | h
          · exact .inl h
          · rw [List.mem_singleton.1 h]
            exact .inr ⟨hr, c, by simp, rfl, rfl⟩
        · exact .inl h
    · exact .inr ⟨h1, y, by simp [hy], h2⟩
/-- The new claims of the candidates below c. -/
def adK (idx : Nat) (x : Ap) (left : Int) (c : Nat) : List Cl := ((List.range c).filter fun (j : Nat) => !decide ((j : Int) = x.cand)).map fun (j : Nat) => ⟨(j : Int), (idx : Int), left, x.at_ + 604800⟩
theorem adK_succ (idx : Nat) (x : Ap) (left : Int) (c : Nat) : adK idx x left (c + 1) = if (c : Int) = x.cand then adK idx x left c else adK idx x left c ++ [⟨(c : Int), (idx : Int), left, x.at_ + 604800⟩] := by
  unfold adK
  rw [List.range_succ, List.filter_append]
  by_cases e : (c : Int) = x.cand
  · rw [if_pos e]
    simp [e]
  · rw [if_neg e]
    simp [e]
theorem adK_mem {idx : Nat} {x : Ap} {left : Int} {n : Nat} {c : Cl} (h : c ∈ adK idx x left n) : c.of_ = (idx : Int) ∧ 0 ≤ c.cand ∧ c.cand < (n : Int) ∧ c.rest = left := by
  unfold adK at h
  obtain ⟨j, hj, rfl⟩ := List.mem_map.1 h
  have := List.mem_range.1 (List.mem_filter.1 hj).1
  dsimp only
  omega
theorem adK_filter (idx : Nat) (x : Ap) (left : Int) (j : Nat) : ∀ n, (adK idx x left n).filter (ofC j) = if j < n ∧ ¬ (j : Int) = x.cand then [⟨(j : Int), (idx : Int), left, x.at_ + 604800⟩] else []
  | 0 => by simp [adK]
  | n + 1 => by
    have ih := adK_filter idx x left j n
    rw [adK_succ]
    by_cases e : (n : Int) = x.cand
    · rw [if_pos e, ih]
      by_cases h : j < n ∧ ¬ (j : Int) = x.cand
      · rw [if_pos h, if_pos ⟨by omega, h.2⟩]
      · rw [if_neg h, if_neg (fun g => h ⟨by have := g.1; have := g.2; omega, g.2⟩)]
    · rw [if_neg e, List.filter_append, ih]
      by_cases ej : j = n
      · subst ej
        have hof : ofC j ⟨(j : Int), (idx : Int), left, x.at_ + 604800⟩ = true := by unfold ofC; simp
        rw [if_neg (fun h => by omega), List.filter_cons_of_pos hof, if_pos ⟨by omega, e⟩]
        rfl
      · have hof : ¬ ofC j ⟨(n : Int), (idx : Int), left, x.at_ + 604800⟩ = true := by unfold ofC; rw [decide_eq_true_eq]; dsimp only; omega
        rw [List.filter_cons_of_neg hof, List.filter_nil, List.append_nil]
        by_cases h : j < n ∧ ¬ (j : Int) = x.cand
        · rw [if_pos h, if_pos ⟨by omega, h.2⟩]
        · rw [if_neg h, if_neg (fun g => h ⟨by have := g.1; omega, g.2⟩)]
theorem adK_srt (idx : Nat) (x : Ap) (left : Int) : ∀ n, (adK idx x left n).Pairwise fun a b => a.of_ < b.of_ ∨ a.of_ = b.of_ ∧ a.cand < b.cand
  | 0 => by simp [adK]
  | n + 1 => by
    have ih := adK_srt idx x left n
    rw [adK_succ]
    split
    · exact ih
    · refine List.pairwise_append.2 ⟨ih, List.pairwise_singleton _ _, fun a ha b hb => ?_⟩
      have := adK_mem ha
      rw [List.mem_singleton.1 hb]
      dsimp only
      omega
/-- One appearance in the reference. -/
def rStep (n idx : Nat) (x : Ap) (o : List Cl) : List Cl := (srL x.cand o (worth x)).1 ++ if 0 < (srL x.cand o (worth x)).2 then adK idx x (srL x.cand o (worth x)).2 n else []
def rK (n : Nat) (l : List Ap) (now : Int) (k : Nat) : List Cl := (List.range k).foldl (fun o i => if (l.getD i ⟨0, 0, 0, 0⟩).at_ ≤ now then rStep n i (l.getD i ⟨0, 0, 0, 0⟩) o else o) []
theorem rK_succ {n : Nat} {l : List Ap} {now : Int} {k : Nat} {x : Ap} (h : l[k]? = some x) : rK n l now (k + 1) = if x.at_ ≤ now then rStep n k x (rK n l now k) else rK n l now k := by
  unfold rK
  rw [List.range_succ, List.foldl_append]
  have e : l.getD k ⟨0, 0, 0, 0⟩ = x := by rw [List.getD_eq_getElem?_getD, h]; rfl
  simp only [List.foldl_cons, List.foldl_nil, e]
structure ROk (n k : Nat) (s : Ac) (o : List Cl) : Prop where
  per : ∀ j, o.filter (ofC j) = s.op.getD j []
  srt : o.Pairwise fun x y => x.of_ < y.of_ ∨ x.of_ = y.of_ ∧ x.cand < y.cand
  mem : ∀ x ∈ o, 0 < x.rest ∧ 0 ≤ x.cand ∧ x.cand < (n : Int) ∧ x.of_ < (k : Int)
theorem ROk.step {n k : Nat} {s : Ac} {o : List Cl} {x : Ap} (h : ROk n k s o) (lo : s.op.length = 8) (hn : n ≤ 8) (hx : okAp (n : Int) x = true) : ROk n (k + 1) (apStep n k x s) (rStep n k x o) := by
  obtain ⟨p1, p2, _⟩ := okAp_parts hx
  obtain ⟨w1, w2⟩ := worth_bound hx
  obtain ⟨c, hcn⟩ : ∃ c, x.cand.toNat = c := ⟨_, rfl⟩
  have hce : x.cand = (c : Int) := by omega
  obtain ⟨R, hR⟩ : ∃ R, serveL (s.op.getD c []) (worth x) = R := ⟨_, rfl⟩
  have hst := op_step (idx := k) lo hn hcn (by omega) hR
  obtain ⟨i1, i2⟩ := sr_fold c o ([], worth x) fun y hy => (h.mem y hy).1
  have e1 : (o.filter (ofC c)).foldl serveF (([] : List Cl).filter (ofC c), worth x) = R := by
    rw [← hR, h.per]
    rfl
  have hS : ∀ j, ((srL x.cand o (worth x)).1).filter (ofC j) = if j = c then R.1 else s.op.getD j [] := fun j => by
    unfold srL
    rw [hce, i1 j]
    dsimp only
    rw [e1]
    split
    · rfl
    · rw [h.per]; rfl
  have hL : (srL x.cand o (worth x)).2 = R.2 := by
    unfold srL
    rw [hce, i2]
    dsimp only
    rw [e1]
  have hR2 : 0 ≤ R.2 := by
    have := serve_is (l := s.op.getD c []) (w := worth x) (fun d hd => by
      rw [← h.per] at hd
      exact (h.mem d (List.mem_filter.1 hd).1).1) (by omega)
    rw [hR] at this
    exact this.2.1
  have hmem : ∀ y ∈ (srL x.cand o (worth x)).1, 0 < y.rest ∧ 0 ≤ y.cand ∧ y.cand < (n : Int) ∧ y.of_ < (k : Int) := fun y hy => by
    rcases sr_mem x.cand o ([], worth x) y hy with h1 | ⟨h1, z, hz, h2, h3⟩
    · cases h1
    · have := h.mem z hz
      omega
  have hsub := sr_sub x.cand o ([], worth x)
  have hsrt : ((srL x.cand o (worth x)).1).Pairwise fun x y => x.of_ < y.of_ ∨ x.of_ = y.of_ ∧ x.cand < y.cand := by
    have h1 : (o.map kyC).Pairwise fun p q => p.1 < q.1 ∨ p.1 = q.1 ∧ p.2 < q.2 := List.pairwise_map.2 h.srt
    simp only [List.map_nil, List.nil_append] at hsub
    exact List.pairwise_map.1 (h1.sublist hsub)
  unfold rStep
  rw [hL]
  refine ⟨fun j => ?_, ?_, fun y hy => ?_⟩
  · rw [hst, List.filter_append, hS]
    by_cases hp : 0 < R.2
    · rw [if_pos hp, adK_filter]
      by_cases e : j = c
      · rw [if_pos e, if_pos e, if_neg (fun g => g.2 (by rw [e, hce])), List.append_nil]
      · rw [if_neg e, if_neg e]
        by_cases e2 : j < n
        · rw [if_pos ⟨e2, fun g => e (by omega)⟩, if_neg (fun g => g.elim (by omega) fun g => g e2)]
        · rw [if_neg (fun g => e2 g.1), if_pos (.inr e2), List.append_nil]
    · rw [if_neg hp, List.filter_nil, List.append_nil]
      by_cases e : j = c
      · rw [if_pos e, if_pos e]
      · rw [if_neg e, if_neg e, if_pos (.inl (by omega))]
  · by_cases hp : 0 < R.2
    · rw [if_pos hp]
      refine List.pairwise_append.2 ⟨hsrt, adK_srt _ _ _ _, fun a ha b hb => ?_⟩
      have := hmem a ha
      have := adK_mem hb
      omega
    · rw [if_neg hp, List.append_nil]
      exact hsrt
  · rcases List.mem_append.1 hy with hy | hy
    · have := hmem y hy
      omega
    · split at hy
      · have := adK_mem hy
        omega
      · cases hy
theorem r_ok {n : Nat} {l : List Ap} {now : Int} (hn : 2 ≤ n) (hn8 : n ≤ 8) (h : apsK (n : Int) l l.length = true) : ∀ k, k ≤ l.length → ROk n k (accK n l now k) (rK n l now k)
  | 0, _ => ⟨fun j => (rep_getD 8 j []).symm, List.Pairwise.nil, fun x hx => by cases hx⟩
  | k + 1, hk => by
    have ih := r_ok (now := now) hn hn8 h k (by omega)
    have hq : l[k]? = some l[k] := List.getElem?_eq_getElem (by omega)
    obtain ⟨M, hM, _⟩ := (acc_ok (now := now) hn hn8 h k (by omega)).lev
    rw [accK_succ hq, rK_succ hq]
    split
    · exact ih.step hM.lo hn8 (aps_at h hq)
    · exact ⟨ih.per, ih.srt, fun x hx => by have := ih.mem x hx; omega⟩
/-- The reference's list is the program's. -/
theorem r_same {n : Nat} {l : List Ap} {now : Int} (hn : 2 ≤ n) (hn8 : n ≤ 8) (h : apsK (n : Int) l l.length = true) : rK n l now l.length = clV n l now := by
  have hr := r_ok (now := now) hn hn8 h l.length (Nat.le_refl _)
  have hc := cl_ok (now := now) hn hn8 h
  have hperm : (rK n l now l.length).Perm (clV n l now) := by
    rw [List.perm_iff_count]
    intro a
    have hper : ∀ j, (rK n l now l.length).filter (ofC j) = (clV n l now).filter (ofC j) := fun j => by rw [hr.per, hc.per]; rfl
    by_cases ha : 0 ≤ a.cand
    · have hof : ofC a.cand.toNat a = true := by unfold ofC; rw [decide_eq_true_eq]; omega
      rw [← List.count_filter (p := ofC a.cand.toNat) (l := rK n l now l.length) hof, ← List.count_filter (p := ofC a.cand.toNat) (l := clV n l now) hof, hper]
    · rw [List.count_eq_zero.2 fun hm => ha (hr.mem a hm).2.1, List.count_eq_zero.2 fun hm => ha (hc.mem a hm).2.1]
  refine List.Perm.eq_of_pairwise (le := fun x y => x.of_ < y.of_ ∨ x.of_ = y.of_ ∧ x.cand < y.cand) (fun x y _ _ h1 h2 => ?_) hr.srt hc.srt hperm
  omega
theorem rK_len {n : Nat} {l : List Ap} {now : Int} (hn : 2 ≤ n) (hn8 : n ≤ 8) (h : apsK (n : Int) l l.length = true) (hl : l.length ≤ 60) : ∀ k, k ≤ l.length → (rK n l now k).length ≤ 8 * k
  | 0, _ => Nat.le_refl _
  | k + 1, hk => by
    have ih := rK_len (now := now) hn hn8 h hl k (by omega)
    have hq : l[k]? = some l[k] := List.getElem?_eq_getElem (by omega)
    rw [rK_succ hq]
    split
    · unfold rStep
      rw [List.length_append]
      have h1 := (sr_sub l[k].cand (rK n l now k) ([], worth l[k])).length_le
      simp only [List.length_map, List.map_nil, List.nil_append] at h1
      have h2 : ∀ left, (adK k l[k] left n).length ≤ n := fun left => by
        unfold adK
        rw [List.length_map]
        exact Nat.le_trans (List.length_filter_le _ _) (by simp)
      have h3 := h2 (srL l[k].cand (rK n l now k) (worth l[k])).2
      unfold srL at h3 ⊢
      split
      · omega
      · rw [List.length_nil]; omega
    · omega
end Go.Proofs.Ytinhjobjlpkflaa
