/- Layer 13 in plain words: totals, what is owed, valid lists. -/
import Derived.Test.YtinhjobjlpkflaaEa
namespace Go.Proofs.Ytinhjobjlpkflaa

def okAp (n : Int) (x : Ap) : Bool := decide (0 ≤ x.cand) && decide (x.cand < n) && decide (0 ≤ x.at_) && decide (x.at_ ≤ 10000000) && decide (1 ≤ x.secs) && decide (x.secs ≤ 3600) && decide (1 ≤ x.weight) && decide (x.weight ≤ 10)
/-- Are the first k appearances right, one after the other? -/
def apsK (n : Int) (l : List Ap) (k : Nat) : Bool := (List.range k).all fun i => okAp n (l.getD i ⟨0, 0, 0, 0⟩) && (decide (i = 0) || decide ((l.getD (i - 1) ⟨0, 0, 0, 0⟩).at_ < (l.getD i ⟨0, 0, 0, 0⟩).at_))
def validA (n : Int) (l : List Ap) : Bool := decide (2 ≤ n) && decide (n ≤ 8) && decide (l.length ≤ 60) && apsK n l l.length
theorem apsK_succ {n : Int} {l : List Ap} {k : Nat} : apsK n l (k + 1) = (apsK n l k && (okAp n (l.getD k ⟨0, 0, 0, 0⟩) && (decide (k = 0) || decide ((l.getD (k - 1) ⟨0, 0, 0, 0⟩).at_ < (l.getD k ⟨0, 0, 0, 0⟩).at_)))) := by
  unfold apsK; rw [List.range_succ, List.all_append]; simp
theorem apsK_no {n : Int} {l : List Ap} {k m : Nat} (h : apsK n l (k + 1) = false) (hm : k < m) : apsK n l m = false := by
  unfold apsK at h ⊢
  rw [List.all_eq_false] at h ⊢
  obtain ⟨x, hx, h2⟩ := h
  exact ⟨x, List.mem_range.2 (by have := List.mem_range.1 hx; omega), h2⟩
theorem ap_getD {l : List Ap} {k : Nat} {x : Ap} (h : l[k]? = some x) : l.getD k ⟨0, 0, 0, 0⟩ = x := by rw [List.getD_eq_getElem?_getD, h]; rfl
theorem aps_at {n : Int} {l : List Ap} (h : apsK n l l.length = true) {k : Nat} {x : Ap} (hx : l[k]? = some x) : okAp n x = true := by
  unfold apsK at h
  rw [List.all_eq_true] at h
  have := h k (List.mem_range.2 (List.getElem?_eq_some_iff.1 hx).1)
  rw [ap_getD hx, Bool.and_eq_true] at this
  exact this.1
theorem aps_asc {n : Int} {l : List Ap} (h : apsK n l l.length = true) {k : Nat} {x y : Ap} (hx : l[k]? = some x) (hy : l[k + 1]? = some y) : x.at_ < y.at_ := by
  unfold apsK at h
  rw [List.all_eq_true] at h
  have := h (k + 1) (List.mem_range.2 (List.getElem?_eq_some_iff.1 hy).1)
  rw [ap_getD hy, show k + 1 - 1 = k from rfl, ap_getD hx, Bool.and_eq_true, Bool.or_eq_true, decide_eq_true_eq, decide_eq_true_eq] at this
  exact this.2.resolve_left (by omega)
theorem okAp_parts {n : Int} {x : Ap} (h : okAp n x = true) : 0 ≤ x.cand ∧ x.cand < n ∧ 0 ≤ x.at_ ∧ x.at_ ≤ 10000000 ∧ 1 ≤ x.secs ∧ x.secs ≤ 3600 ∧ 1 ≤ x.weight ∧ x.weight ≤ 10 := by
  unfold okAp at h
  simp only [Bool.and_eq_true, decide_eq_true_eq] at h
  omega
theorem worth_bound {n : Int} {x : Ap} (h : okAp n x = true) : 1 ≤ worth x ∧ worth x ≤ 36000 := by
  obtain ⟨_, _, _, _, h1, h2, h3, h4⟩ := okAp_parts h
  unfold worth
  have a : 1 * 1 ≤ x.secs * x.weight := Int.mul_le_mul h1 h3 (by omega) (by omega)
  have b : x.secs * x.weight ≤ 3600 * 10 := Int.mul_le_mul h2 h4 (by omega) (by omega)
  omega
/-- What is known of accounts. -/
structure AcOk (n k : Nat) (s : Ac) : Prop where
  lev : ∃ M, Lev n s M ∧ M ≤ (k : Int) * 36000
  cand : ∀ j c, c ∈ s.op.getD j [] → c.cand = (j : Int) ∧ 0 ≤ c.of_ ∧ c.of_ < (k : Int) ∧ c.rest ≤ 36000 ∧ 604800 ≤ c.until_ ∧ c.until_ ≤ 10604800
  asc : ∀ j, (s.op.getD j []).Pairwise fun a b => a.of_ < b.of_
  len : ∀ j, (s.op.getD j []).length ≤ k
theorem serve_sub (l : List Cl) (w : Int) (hw : 0 ≤ w) (hl : ∀ c ∈ l, 0 < c.rest) : (∀ c ∈ (serveL l w).1, ∃ d ∈ l, c.cand = d.cand ∧ c.of_ = d.of_ ∧ c.rest ≤ d.rest ∧ c.until_ = d.until_) ∧ ((serveL l w).1.map fun c => c.of_).Sublist (l.map fun c => c.of_) := by
  have key : ∀ k, k ≤ l.length → (∀ c ∈ (serveL (l.take k) w).1, ∃ d ∈ l, c.cand = d.cand ∧ c.of_ = d.of_ ∧ c.rest ≤ d.rest ∧ c.until_ = d.until_) ∧ ((serveL (l.take k) w).1.map fun c => c.of_).Sublist ((l.take k).map fun c => c.of_) := by
    intro k
    induction k with
    | zero => intro _; exact ⟨fun c hc => by simp [serveL] at hc, by simp [serveL]⟩
    | succ k ih =>
      intro hk
      obtain ⟨i1, i2⟩ := ih (by omega)
      have hq : l[k]? = some l[k] := List.getElem?_eq_getElem (by omega)
      have h0 := (serve_is (l := l.take k) (w := w) (fun c hc => hl c (List.mem_of_mem_take hc)) hw).2.1
      rw [serve_step hq]
      unfold serveF
      dsimp only
      have ht : l.take (k + 1) = l.take k ++ [l[k]] := by rw [List.take_add_one, hq]; rfl
      have hpos := hl l[k] (List.getElem_mem _)
      split
      · refine ⟨fun c hc => ?_, ?_⟩
        · rcases List.mem_append.1 hc with hc | hc
          · exact i1 c hc
          · rw [List.mem_singleton.1 hc]
            exact ⟨l[k], List.getElem_mem _, rfl, rfl, by dsimp only; omega, rfl⟩
        · rw [ht, List.map_append, List.map_append]
          exact i2.append (List.Sublist.refl _)
      · refine ⟨i1, ?_⟩
        rw [ht, List.map_append]
        exact i2.trans (List.sublist_append_left _ _)
  have := key l.length (Nat.le_refl _)
  rwa [List.take_length] at this
theorem AcOk.start {n : Nat} (h : 0 < n) : AcOk n 0 Ac.start := by
  have h2 : ∀ j, Ac.start.op.getD j [] = [] := fun j => rep_getD 8 j []
  exact ⟨⟨0, Lev.start h, by omega⟩, fun j c hc => (by rw [h2] at hc; cases hc), fun j => (by rw [h2]; exact List.Pairwise.nil), fun j => (by rw [h2]; exact Nat.le_refl _)⟩
theorem AcOk.more {n k : Nat} {s : Ac} (h : AcOk n k s) : AcOk n (k + 1) s := by
  obtain ⟨M, h1, h2⟩ := h.lev
  exact ⟨⟨M, h1, by omega⟩, fun j c hc => (by have := h.cand j c hc; omega), h.asc, fun j => (by have := h.len j; omega)⟩
theorem AcOk.step {n k : Nat} {x : Ap} {s : Ac} (h : AcOk n k s) (hn : n ≤ 8) (hx : okAp (n : Int) x = true) : AcOk n (k + 1) (apStep n k x s) := by
  obtain ⟨M, hM, hMb⟩ := h.lev
  obtain ⟨p1, p2, p3, p4, _⟩ := okAp_parts hx
  obtain ⟨w1, w2⟩ := worth_bound hx
  obtain ⟨M', hM', hMb'⟩ := hM.step (idx := k) (x := x) hn p1 p2 (by omega)
  obtain ⟨c, hcn⟩ : ∃ c, x.cand.toNat = c := ⟨_, rfl⟩
  have hcl : c < n := by omega
  obtain ⟨a1, a2, a3, a4, a5, a6⟩ := serve_is (hM.pos c) (show 0 ≤ worth x by omega)
  obtain ⟨b1, b2⟩ := serve_sub (s.op.getD c []) (worth x) (by omega) (hM.pos c)
  obtain ⟨R, hR⟩ : ∃ R, serveL (s.op.getD c []) (worth x) = R := ⟨_, rfl⟩
  rw [hR] at a1 a2 a3 a4 a5 a6 b1 b2
  have hst : (apStep n k x s).op = if R.2 = 0 then s.op.set c R.1 else addAll n k x R.2 (s.op.set c R.1) := by
    unfold apStep
    dsimp only
    rw [hcn, hR]
  have hop : ∀ j, (s.op.set c R.1).getD j [] = if j = c then R.1 else s.op.getD j [] := fun j => getD_setL (by rw [hM.lo]; omega) j
  have hget : ∀ j, (apStep n k x s).op.getD j [] = if j = c then R.1 else if R.2 = 0 ∨ ¬ j < n then s.op.getD j [] else s.op.getD j [] ++ [⟨(j : Int), (k : Int), R.2, x.at_ + 604800⟩] := fun j => by
    rw [hst]
    by_cases h0 : R.2 = 0
    · rw [if_pos h0, hop]
      split
      · rfl
      · rw [if_pos (.inl h0)]
    · rw [if_neg h0, (addAll_get (idx := k) (x := x) (left := R.2) (o := s.op.set c R.1) n (by rw [List.length_set, hM.lo]; omega)).2, hcn, hop]
      by_cases e : j = c
      · rw [if_pos e, if_pos e, if_neg (fun h => h.2 e)]
      · rw [if_neg e, if_neg e]
        by_cases e2 : j < n
        · rw [if_pos ⟨e2, e⟩, if_neg (fun h => h.elim h0 fun h => h e2)]
        · rw [if_neg (fun h => e2 h.1), if_pos (.inr e2)]
  have hasc : R.1.Pairwise fun a b => a.of_ < b.of_ := by
    have h1 : ((s.op.getD c []).map fun c => c.of_).Pairwise (· < ·) := List.pairwise_map.2 (h.asc c)
    exact List.pairwise_map.1 (h1.sublist b2)
  refine ⟨⟨M', hM', by omega⟩, fun j d hd => ?_, fun j => ?_, fun j => ?_⟩
  · rw [hget] at hd
    split at hd
    · rename_i e
      obtain ⟨d', hd', e1, e2, e3, e4⟩ := b1 d hd
      have := h.cand c d' hd'
      rw [e]
      omega
    · split at hd
      · have := h.cand j d hd; omega
      · rcases List.mem_append.1 hd with hd | hd
        · have := h.cand j d hd; omega
        · rw [List.mem_singleton.1 hd]
          dsimp only
          omega
  · rw [hget]
    split
    · exact hasc
    · split
      · exact h.asc j
      · refine List.pairwise_append.2 ⟨h.asc j, List.pairwise_singleton _ _, fun a ha b hb => ?_⟩
        rw [List.mem_singleton.1 hb]
        have := h.cand j a ha
        dsimp only
        omega
  · rw [hget]
    split
    · have := h.len c; omega
    · split
      · have := h.len j; omega
      · rw [List.length_append, List.length_singleton]; have := h.len j; omega
/-- The accounts behind the first k appearances are as they should be. -/
theorem acc_ok {n : Nat} {l : List Ap} {now : Int} (hn : 2 ≤ n) (hn8 : n ≤ 8) (h : apsK (n : Int) l l.length = true) : ∀ k, k ≤ l.length → AcOk n k (accK n l now k)
  | 0, _ => AcOk.start (by omega)
  | k + 1, hk => by
    have ih := acc_ok (now := now) hn hn8 h k (by omega)
    have hq : l[k]? = some l[k] := List.getElem?_eq_getElem (by omega)
    rw [accK_succ hq]
    split
    · exact ih.step hn8 (aps_at h hq)
    · exact ih.more
end Go.Proofs.Ytinhjobjlpkflaa
