/- Layer 13 in plain words: claims, serving them, accounts; what candidates have had and may claim is the same for all. -/
import Derived.Test.YtinhjobjlpkflaaUa
namespace Go.Proofs.Ytinhjobjlpkflaa

structure Ap where
  cand : Int
  at_ : Int
  secs : Int
  weight : Int
deriving DecidableEq
structure Cl where
  cand : Int
  of_ : Int
  rest : Int
  until_ : Int
deriving DecidableEq
/-- One claim is served. -/
def serveF (st : List Cl × Int) (c : Cl) : List Cl × Int := (if 0 < c.rest - min c.rest st.2 then st.1 ++ [⟨c.cand, c.of_, c.rest - min c.rest st.2, c.until_⟩] else st.1, st.2 - min c.rest st.2)
def serveL (l : List Cl) (w : Int) : List Cl × Int := l.foldl serveF ([], w)
def owedL (l : List Cl) : Int := (l.map fun c => c.rest).sum
theorem owedL_append (a b : List Cl) : owedL (a ++ b) = owedL a + owedL b := by unfold owedL; rw [List.map_append, List.sum_append]
theorem owedL_one (c : Cl) : owedL [c] = c.rest := by simp [owedL]
theorem owedL_nonneg {l : List Cl} (h : ∀ c ∈ l, 0 < c.rest) : 0 ≤ owedL l := by
  induction l with
  | nil => exact Int.le_refl _
  | cons c l ih =>
    have h1 := h c (by simp)
    have h2 := ih fun x hx => h x (by simp [hx])
    unfold owedL at h2 ⊢
    rw [List.map_cons, List.sum_cons]
    omega
theorem serve_step {l : List Cl} {k : Nat} {c : Cl} (h : l[k]? = some c) (w : Int) : serveL (l.take (k + 1)) w = serveF (serveL (l.take k) w) c := by
  unfold serveL
  rw [List.take_add_one, h, Option.toList_some, List.foldl_append]
  rfl
theorem serve_fold : ∀ (l : List Cl) (st : List Cl × Int), (∀ c ∈ l, 0 < c.rest) → (∀ c ∈ st.1, 0 < c.rest) → 0 ≤ st.2 →
    (∀ c ∈ (l.foldl serveF st).1, 0 < c.rest) ∧ 0 ≤ (l.foldl serveF st).2 ∧ (l.foldl serveF st).2 ≤ st.2 ∧ owedL (l.foldl serveF st).1 + st.2 = owedL st.1 + owedL l + (l.foldl serveF st).2 ∧ ((l.foldl serveF st).2 = 0 ∨ (l.foldl serveF st).1 = st.1) ∧ (l.foldl serveF st).1.length ≤ st.1.length + l.length
  | [], st, _, h2, h3 => ⟨h2, h3, Int.le_refl _, by simp [owedL], .inr rfl, Nat.le_refl _⟩
  | c :: l, st, h1, h2, h3 => by
    have hc := h1 c (by simp)
    have hst : (serveF st c).2 = st.2 - min c.rest st.2 := rfl
    have hp : ∀ x ∈ (serveF st c).1, 0 < x.rest := fun x hx => by
      unfold serveF at hx
      dsimp only at hx
      split at hx
      · rename_i h
        rcases List.mem_append.1 hx with hx | hx
        · exact h2 x hx
        · rw [List.mem_singleton.1 hx]; exact h
      · exact h2 x hx
    have ho : owedL (serveF st c).1 = owedL st.1 + (c.rest - min c.rest st.2) := by
      unfold serveF
      dsimp only
      split
      · rw [owedL_append, owedL_one]
      · omega
    have hlen : (serveF st c).1.length ≤ st.1.length + 1 := by
      unfold serveF
      dsimp only
      split
      · simp
      · omega
    have hn : 0 ≤ (serveF st c).2 := by rw [hst]; omega
    obtain ⟨a1, a2, a3, a4, a5, a6⟩ := serve_fold l (serveF st c) (fun x hx => h1 x (by simp [hx])) hp hn
    rw [List.foldl_cons]
    refine ⟨a1, a2, by omega, ?_, ?_, ?_⟩
    · have : owedL (c :: l) = c.rest + owedL l := by simp [owedL]
      omega
    · by_cases h : (serveF st c).2 = 0
      · exact .inl (by omega)
      · rcases a5 with a5 | a5
        · exact .inl a5
        · right
          rw [a5]
          unfold serveF
          dsimp only
          rw [if_neg (by omega)]
    · rw [List.length_cons]; omega
/-- What serving does: what is left of the worth, and what may still be claimed. -/
theorem serve_is {l : List Cl} {w : Int} (h : ∀ c ∈ l, 0 < c.rest) (hw : 0 ≤ w) : (∀ c ∈ (serveL l w).1, 0 < c.rest) ∧ 0 ≤ (serveL l w).2 ∧ (serveL l w).2 ≤ w ∧ owedL (serveL l w).1 + w = owedL l + (serveL l w).2 ∧ ((serveL l w).2 = 0 ∨ (serveL l w).1 = []) ∧ (serveL l w).1.length ≤ l.length := by
  have := serve_fold l ([], w) h (fun c hc => by cases hc) hw
  unfold serveL
  simpa [owedL] using this
/-- What candidates have had, and their open claims. -/
structure Ac where
  had : List Int
  op : List (List Cl)
def Ac.start : Ac := ⟨List.replicate 8 0, List.replicate 8 []⟩
def worth (x : Ap) : Int := x.secs * x.weight
/-- The claims of the others for what is left of an appearance. -/
def addOne (idx : Nat) (x : Ap) (left : Int) (o : List (List Cl)) (c : Nat) : List (List Cl) := if c = x.cand.toNat then o else o.set c (o.getD c [] ++ [⟨(c : Int), (idx : Int), left, x.at_ + 604800⟩])
def addAll (n idx : Nat) (x : Ap) (left : Int) (o : List (List Cl)) : List (List Cl) := (List.range n).foldl (addOne idx x left) o
def apStep (n idx : Nat) (x : Ap) (s : Ac) : Ac :=
  let c := x.cand.toNat
  let r := serveL (s.op.getD c []) (worth x)
  ⟨s.had.set c (s.had.getD c 0 + worth x), if r.2 = 0 then s.op.set c r.1 else addAll n idx x r.2 (s.op.set c r.1)⟩
/-- The accounts behind the first k appearances. -/
def accK (n : Nat) (l : List Ap) (now : Int) (k : Nat) : Ac := (List.range k).foldl (fun s i => if (l.getD i ⟨0, 0, 0, 0⟩).at_ ≤ now then apStep n i (l.getD i ⟨0, 0, 0, 0⟩) s else s) Ac.start
theorem accK_succ {n : Nat} {l : List Ap} {now : Int} {k : Nat} {x : Ap} (h : l[k]? = some x) : accK n l now (k + 1) = if x.at_ ≤ now then apStep n k x (accK n l now k) else accK n l now k := by
  unfold accK
  rw [List.range_succ, List.foldl_append]
  have e : l.getD k ⟨0, 0, 0, 0⟩ = x := by rw [List.getD_eq_getElem?_getD, h]; rfl
  simp only [List.foldl_cons, List.foldl_nil, e]
def accV (n : Nat) (l : List Ap) (now : Int) : Ac := accK n l now l.length
theorem getD_setL {α : Type} {l : List α} {i : Nat} {x d : α} (hi : i < l.length) (j : Nat) : (l.set i x).getD j d = if j = i then x else l.getD j d := by
  rw [List.getD_eq_getElem?_getD, List.getElem?_set]
  by_cases e : i = j
  · subst e; rw [if_pos rfl, if_pos hi, if_pos rfl]; rfl
  · rw [if_neg e, if_neg (fun h => e h.symm), List.getD_eq_getElem?_getD]
theorem addAll_succ (n idx : Nat) (x : Ap) (left : Int) (o : List (List Cl)) : addAll (n + 1) idx x left o = addOne idx x left (addAll n idx x left o) n := by
  unfold addAll
  rw [List.range_succ, List.foldl_append]
  rfl
theorem addAll_get {idx : Nat} {x : Ap} {left : Int} {o : List (List Cl)} : ∀ n, n ≤ o.length → (addAll n idx x left o).length = o.length ∧ ∀ j, (addAll n idx x left o).getD j [] = if j < n ∧ j ≠ x.cand.toNat then o.getD j [] ++ [⟨(j : Int), (idx : Int), left, x.at_ + 604800⟩] else o.getD j []
  | 0, _ => ⟨rfl, fun j => by rw [if_neg (fun h => by omega)]; rfl⟩
  | n + 1, hn => by
    obtain ⟨ih1, ih2⟩ := addAll_get (idx := idx) (x := x) (left := left) (o := o) n (by omega)
    rw [addAll_succ]
    unfold addOne
    by_cases hc : n = x.cand.toNat
    · rw [if_pos hc]
      refine ⟨ih1, fun j => ?_⟩
      rw [ih2]
      by_cases e : j < n ∧ j ≠ x.cand.toNat
      · rw [if_pos e, if_pos ⟨by omega, e.2⟩]
      · rw [if_neg e, if_neg (fun h => e ⟨by omega, h.2⟩)]
    · rw [if_neg hc]
      refine ⟨by rw [List.length_set]; exact ih1, fun j => ?_⟩
      rw [getD_setL (by omega)]
      by_cases e : j = n
      · subst e
        rw [if_pos rfl, if_pos ⟨by omega, hc⟩, ih2, if_neg (fun h => by omega)]
      · rw [if_neg e, ih2]
        by_cases e2 : j < n ∧ j ≠ x.cand.toNat
        · rw [if_pos e2, if_pos ⟨by omega, e2.2⟩]
        · rw [if_neg e2, if_neg (fun h => e2 ⟨by omega, h.2⟩)]
/-- What candidates have had and what they may claim is, together, the same for all: as much as one of them has had. -/
structure Lev (n : Nat) (s : Ac) (M : Int) : Prop where
  lh : s.had.length = 8
  lo : s.op.length = 8
  pos : ∀ j, ∀ c ∈ s.op.getD j [], 0 < c.rest
  nn : ∀ j, 0 ≤ s.had.getD j 0
  sum : ∀ j, j < n → s.had.getD j 0 + owedL (s.op.getD j []) = M
  top : ∃ j, j < n ∧ s.had.getD j 0 = M
theorem rep_getD {α : Type} (k j : Nat) (x : α) : (List.replicate k x).getD j x = x := by
  rw [List.getD_eq_getElem?_getD, List.getElem?_replicate]
  split <;> rfl
theorem Lev.start {n : Nat} (h : 0 < n) : Lev n Ac.start 0 := by
  have h1 : ∀ j, Ac.start.had.getD j 0 = 0 := fun j => rep_getD 8 j 0
  have h2 : ∀ j, Ac.start.op.getD j [] = [] := fun j => rep_getD 8 j []
  exact ⟨by simp [Ac.start], by simp [Ac.start], fun j c hc => (by rw [h2] at hc; cases hc), fun j => (by rw [h1]; exact Int.le_refl _), fun j _ => (by rw [h1, h2]; rfl), 0, h, h1 0⟩
theorem Lev.step {n idx : Nat} {x : Ap} {s : Ac} {M : Int} (h : Lev n s M) (hn : n ≤ 8) (hc0 : 0 ≤ x.cand) (hc : x.cand < (n : Int)) (hw : 0 < worth x) : ∃ M', Lev n (apStep n idx x s) M' ∧ M' ≤ M + worth x := by
  obtain ⟨c, hcn⟩ : ∃ c, x.cand.toNat = c := ⟨_, rfl⟩
  have hcl : c < n := by omega
  obtain ⟨a1, a2, a3, a4, a5, _⟩ := serve_is (h.pos c) (Int.le_of_lt hw)
  have hsc := h.sum c hcl
  have hho := owedL_nonneg (h.pos c)
  obtain ⟨R, hR⟩ : ∃ R, serveL (s.op.getD c []) (worth x) = R := ⟨_, rfl⟩
  rw [hR] at a1 a2 a3 a4 a5
  have hst : apStep n idx x s = ⟨s.had.set c (s.had.getD c 0 + worth x), if R.2 = 0 then s.op.set c R.1 else addAll n idx x R.2 (s.op.set c R.1)⟩ := by
    unfold apStep
    dsimp only
    rw [hcn, hR]
  have hhad : ∀ j, (s.had.set c (s.had.getD c 0 + worth x)).getD j 0 = if j = c then s.had.getD c 0 + worth x else s.had.getD j 0 := fun j => getD_setL (by rw [h.lh]; omega) j
  have hop : ∀ j, (s.op.set c R.1).getD j [] = if j = c then R.1 else s.op.getD j [] := fun j => getD_setL (by rw [h.lo]; omega) j
  have hnn : ∀ j, 0 ≤ (s.had.set c (s.had.getD c 0 + worth x)).getD j 0 := fun j => by
    rw [hhad]
    split
    · have := h.nn c; omega
    · exact h.nn j
  rw [hst]
  by_cases h0 : R.2 = 0
  · rw [if_pos h0]
    refine ⟨M, ⟨by rw [List.length_set]; exact h.lh, by rw [List.length_set]; exact h.lo, fun j => ?_, hnn, fun j hj => ?_, ?_⟩, by omega⟩
    · dsimp only
      rw [hop]
      split
      · exact a1
      · exact h.pos j
    · dsimp only
      rw [hhad, hop]
      by_cases e : j = c
      · rw [if_pos e, if_pos e]; omega
      · rw [if_neg e, if_neg e]; exact h.sum j hj
    · obtain ⟨t, ht, he⟩ := h.top
      dsimp only
      by_cases e : t = c
      · subst e
        have h4 := owedL_nonneg a1
        omega
      · exact ⟨t, ht, by rw [hhad, if_neg e]; exact he⟩
  · rw [if_neg h0]
    have hR1 : R.1 = [] := a5.resolve_left h0
    rw [hR1] at a4
    have hz : owedL [] = 0 := rfl
    obtain ⟨g1, g2⟩ := addAll_get (idx := idx) (x := x) (left := R.2) (o := s.op.set c R.1) n (by rw [List.length_set, h.lo]; omega)
    have hget : ∀ j, (addAll n idx x R.2 (s.op.set c R.1)).getD j [] = if j = c then [] else if j < n then s.op.getD j [] ++ [⟨(j : Int), (idx : Int), R.2, x.at_ + 604800⟩] else s.op.getD j [] := fun j => by
      rw [g2, hcn, hop]
      by_cases e : j = c
      · rw [if_pos e, if_pos e, if_neg (fun h => h.2 e), hR1]
      · rw [if_neg e, if_neg e]
        by_cases e2 : j < n
        · rw [if_pos ⟨e2, e⟩, if_pos e2]
        · rw [if_neg (fun h => e2 h.1), if_neg e2]
    refine ⟨M + R.2, ⟨by rw [List.length_set]; exact h.lh, by rw [g1, List.length_set]; exact h.lo, fun j => ?_, hnn, fun j hj => ?_, c, hcl, ?_⟩, by omega⟩
    · dsimp only
      rw [hget]
      split
      · intro c hc; cases hc
      · split
        · intro y hy
          rcases List.mem_append.1 hy with hy | hy
          · exact h.pos j y hy
          · rw [List.mem_singleton.1 hy]; dsimp only; omega
        · exact h.pos j
    · dsimp only
      rw [hhad, hget]
      by_cases e : j = c
      · rw [if_pos e, if_pos e]; omega
      · rw [if_neg e, if_neg e, if_pos hj, owedL_append, owedL_one]
        have := h.sum j hj
        dsimp only
        omega
    · dsimp only
      rw [hhad, if_pos rfl]; omega
end Go.Proofs.Ytinhjobjlpkflaa
