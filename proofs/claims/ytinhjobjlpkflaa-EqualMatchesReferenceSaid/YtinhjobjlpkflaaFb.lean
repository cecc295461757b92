/- Layer 13 in plain words: what serving leaves, whose claims are the first ones, accounts before an appearance. -/
import Derived.Test.YtinhjobjlpkflaaEx
import Derived.Test.YtinhjobjlpkflaaEb
namespace Go.Proofs.Ytinhjobjlpkflaa
open Go.RowKit

theorem serveL_cons_le {c : Cl} {l : List Cl} {w : Int} (h : c.rest ≤ w) : serveL (c :: l) w = serveL l (w - c.rest) := by
  unfold serveL
  rw [List.foldl_cons]
  have e : serveF ([], w) c = ([], w - c.rest) := by
    unfold serveF
    dsimp only
    rw [Int.min_eq_left h, if_neg (by omega)]
  rw [e]
theorem serve_zero : ∀ (l a : List Cl), (∀ c ∈ l, 0 < c.rest) → l.foldl serveF (a, 0) = (a ++ l, 0)
  | [], a, _ => by simp
  | c :: l, a, h => by
    have h0 := h c (by simp)
    rw [List.foldl_cons]
    have e : serveF (a, 0) c = (a ++ [c], 0) := by
      unfold serveF
      dsimp only
      rw [Int.min_eq_right (by omega), if_pos (by omega), Int.sub_zero, Int.sub_zero]
    rw [e, serve_zero l _ fun x hx => h x (by simp [hx])]
    simp
theorem serveL_zero {l : List Cl} (h : ∀ c ∈ l, 0 < c.rest) : serveL l 0 = (l, 0) := by
  unfold serveL
  rw [serve_zero l [] h]
  rfl
theorem serveL_cons_lt {c : Cl} {l : List Cl} {w : Int} (h : w < c.rest) (hl : ∀ d ∈ l, 0 < d.rest) : serveL (c :: l) w = (⟨c.cand, c.of_, c.rest - w, c.until_⟩ :: l, 0) := by
  unfold serveL
  rw [List.foldl_cons]
  have e : serveF ([], w) c = ([⟨c.cand, c.of_, c.rest - w, c.until_⟩], 0) := by
    unfold serveF
    dsimp only
    rw [Int.min_eq_right (by omega), if_pos (by omega), Int.sub_self]
    rfl
  rw [e, serve_zero l _ hl]
  rfl
/-- What is left of a list of claims: its last ones, the first of them maybe smaller. -/
theorem serve_shape : ∀ (l : List Cl) (w : Int), (∀ c ∈ l, 0 < c.rest) → 0 ≤ w → ∀ (p : Nat) (d : Cl), (serveL l w).1[p]? = some d →
    ∃ (q : Nat) (d0 : Cl), p ≤ q ∧ l[q]? = some d0 ∧ d.cand = d0.cand ∧ d.of_ = d0.of_ ∧ d.until_ = d0.until_ ∧ d.rest ≤ d0.rest ∧ (0 < p → d = d0)
  | [], w, _, _, p, d, h => by simp [serveL] at h
  | c :: l, w, hp, hw, p, d, h => by
    have h0 := hp c (by simp)
    have hl : ∀ d ∈ l, 0 < d.rest := fun d hd => hp d (by simp [hd])
    by_cases hc : c.rest ≤ w
    · rw [serveL_cons_le hc] at h
      obtain ⟨q, d0, h1, h2, h3⟩ := serve_shape l (w - c.rest) hl (by omega) p d h
      exact ⟨q + 1, d0, by omega, by simpa using h2, h3⟩
    · rw [serveL_cons_lt (by omega) hl] at h
      cases p with
      | zero =>
        simp at h
        subst h
        exact ⟨0, c, Nat.le_refl _, rfl, rfl, rfl, rfl, by dsimp only; omega, fun h => absurd h (Nat.lt_irrefl _)⟩
      | succ p =>
        have h' : l[p]? = some d := by simpa using h
        exact ⟨p + 1, d, Nat.le_refl _, by simpa using h', rfl, rfl, rfl, Int.le_refl _, fun _ => rfl⟩
theorem serve_left {l : List Cl} {w : Int} (h : ∀ c ∈ l, 0 < c.rest) (hw : 0 ≤ w) : (serveL l w).2 = w - min w (owedL l) := by
  obtain ⟨a1, a2, a3, a4, a5, _⟩ := serve_is h hw
  have h1 := owedL_nonneg a1
  rcases a5 with a5 | a5
  · omega
  · rw [a5] at a4
    have : owedL [] = 0 := rfl
    omega
/-- What an appearance leaves when it comes. -/
def leftV (n : Nat) (l : List Ap) (now : Int) (i : Nat) : Int := (serveL ((accK n l now i).op.getD (l.getD i ⟨0, 0, 0, 0⟩).cand.toNat []) (worth (l.getD i ⟨0, 0, 0, 0⟩))).2
theorem op_step {n idx : Nat} {x : Ap} {s : Ac} (lo : s.op.length = 8) (hn : n ≤ 8) {c : Nat} (hc : x.cand.toNat = c) (hcl : c < n) {R : List Cl × Int} (hR : serveL (s.op.getD c []) (worth x) = R) (j : Nat) :
    (apStep n idx x s).op.getD j [] = if j = c then R.1 else if R.2 = 0 ∨ ¬ j < n then s.op.getD j [] else s.op.getD j [] ++ [⟨(j : Int), (idx : Int), R.2, x.at_ + 604800⟩] := by
  have hst : (apStep n idx x s).op = if R.2 = 0 then s.op.set c R.1 else addAll n idx x R.2 (s.op.set c R.1) := by
    unfold apStep
    dsimp only
    rw [hc, hR]
  have hop : ∀ j, (s.op.set c R.1).getD j [] = if j = c then R.1 else s.op.getD j [] := fun j => getD_setL (by omega) j
  rw [hst]
  by_cases h0 : R.2 = 0
  · rw [if_pos h0, hop]
    split
    · rfl
    · rw [if_pos (.inl h0)]
  · rw [if_neg h0, (addAll_get (idx := idx) (x := x) (left := R.2) (o := s.op.set c R.1) n (by rw [List.length_set]; omega)).2, hc, hop]
    by_cases e : j = c
    · rw [if_pos e, if_pos e, if_neg (fun h => h.2 e)]
    · rw [if_neg e, if_neg e]
      by_cases e2 : j < n
      · rw [if_pos ⟨e2, e⟩, if_neg (fun h => h.elim h0 fun h => h e2)]
      · rw [if_neg (fun h => e2 h.1), if_pos (.inr e2)]
/-- Of the open claims of a candidate all but the first are whole. -/
structure Old (n : Nat) (l : List Ap) (now : Int) (k : Nat) (s : Ac) : Prop where
  no : ∀ j, n ≤ j → s.op.getD j [] = []
  cl : ∀ (j p : Nat) (d : Cl), (s.op.getD j [])[p]? = some d → ∃ (i : Nat) (q : Ap), d.of_ = (i : Int) ∧ i < k ∧ l[i]? = some q ∧ q.at_ ≤ now ∧ d.until_ = q.at_ + 604800 ∧ q.cand ≠ (j : Int) ∧ d.rest ≤ leftV n l now i ∧ (0 < p → d.rest = leftV n l now i)
theorem Old.start (n : Nat) (l : List Ap) (now : Int) : Old n l now 0 Ac.start :=
  have h2 : ∀ j, Ac.start.op.getD j [] = [] := fun j => rep_getD 8 j []
  ⟨fun j _ => h2 j, fun j p d h => by rw [h2] at h; simp at h⟩
theorem Old.more {n : Nat} {l : List Ap} {now : Int} {k : Nat} {s : Ac} (h : Old n l now k s) : Old n l now (k + 1) s :=
  ⟨h.no, fun j p d hd => by
    obtain ⟨i, q, h1, h2, h3⟩ := h.cl j p d hd
    exact ⟨i, q, h1, by omega, h3⟩⟩
theorem Old.step {n : Nat} {l : List Ap} {now : Int} {k : Nat} {x : Ap} (hk : AcOk n k (accK n l now k)) (h : Old n l now k (accK n l now k)) (hn : n ≤ 8) (hx : okAp (n : Int) x = true) (hq : l[k]? = some x) (hat : x.at_ ≤ now) : Old n l now (k + 1) (apStep n k x (accK n l now k)) := by
  obtain ⟨M, hM, _⟩ := hk.lev
  obtain ⟨p1, p2, _⟩ := okAp_parts hx
  obtain ⟨w1, w2⟩ := worth_bound hx
  obtain ⟨c, hcn⟩ : ∃ c, x.cand.toNat = c := ⟨_, rfl⟩
  have hcl : c < n := by omega
  obtain ⟨R, hR⟩ : ∃ R, serveL ((accK n l now k).op.getD c []) (worth x) = R := ⟨_, rfl⟩
  have hst := op_step (idx := k) hM.lo hn hcn hcl hR
  have hlv : leftV n l now k = R.2 := by
    unfold leftV
    rw [ap_getD hq, hcn, hR]
  refine ⟨fun j hj => ?_, fun j p d hd => ?_⟩
  · rw [hst, if_neg (by omega), if_pos (.inr (by omega))]
    exact h.no j hj
  · rw [hst] at hd
    split at hd
    · rename_i e
      rw [← hR] at hd
      obtain ⟨q, d0, h1, h2, h3, h4, h5, h6, h7⟩ := serve_shape _ _ (hM.pos c) (by omega) p d hd
      obtain ⟨i, y, g1, g2, g3, g4, g5, g6, g7, g8⟩ := h.cl c q d0 h2
      refine ⟨i, y, by omega, by omega, g3, g4, by omega, by rw [e]; exact g6, by omega, fun hp => ?_⟩
      have := g8 (by omega)
      have := h7 hp
      subst this
      assumption
    · rename_i e
      split at hd
      · obtain ⟨i, y, g1, g2, g3⟩ := h.cl j p d hd
        exact ⟨i, y, g1, by omega, g3⟩
      · by_cases hp : p < ((accK n l now k).op.getD j []).length
        · rw [List.getElem?_append_left hp] at hd
          obtain ⟨i, y, g1, g2, g3⟩ := h.cl j p d hd
          exact ⟨i, y, g1, by omega, g3⟩
        · rw [List.getElem?_append_right (by omega)] at hd
          have hd' : p - ((accK n l now k).op.getD j []).length < 1 := (List.getElem?_eq_some_iff.1 hd).1
          rw [show p - ((accK n l now k).op.getD j []).length = 0 by omega] at hd
          simp at hd
          subst hd
          dsimp only
          exact ⟨k, x, rfl, by omega, hq, hat, rfl, by omega, by rw [hlv]; exact Int.le_refl _, fun _ => hlv.symm⟩
theorem old_ok {n : Nat} {l : List Ap} {now : Int} (hn : 2 ≤ n) (hn8 : n ≤ 8) (h : apsK (n : Int) l l.length = true) : ∀ k, k ≤ l.length → Old n l now k (accK n l now k)
  | 0, _ => Old.start n l now
  | k + 1, hk => by
    have ih := old_ok (now := now) hn hn8 h k (by omega)
    have hq : l[k]? = some l[k] := List.getElem?_eq_getElem (by omega)
    have ha := acc_ok (now := now) hn hn8 h k (by omega)
    rw [accK_succ hq]
    split
    · rename_i hat
      exact Old.step ha ih hn8 (aps_at h hq) hq hat
    · exact ih.more
/-- Appearances that both seconds have before them make the same accounts. -/
theorem accK_same {n : Nat} {l m : List Ap} {now now' : Int} : ∀ k, (∀ i, i < k → ∃ x, l[i]? = some x ∧ m[i]? = some x ∧ (x.at_ ≤ now ↔ x.at_ ≤ now')) → accK n l now k = accK n m now' k
  | 0, _ => rfl
  | k + 1, h => by
    have ih := accK_same (n := n) k fun i hi => h i (by omega)
    obtain ⟨x, h1, h2, h3⟩ := h k (by omega)
    rw [accK_succ h1, accK_succ h2, ih]
    by_cases c : x.at_ ≤ now
    · rw [if_pos c, if_pos (h3.1 c)]
    · rw [if_neg c, if_neg (fun e => c (h3.2 e))]
theorem accK_rest {n : Nat} {l : List Ap} {now : Int} {i : Nat} : ∀ k, i ≤ k → k ≤ l.length → (∀ j x, i ≤ j → l[j]? = some x → now < x.at_) → accK n l now k = accK n l now i
  | 0, h1, _, _ => by rw [show i = 0 by omega]
  | k + 1, h1, h2, h => by
    by_cases e : i = k + 1
    · rw [e]
    · have ih := accK_rest (n := n) (now := now) k (by omega) (by omega) h
      have hq : l[k]? = some l[k] := List.getElem?_eq_getElem (by omega)
      have := h k l[k] (by omega) hq
      rw [accK_succ hq, if_neg (by omega), ih]
theorem aps_pair {n : Int} {l : List Ap} (h : apsK n l l.length = true) : ∀ (d i : Nat) (x y : Ap), l[i]? = some x → l[i + d + 1]? = some y → x.at_ < y.at_
  | 0, i, x, y, hx, hy => aps_asc h hx hy
  | d + 1, i, x, y, hx, hy => by
    have hl := (List.getElem?_eq_some_iff.1 hy).1
    have hq : l[i + d + 1]? = some l[i + d + 1] := List.getElem?_eq_getElem (by omega)
    have h1 := aps_pair h d i x _ hx hq
    have h2 := aps_asc h hq (show l[i + d + 1 + 1]? = some y from hy)
    omega
theorem aps_lt {n : Int} {l : List Ap} (h : apsK n l l.length = true) {i j : Nat} {x y : Ap} (hij : i < j) (hx : l[i]? = some x) (hy : l[j]? = some y) : x.at_ < y.at_ :=
  aps_pair h (j - i - 1) i x y hx (by rw [show i + (j - i - 1) + 1 = j by omega]; exact hy)
/-- The accounts when an appearance comes. -/
theorem acc_before {n : Nat} {l : List Ap} {now : Int} (h : apsK (n : Int) l l.length = true) {i : Nat} {x : Ap} (hx : l[i]? = some x) (hat : x.at_ ≤ now) : accV n l (x.at_ - 1) = accK n l now i := by
  have hil := (List.getElem?_eq_some_iff.1 hx).1
  unfold accV
  rw [accK_rest (n := n) (i := i) l.length (by omega) (Nat.le_refl _) (fun j y hj hy => ?_)]
  · refine accK_same i fun j hj => ?_
    have hq : l[j]? = some l[j] := List.getElem?_eq_getElem (by omega)
    have := aps_lt h hj hq hx
    exact ⟨_, hq, hq, by omega⟩
  · by_cases e : i = j
    · subst e
      rw [hx] at hy
      obtain rfl := Option.some.inj hy
      omega
    · have := aps_lt h (show i < j by omega) hx hy
      omega
end Go.Proofs.Ytinhjobjlpkflaa
