/- EqualLater in plain words. -/
import Derived.Test.YtinhjobjlpkflaaFd
namespace Go.Proofs.Ytinhjobjlpkflaa
open Go.RowKit

theorem accV_take {n : Nat} {l : List Ap} {now : Int} {k : Nat} (hk : k ≤ l.length) (h2 : ∀ i x, k ≤ i → l[i]? = some x → now < x.at_) : accV n l now = accV n (l.take k) now := by
  unfold accV
  rw [accK_rest (n := n) (i := k) l.length hk (Nat.le_refl _) h2, List.length_take, Nat.min_eq_left hk]
  refine accK_same k fun i hi => ?_
  have hq : l[i]? = some l[i] := List.getElem?_eq_getElem (by omega)
  exact ⟨_, hq, by rw [List.getElem?_take_of_lt hi]; exact hq, Iff.rfl⟩
theorem accV_later {n : Nat} {l : List Ap} {now now' : Int} (h : ∀ x ∈ l, x.at_ ≤ now) (hn : now ≤ now') : accV n l now = accV n l now' := by
  unfold accV
  refine accK_same _ fun i hi => ?_
  have hq : l[i]? = some l[i] := List.getElem?_eq_getElem hi
  have := h _ (List.getElem_mem hi)
  exact ⟨_, hq, hq, by omega⟩
theorem aps_take {n : Int} {l : List Ap} (h : apsK n l l.length = true) (k : Nat) : apsK n (l.take k) (l.take k).length = true := by
  refine aps_of (fun x hx => ?_) ?_
  · obtain ⟨j, hj⟩ := List.mem_iff_getElem?.1 (List.mem_of_mem_take hx)
    exact aps_at h hj
  · rw [List.pairwise_iff_getElem]
    intro i j hi hj hij
    rw [List.length_take] at hi hj
    rw [List.getElem_take, List.getElem_take]
    exact aps_lt h hij (List.getElem?_eq_getElem (by omega)) (List.getElem?_eq_getElem (by omega))
theorem filter_pre {c : List Cl} (t : Int) (hp : c.Pairwise fun x y => x.until_ ≤ y.until_) : c.filter (late t) = c.take (c.filter (late t)).length := by
  induction c with
  | nil => rfl
  | cons x c ih =>
    obtain ⟨h1, h2⟩ := List.pairwise_cons.1 hp
    by_cases h : late t x = true
    · rw [List.filter_cons_of_pos h, List.length_cons, List.take_succ_cons, ← ih h2]
    · have : c.filter (late t) = [] := List.filter_eq_nil_iff.2 fun y hy => by
        have := h1 y hy
        unfold late at h ⊢
        rw [decide_eq_true_eq] at h ⊢
        omega
      rw [List.filter_cons_of_neg h, this]
      rfl
theorem cl_until {n : Nat} {l : List Ap} {now : Int} (hn : 2 ≤ n) (hn8 : n ≤ 8) (h : apsK (n : Int) l l.length = true) : (clV n l now).Pairwise fun x y => x.until_ ≤ y.until_ := by
  have hc := (cl_ok (now := now) hn hn8 h).srt
  rw [List.pairwise_iff_getElem] at hc ⊢
  intro i j hi hj hij
  have h1 := hc i j hi hj hij
  obtain ⟨j1, p, q, _, _, a1, a2, a3, _, _, a4, _⟩ := oldest hn hn8 h (List.getElem?_eq_getElem hi)
  obtain ⟨j2, p', q', _, _, b1, b2, b3, _, _, b4, _⟩ := oldest hn hn8 h (List.getElem?_eq_getElem hj)
  by_cases e : p = p'
  · subst e
    rw [a3] at b3
    obtain rfl := Option.some.inj b3
    omega
  · have := aps_lt h (show p < p' by omega) a3 b3
    omega
theorem late_mono {c : List Cl} {t t' : Int} (h : t ≤ t') : (c.filter (late t)).length ≤ (c.filter (late t')).length := by
  rw [← List.countP_eq_length_filter, ← List.countP_eq_length_filter]
  exact List.countP_mono_left fun x _ hx => by
    unfold late at hx ⊢
    rw [decide_eq_true_eq] at hx ⊢
    omega
theorem valid_take {m : Nat} {l : List Ap} (h : validA (m : Int) l = true) (k : Nat) : validA (m : Int) (l.take k) = true := by
  obtain ⟨h1, h2, h3, h4⟩ := validA_parts h
  unfold validA
  rw [aps_take h4 k]
  simp only [Bool.and_true, Bool.and_eq_true, decide_eq_true_eq, List.length_take]
  omega
/-- EqualLater in plain words. -/
theorem later_is {n : Nat} {l : List Ap} {now : Int} {k : Nat} (hn : 2 ≤ n) (hn8 : n ≤ 8) (h : apsK (n : Int) l l.length = true) (hk : k ≤ l.length) (h1 : ∀ i x, i < k → l[i]? = some x → x.at_ ≤ now) (h2 : ∀ i x, k ≤ i → l[i]? = some x → now < x.at_) {p q : Int} (hp : 0 ≤ p) (hq : 0 ≤ q) :
    clV n l now = clV n (l.take k) now ∧ owV n l now = owV n (l.take k) now ∧
      ((clV n (l.take k) (now + p)).filter (late (now + p))).length ≤ ((clV n (l.take k) (now + p + q)).filter (late (now + p + q))).length ∧
      ((clV n (l.take k) (now + p + q)).filter (late (now + p + q))).length ≤ (clV n (l.take k) (now + p)).length ∧
      ((clV n (l.take k) (now + p + q)).filter (late (now + p + q))).take ((clV n (l.take k) (now + p)).filter (late (now + p))).length = (clV n (l.take k) (now + p)).filter (late (now + p)) ∧
      (clV n (l.take k) (now + p)).take ((clV n (l.take k) (now + p + q)).filter (late (now + p + q))).length = (clV n (l.take k) (now + p + q)).filter (late (now + p + q)) := by
  have e := accV_take (n := n) hk h2
  have hle : ∀ x ∈ l.take k, x.at_ ≤ now := fun x hx => by
    obtain ⟨i, hi⟩ := List.mem_iff_getElem?.1 hx
    have hik : i < k := by have := (List.getElem?_eq_some_iff.1 hi).1; rw [List.length_take] at this; omega
    rw [List.getElem?_take_of_lt hik] at hi
    exact h1 i x hik hi
  have e2 : clV n (l.take k) (now + p + q) = clV n (l.take k) (now + p) := by
    unfold clV
    rw [← accV_later hle (show now ≤ now + p + q by omega), ← accV_later hle (show now ≤ now + p by omega)]
  have hu := cl_until (now := now + p) hn hn8 (aps_take h k)
  refine ⟨by unfold clV; rw [e], by unfold owV; rw [e], ?_⟩
  rw [e2]
  generalize clV n (l.take k) (now + p) = c at *
  have f1 := filter_pre (now + p) hu
  have f2 := filter_pre (now + p + q) hu
  have f3 := late_mono (c := c) (show now + p ≤ now + p + q by omega)
  refine ⟨f3, List.length_filter_le _ _, ?_, f2.symm⟩
  rw [f2, List.take_take, Nat.min_eq_left f3]
  exact f1.symm
end Go.Proofs.Ytinhjobjlpkflaa
