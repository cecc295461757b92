/- Plain mathematics of cuts: their order, their lengths. -/
import Derived.Test.YtnmhigjannihgaaIb
namespace Go.Proofs.Ytnmhigjannihgaa

/-- The first index that a longer cut may have behind those of a cut. -/
def nextI (c : List Nat) : Nat := match c.getLast? with
  | some k => k + 1
  | none => 0
def longL (n : Nat) (c : List Nat) : List (List Nat) := (List.range (n - nextI c)).map fun i => c ++ [nextI c + i]
def bfs (n : Nat) : Nat → List (List Nat) → List (List Nat)
  | 0, _ => []
  | _ + 1, [] => []
  | f + 1, c :: q => c :: bfs n f (q ++ longL n c)
def cutsL (n : Nat) : List (List Nat) := bfs n 17 [[]]
theorem bfs_cons (n f : Nat) (c : List Nat) (q : List (List Nat)) : bfs n (f + 1) (c :: q) = c :: bfs n f (q ++ longL n c) := rfl
theorem bfs_nil (n f : Nat) : bfs n f [] = [] := by cases f <;> rfl
/-- A cut of n trims: its indices ascend and are below n. -/
def ascB (n : Nat) : Nat → List Nat → Bool
  | _, [] => true
  | a, k :: c => decide (a ≤ k) && decide (k < n) && ascB n (k + 1) c
def isCutN (n : Nat) (c : List Nat) : Bool := ascB n 0 c
/-- All cuts of at most four trims, by the bits of a number. -/
def bitsL (n set : Nat) : List Nat := (List.range n).filter fun k => set.testBit k
/-- Is a cut preferred? -/
def befB : List Nat → List Nat → Bool
  | a, b => if a.length = b.length then lexB a b else decide (a.length < b.length)
where lexB : List Nat → List Nat → Bool
  | x :: a, y :: b => if x = y then lexB a b else decide (x < y)
  | _, _ => false
theorem cuts_all : ∀ n : Fin 5, (∀ c ∈ cutsL n.val, isCutN n.val c = true) ∧ (∀ set : Fin 16, bitsL n.val set.val ∈ cutsL n.val) ∧ (cutsL n.val).Pairwise (fun a b => befB b a = false) ∧ (cutsL n.val).length = 2 ^ n.val := by decide +kernel
theorem cuts_done : ∀ n : Fin 5, bfs n.val 17 [[]] = bfs n.val 16 [[]] ∧ (bfs n.val 16 [[]]).length ≤ 16 := by decide +kernel
/-- The cuts of n trims are those by bits. -/
theorem cuts_bits : ∀ n : Fin 5, ∀ c ∈ cutsL n.val, ∃ set : Fin 16, bitsL n.val set.val = c := by decide +kernel
/-- What a cut leaves out. -/
def goneL (trims : List (Int × Int)) (c : List Nat) : List (Int × Int) := c.filterMap fun k => trims[k]?
theorem part_at {len : Int} {trims : List (Int × Int)} (ht : partsF len 0 trims) {k : Nat} {q : Int × Int} (hk : trims[k]? = some q) : 0 ≤ q.1 ∧ q.1 < q.2 ∧ q.2 ≤ len ∧ ∀ (j : Nat) (r : Int × Int), k < j → trims[j]? = some r → q.2 ≤ r.1 := by
  have gen : ∀ (l : List (Int × Int)) (e : Int) (k : Nat), partsF len e l → l[k]? = some q → e ≤ q.1 ∧ q.1 < q.2 ∧ q.2 ≤ len ∧ ∀ j r, k < j → l[j]? = some r → q.2 ≤ r.1 := by
    intro l
    induction l with
    | nil => intro e k _ h; cases h
    | cons p l ih =>
      intro e k h hk
      obtain ⟨h1, h2, h3, h4⟩ := h
      have low : ∀ (l : List (Int × Int)) (e : Int), partsF len e l → ∀ (j : Nat) (r : Int × Int), l[j]? = some r → e ≤ r.1 := by
        intro l
        induction l with
        | nil => intro e _ j r h; cases h
        | cons p l ih =>
          intro e h j r hr
          obtain ⟨h1, h2, h3, h4⟩ := h
          cases j with
          | zero => cases hr; exact h1
          | succ j => have := ih _ h4 j r hr; omega
      cases k with
      | zero =>
        cases hk
        refine ⟨h1, h2, h3, fun j r hj hr => ?_⟩
        obtain ⟨i, rfl⟩ : ∃ i, j = i + 1 := ⟨j - 1, by omega⟩
        exact low l _ h4 i r hr
      | succ k =>
        obtain ⟨a, b, c, d⟩ := ih _ k h4 hk
        refine ⟨by omega, b, c, fun j r hj hr => ?_⟩
        obtain ⟨i, rfl⟩ : ∃ i, j = i + 1 := ⟨j - 1, by omega⟩
        exact d i r (by omega) hr
  exact gen trims 0 k ht hk
theorem gone_parts {len : Int} {trims : List (Int × Int)} (ht : partsF len 0 trims) : ∀ (c : List Nat) (a : Nat) (e : Int), ascB trims.length a c = true → (∀ k q, a ≤ k → trims[k]? = some q → e ≤ q.1) → partsF len e (goneL trims c)
  | [], _, _, _, _ => trivial
  | k :: c, a, e, h, he => by
    have h' : (decide (a ≤ k) && decide (k < trims.length) && ascB trims.length (k + 1) c) = true := h
    rw [Bool.and_eq_true, Bool.and_eq_true, decide_eq_true_eq, decide_eq_true_eq] at h'
    obtain ⟨⟨h1, h2⟩, h3⟩ := h'
    have hk : trims[k]? = some trims[k] := List.getElem?_eq_getElem h2
    have hs := part_at ht hk
    have e1 : goneL trims (k :: c) = trims[k] :: goneL trims c := by unfold goneL; rw [List.filterMap_cons, hk]
    rw [e1]
    exact ⟨he k _ h1 hk, hs.2.1, hs.2.2.1, gone_parts ht c (k + 1) _ h3 (fun j q hj hq => hs.2.2.2 j q (by omega) hq)⟩
theorem gone_ok {len : Int} {trims : List (Int × Int)} (ht : partsF len 0 trims) {c : List Nat} (hc : isCutN trims.length c = true) : partsF len 0 (goneL trims c) :=
  gone_parts ht c 0 0 hc (fun _ _ _ hq => (part_at ht hq).1)
/-- The length of the shortened recording. -/
def lenC (len : Int) (trims : List (Int × Int)) (c : List Nat) : Int := bef len (goneL trims c)
theorem lenC_eq {len : Int} {trims : List (Int × Int)} (ht : partsF len 0 trims) {c : List Nat} (hc : isCutN trims.length c = true) : lenC len trims c = len - tot (goneL trims c) := bef_len (gone_ok ht hc)
theorem tot_pos {len : Int} : ∀ {l : List (Int × Int)} {e : Int}, partsF len e l → 0 ≤ tot l
  | [], _, _ => Int.le_refl _
  | q :: l, e, h => by
    have := tot_pos h.2.2.2
    have h2 := h.2.1
    simp only [tot]; omega
/-- The seconds of what one cut and the other leave out, together all. -/
theorem tot_bits (trims : List (Int × Int)) : ∀ (n set : Nat), n ≤ trims.length → tot (goneL trims (bitsL n set)) = ((List.range n).map fun k => if set.testBit k then (trims[k]?.getD (0, 0)).2 - (trims[k]?.getD (0, 0)).1 else 0).sum := by
  intro n set
  induction n with
  | zero => intro _; rfl
  | succ n ih =>
    intro hn
    have e1 : bitsL (n + 1) set = bitsL n set ++ (if set.testBit n then [n] else []) := by
      unfold bitsL
      rw [List.range_succ, List.filter_append]
      congr 1
      by_cases h : set.testBit n = true <;> simp [h]
    have e2 : goneL trims (bitsL (n + 1) set) = goneL trims (bitsL n set) ++ goneL trims (if set.testBit n then [n] else []) := by
      rw [e1]; unfold goneL; rw [List.filterMap_append]
    rw [e2, tot_append, ih (by omega), List.range_succ, List.map_append, List.sum_append]
    congr 1
    by_cases h : set.testBit n = true
    · rw [if_pos h]
      have hk : trims[n]? = some trims[n] := List.getElem?_eq_getElem (by omega)
      simp [goneL, hk, h, tot]
    · rw [if_neg h]
      simp [goneL, h, tot]
end Go.Proofs.Ytnmhigjannihgaa
