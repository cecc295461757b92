/- Contracts of Sum, Leaf, Node and Chain. -/
import Derived.Test.YtnbhhhbmeafkaaaDoorDh
namespace Go.Proofs.YtnbhhhbmeafkaaaDoor
open Go.RowKit

theorem strs_new (w : World) (ps : List (List UInt8)) (cs : Array Value) (n : Nat) (h : cs.toList = ps.map strOf) (hn : ps.length = n) (h2 : n ≤ 1000) :
    Strs (w.alloc (.cells cs 9)) (w.alloc (.cells cs 9)).heap.size (.slice (some ⟨w.heap.size, 0, none⟩) n n) ps := by
  subst hn
  refine ⟨_, _, rfl, Nat.le_refl _, by unfold maxLen; omega, .inr ⟨w.heap.size, 0, rfl, by simp, fun j s hj => ?_⟩⟩
  rw [Nat.zero_add, cell_of_row _ _ j cs 9 (0, 0) (heap_alloc_new w _), ← Array.getElem?_toList, h, List.getElem?_map, hj]; rfl

set_option maxHeartbeats 400000 in
theorem sum_any (l : List UInt8) (w : World) (hl : l.length ≤ 549755813888) (ht : TabOk w) :
    Calls Tryd.prog 13 #[strOf l] w fun e w' => e = .returned (strOf (Dm.sha l)) ∧ Below w.heap.size w w' := by
  have h1 := sumOf_any _ [l] (by simp; omega) _ (strs_new w [l] #[strOf l] 1 rfl rfl (by omega)) (ht.next ((Below.refl _ w).alloc (Nat.le_refl _) _))
  rw [show [l].flatten = l from by simp] at h1
  have H1 := Lib.hid h1
  clear h1
  go_enter Tryd.func13, Tryd.ntmps13
  go_wp2_with (go_at_call 40; refine H1.out.mono ?_; rintro e w' ⟨rfl, hb⟩)
  go_ret
  exact ⟨rfl, ((Below.refl _ w).alloc (Nat.le_refl _) _).trans (hb.mono (by simp))⟩

set_option maxHeartbeats 400000 in
theorem leaf_any (l : List UInt8) (w : World) (hl : l.length ≤ 549755813888) (ht : TabOk w) :
    Calls Tryd.prog 15 #[strOf l] w fun e w' => e = .returned (strOf (Dm.sha (0 :: l))) ∧ Below w.heap.size w w' := by
  have h1 := sumOf_any _ [[0], l] (by simp; omega) _ (strs_new w [[0], l] #[.string ⟨#[0]⟩, strOf l] 2 rfl rfl (by omega)) (ht.next ((Below.refl _ w).alloc (Nat.le_refl _) _))
  rw [show [[0], l].flatten = 0 :: l from by simp] at h1
  have H1 := Lib.hid h1
  clear h1
  go_enter Tryd.func15, Tryd.ntmps15
  go_wp2_with (go_at_call 40; refine H1.out.mono ?_; rintro e w' ⟨rfl, hb⟩)
  go_ret
  exact ⟨rfl, ((Below.refl _ w).alloc (Nat.le_refl _) _).trans (hb.mono (by simp))⟩

set_option maxHeartbeats 400000 in
theorem node_any (a b : List UInt8) (w : World) (hl : a.length + b.length ≤ 549755813888) (ht : TabOk w) :
    Calls Tryd.prog 17 #[strOf a, strOf b] w fun e w' => e = .returned (strOf (Dm.sha (1 :: (a ++ b)))) ∧ Below w.heap.size w w' := by
  have h1 := sumOf_any _ [[1], a, b] (by simp; omega) _ (strs_new w [[1], a, b] #[.string ⟨#[1]⟩, strOf a, strOf b] 3 rfl rfl (by omega)) (ht.next ((Below.refl _ w).alloc (Nat.le_refl _) _))
  rw [show [[1], a, b].flatten = 1 :: (a ++ b) from by simp] at h1
  have H1 := Lib.hid h1
  clear h1
  go_enter Tryd.func17, Tryd.ntmps17
  go_wp2_with (go_at_call 40; refine H1.out.mono ?_; rintro e w' ⟨rfl, hb⟩)
  go_ret
  exact ⟨rfl, ((Below.refl _ w).alloc (Nat.le_refl _) _).trans (hb.mono (by simp))⟩

set_option maxHeartbeats 400000 in
theorem chain_any (a b : List UInt8) (w : World) (hl : a.length + b.length ≤ 549755813888) (ht : TabOk w) :
    Calls Tryd.prog 19 #[strOf a, strOf b] w fun e w' => e = .returned (strOf (Dm.sha (2 :: (a ++ b)))) ∧ Below w.heap.size w w' := by
  have h1 := sumOf_any _ [[2], a, b] (by simp; omega) _ (strs_new w [[2], a, b] #[.string ⟨#[2]⟩, strOf a, strOf b] 3 rfl rfl (by omega)) (ht.next ((Below.refl _ w).alloc (Nat.le_refl _) _))
  rw [show [[2], a, b].flatten = 2 :: (a ++ b) from by simp] at h1
  have H1 := Lib.hid h1
  clear h1
  go_enter Tryd.func19, Tryd.ntmps19
  go_wp2_with (go_at_call 40; refine H1.out.mono ?_; rintro e w' ⟨rfl, hb⟩)
  go_ret
  exact ⟨rfl, ((Below.refl _ w).alloc (Nat.le_refl _) _).trans (hb.mono (by simp))⟩
end Go.Proofs.YtnbhhhbmeafkaaaDoor
