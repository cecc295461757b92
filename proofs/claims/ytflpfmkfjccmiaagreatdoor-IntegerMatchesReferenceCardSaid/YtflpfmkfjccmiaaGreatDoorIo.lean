/- Contract of over's function: whether a multiple of the divisor fits into the rest. -/
import Derived.Test.YtflpfmkfjccmiaaGreatDoorIn
namespace Go.Proofs.YtflpfmkfjccmiaaGreatDoor
open Go.RowKit Go.Shelf

theorem sg_leq (a b : Nat) : decide (sg (a : Int) (b : Int) ≤ 0) = decide (a ≤ b) := by
  rcases Nat.lt_trichotomy a b with h | h | h
  · rw [sg_lt (by omega), decide_eq_true (by omega), decide_eq_true (by omega)]
  · rw [sg_eq (by omega), decide_eq_true (by omega), decide_eq_true (by omega)]
  · rw [sg_gt (by omega), decide_eq_false (by omega), decide_eq_false (by omega)]
theorem hold2 {w W W' : World} {p q : Addr} {x y : Value} (h : Below w.heap.size w W ∧ W.cell? p = some x ∧ W.cell? q = some y) (hb : Below W.heap.size W W') (hp : p.block < w.heap.size) (hq : q.block < w.heap.size) :
    Below w.heap.size w W' ∧ W'.cell? p = some x ∧ W'.cell? q = some y :=
  ⟨below_to h.1 hb, (hb.cell (Nat.lt_of_lt_of_le hp h.1.size)).trans h.2.1, (hb.cell (Nat.lt_of_lt_of_le hq h.1.size)).trans h.2.2⟩

set_option maxRecDepth 100000 in
set_option maxHeartbeats 1000000 in
theorem over1_any (vd vr : Value) (d r g Bm Br : Nat) (w : World) (hd : Mag w vd d) (hr : Mag w vr r) (hm : Row w Bm 90 #[.func (.func 78) #[vd] #[]]) (hb : Row w Br 45 #[vr])
    (ld : (Im.grp d).length ≤ 300) (hg : g < 10000) :
    Calls Tryz.prog 81 #[.int .i64 (g : Int), .pointer (some ⟨Bm, 0, none⟩), .pointer (some ⟨Br, 0, none⟩)] w fun e w' => e = .returned (.bool (decide (d * g ≤ r))) ∧ Below w.heap.size w w' := by
  have H1 := Lib.hid (fun u (hu : Below w.heap.size w u) => timesGroup_any vd d g u (hd.next hu) (by omega) hg)
  have H2 := Lib.hid (fun u v (hv : Mag u v (d * g)) (hu : Below w.heap.size w u) => compare_any v vr (d * g) r u hv (hr.next hu))
  have c1 := hm.cell 0
  have c2 := hb.cell 0
  have l1 := hm.lt; have l2 := hb.lt
  simp only [List.getElem?_toArray, List.getElem?_cons_zero] at c1 c2
  have HE := Lib.hid (sg_leq (d * g) r)
  clear hd hr hm hb
  go_enter Tryz.func81, Tryz.ntmps81
  go_wp2
  go_region_held3 (fun w' => Below w.heap.size w w' ∧ w'.cell? ⟨Bm, 0, none⟩ = some (.func (.func 78) #[vd] #[]) ∧ w'.cell? ⟨Br, 0, none⟩ = some vr) (first | assumption | (exact ⟨Below.drew (Below.refl _ _), c1, c2⟩) | (exact hold2 (by assumption) b5 l1 l2)) (first | (go_at_call 78; ((with_reducible refine Calls.mono (H1.out _ ?h1) ?_); (case h1 => exact (‹Below w.heap.size w _ ∧ _ ∧ _›).1); unfold MagPost; rintro e w7 ⟨v1, rfl, hm1, b5⟩)) | (go_at_call 56; ((with_reducible refine Calls.mono (H2.out _ _ ?h1 ?h2) ?_); (case h1 => assumption); (case h2 => exact (‹Below w.heap.size w _ ∧ _ ∧ _›).1); rintro e w8 ⟨rfl, b5⟩)))
  all_goals
    go_wp2
    go_ret
    exact ⟨by rw [← HE.out]; rfl, (‹Below w.heap.size w _ ∧ _ ∧ _›).1⟩
end Go.Proofs.YtflpfmkfjccmiaaGreatDoor
