/- Contract of plus of numbers. -/
import Derived.Test.YtflpfmkfjccmiaaGreatDoorJc
namespace Go.Proofs.YtflpfmkfjccmiaaGreatDoor
open Go.RowKit

theorem add_same (a b : Int) (f : Bool) (h1 : f = decide (a < 0)) (h2 : f = decide (b < 0)) : (if f = true then -((a.natAbs + b.natAbs : Nat) : Int) else ((a.natAbs + b.natAbs : Nat) : Int)) = a + b := by
  by_cases h : a < 0
  · rw [decide_eq_true h] at h1
    subst h1
    have hb : b < 0 := of_decide_eq_true h2.symm
    rw [if_pos rfl]; omega
  · rw [decide_eq_false h] at h1
    subst h1
    have hb : ¬ b < 0 := of_decide_eq_false h2.symm
    rw [if_neg (by decide)]; omega
theorem add_less (a b : Int) (f g : Bool) (h1 : f = decide (a < 0)) (h2 : g = decide (b < 0)) (hn : f ≠ g) (hl : a.natAbs < b.natAbs) : (if g = true then -((b.natAbs - a.natAbs : Nat) : Int) else ((b.natAbs - a.natAbs : Nat) : Int)) = a + b := by
  by_cases h : b < 0
  · rw [decide_eq_true h] at h2
    subst h2
    have ha : ¬ a < 0 := fun e => hn (by rw [h1, decide_eq_true e])
    rw [if_pos rfl]; omega
  · rw [decide_eq_false h] at h2
    subst h2
    have ha : a < 0 := Decidable.byContradiction fun e => hn (by rw [h1, decide_eq_false e])
    rw [if_neg (by decide)]; omega
theorem add_more (a b : Int) (f g : Bool) (h1 : f = decide (a < 0)) (h2 : g = decide (b < 0)) (hn : f ≠ g) (hl : b.natAbs ≤ a.natAbs) : (if f = true then -((a.natAbs - b.natAbs : Nat) : Int) else ((a.natAbs - b.natAbs : Nat) : Int)) = a + b := by
  by_cases h : a < 0
  · rw [decide_eq_true h] at h1
    subst h1
    have hb : ¬ b < 0 := fun e => hn (by rw [h2, decide_eq_true e])
    rw [if_pos rfl]; omega
  · rw [decide_eq_false h] at h1
    subst h1
    have hb : b < 0 := Decidable.byContradiction fun e => hn (by rw [h2, decide_eq_false e])
    rw [if_neg (by decide)]; omega
theorem sg_less (a b : Nat) : decide (sg (a : Int) (b : Int) < 0) = decide (a < b) := by
  rcases Nat.lt_trichotomy a b with h | h | h
  · rw [sg_lt (by omega), decide_eq_true (by omega), decide_eq_true h]
  · rw [sg_eq (by omega), decide_eq_false (by omega), decide_eq_false (by omega)]
  · rw [sg_gt (by omega), decide_eq_false (by omega), decide_eq_false (by omega)]

set_option maxRecDepth 100000 in
set_option maxHeartbeats 2000000 in
theorem numPlus_any (x y : Value) (a b : Int) (w : World) (hx : Num w x a) (hy : Num w y b) (la : (Im.grp a.natAbs).length ≤ 250) (lb : (Im.grp b.natAbs).length ≤ 250) :
    Calls Tryz.prog 29 #[x, y] w (NumPost (a + b) w) := by
  obtain ⟨b1, A1, n1, c1, rfl, hb1, hv1⟩ := hx.parts
  obtain ⟨b2, A2, n2, c2, rfl, hb2, hv2⟩ := hy.parts
  have h2 := two_new w b1 b2 A1 A2 n1 c1 n2 c2
  obtain ⟨W, hW⟩ : ∃ W, (((w.alloc (.cells #[.bool b1, .slice A1 n1 c1] 47)).alloc (.cells #[.bool b2, .slice A2 n2 c2] 47)).alloc (.cells #[.bool false, .slice none 0 0] 47)) = W := ⟨_, rfl⟩
  rw [hW] at h2
  by_cases hbb : b1 = b2
  · subst hbb
    have hif := add_same a b b1 hb1 hb2
    have HG := Lib.hid (plus_any _ _ _ _ W.drew (hv1.next h2.bw.drew) (hv2.next h2.bw.drew) (by omega) (by omega))
    have hsg := fun v u (hv : Mag u v (a.natAbs + b.natAbs)) => signed_any b1 v _ u hv
    rw [hif] at hsg
    have HSG := Lib.hid hsg
    have H2 := Lib.hid (h2.below (Below.refl _ _).drew); have HW := Lib.hid hW
    clear h2 hW hx hy hb1 hb2 hv1 hv2 la lb hif hsg
    go_enter Tryz.func29, Tryz.ntmps29
    go_wp2
    rw [HW.out]
    go_region_held3 (fun u => u.cell? ⟨w.heap.size, 0, none⟩ = some (.bool b1) ∧ u.cell? ⟨w.heap.size, 1, none⟩ = some (.slice A1 n1 c1) ∧ u.cell? ⟨w.heap.size + 1, 0, none⟩ = some (.bool b1) ∧ u.cell? ⟨w.heap.size + 1, 1, none⟩ = some (.slice A2 n2 c2)) (first | assumption | (exact H2.out.four) | (exact H3.out.four_fin) | (exact H3.out.four) | (exact H2'.out.four)) (first | (go_at_call 55; ((with_reducible refine Calls.mono HG.out ?_); unfold MagPost; rintro e w1 ⟨v1, rfl, hm, hb⟩; have H2' := Lib.hid (H2.out.below hb); have HS := Lib.hid (HSG.out v1 w1 hm); clear hm hb)) | (go_at_call 45; ((with_reducible refine Calls.mono HS.out ?_); unfold NumPost; rintro e w2 ⟨z, rfl, hn, hb2⟩; obtain ⟨b3, A3, n3, c3, rfl, hbe, hm⟩ := hn.parts; have H3 := Lib.hid (H2'.out.below hb2); obtain ⟨k0, k1, f0, f1⟩ := box_facts H3.out.r2; have HM := Lib.hid hm; have HBE := Lib.hid hbe; clear hn hm hb2 hbe)))
    all_goals
      go_wp2
      refine bodyPost_ret (results_num rfl _ _ (w.heap.size + 1 + 1) _ _ rfl (box_row H3.out.r2)) rfl ?_
      exact ⟨_, rfl, H3.out.fin HBE.out HM.out⟩
  · have t1 : (b1 == b2) = false := by simpa using hbb
    have HC := Lib.hid (compare_any _ _ _ _ W (hv1.next h2.bw) (hv2.next h2.bw))
    have hsl := sg_less a.natAbs b.natAbs
    by_cases hl : a.natAbs < b.natAbs
    · rw [decide_eq_true hl] at hsl
      have t2 := of_decide_eq_true hsl
      have hif := add_less a b b1 b2 hb1 hb2 hbb hl
      have hgm := fun u (hu : Below w.heap.size w u) => minus_any _ _ _ _ u (hv2.next hu) (hv1.next hu) (by omega) (by omega)
      have hsg := fun v u (hv : Mag u v (b.natAbs - a.natAbs)) => signed_any b2 v _ u hv
      rw [hif] at hsg
      have HSG := Lib.hid hsg; have HGM := Lib.hid hgm
      have H2 := Lib.hid h2; have HW := Lib.hid hW
      clear h2 hW hx hy hb1 hb2 hv1 hv2 la lb hif hsg hgm hsl hbb hl
      go_enter Tryz.func29, Tryz.ntmps29
      go_wp2_with (go_at_call 56; rw [HW.out]; refine HC.out.mono ?_; rintro e w3 ⟨rfl, hb3⟩; have H4 := Lib.hid ((H2.out.below hb3).below (Below.refl _ _).drew); clear hb3)
      go_region_held3 (fun u => u.cell? ⟨w.heap.size, 0, none⟩ = some (.bool b1) ∧ u.cell? ⟨w.heap.size, 1, none⟩ = some (.slice A1 n1 c1) ∧ u.cell? ⟨w.heap.size + 1, 0, none⟩ = some (.bool b2) ∧ u.cell? ⟨w.heap.size + 1, 1, none⟩ = some (.slice A2 n2 c2)) (first | assumption | (exact H4.out.four) | (exact H3.out.four_fin) | (exact H3.out.four) | (exact H2'.out.four)) (first | (go_at_call 57; ((with_reducible refine Calls.mono (HGM.out _ H4.out.bw) ?_); unfold MagPost; rintro e w1 ⟨v1, rfl, hm, hb⟩; have H2' := Lib.hid (H4.out.below hb); have HS := Lib.hid (HSG.out v1 w1 hm); clear hm hb)) | (go_at_call 45; ((with_reducible refine Calls.mono HS.out ?_); unfold NumPost; rintro e w2 ⟨z, rfl, hn, hb2⟩; obtain ⟨b3, A3, n3, c3, rfl, hbe, hm⟩ := hn.parts; have H3 := Lib.hid (H2'.out.below hb2); obtain ⟨k0, k1, f0, f1⟩ := box_facts H3.out.r2; have HM := Lib.hid hm; have HBE := Lib.hid hbe; clear hn hm hb2 hbe)))
      all_goals
        go_wp2
        refine bodyPost_ret (results_num rfl _ _ (w.heap.size + 1 + 1) _ _ rfl (box_row H3.out.r2)) rfl ?_
        exact ⟨_, rfl, H3.out.fin HBE.out HM.out⟩
    · rw [decide_eq_false hl] at hsl
      have t2 := of_decide_eq_false hsl
      have hif := add_more a b b1 b2 hb1 hb2 hbb (by omega)
      have hgm := fun u (hu : Below w.heap.size w u) => minus_any _ _ _ _ u (hv1.next hu) (hv2.next hu) (by omega) (by omega)
      have hsg := fun v u (hv : Mag u v (a.natAbs - b.natAbs)) => signed_any b1 v _ u hv
      rw [hif] at hsg
      have HSG := Lib.hid hsg; have HGM := Lib.hid hgm
      have H2 := Lib.hid h2; have HW := Lib.hid hW
      clear h2 hW hx hy hb1 hb2 hv1 hv2 la lb hif hsg hgm hsl hbb hl
      go_enter Tryz.func29, Tryz.ntmps29
      go_wp2_with (go_at_call 56; rw [HW.out]; refine HC.out.mono ?_; rintro e w3 ⟨rfl, hb3⟩; have H4 := Lib.hid ((H2.out.below hb3).below (Below.refl _ _).drew); clear hb3)
      go_region_held3 (fun u => u.cell? ⟨w.heap.size, 0, none⟩ = some (.bool b1) ∧ u.cell? ⟨w.heap.size, 1, none⟩ = some (.slice A1 n1 c1) ∧ u.cell? ⟨w.heap.size + 1, 0, none⟩ = some (.bool b2) ∧ u.cell? ⟨w.heap.size + 1, 1, none⟩ = some (.slice A2 n2 c2)) (first | assumption | (exact H4.out.four) | (exact H3.out.four_fin) | (exact H3.out.four) | (exact H2'.out.four)) (first | (go_at_call 57; ((with_reducible refine Calls.mono (HGM.out _ H4.out.bw) ?_); unfold MagPost; rintro e w1 ⟨v1, rfl, hm, hb⟩; have H2' := Lib.hid (H4.out.below hb); have HS := Lib.hid (HSG.out v1 w1 hm); clear hm hb)) | (go_at_call 45; ((with_reducible refine Calls.mono HS.out ?_); unfold NumPost; rintro e w2 ⟨z, rfl, hn, hb2⟩; obtain ⟨b3, A3, n3, c3, rfl, hbe, hm⟩ := hn.parts; have H3 := Lib.hid (H2'.out.below hb2); obtain ⟨k0, k1, f0, f1⟩ := box_facts H3.out.r2; have HM := Lib.hid hm; have HBE := Lib.hid hbe; clear hn hm hb2 hbe)))
      all_goals
        go_wp2
        refine bodyPost_ret (results_num rfl _ _ (w.heap.size + 1 + 1) _ _ rfl (box_row H3.out.r2)) rfl ?_
        exact ⟨_, rfl, H3.out.fin HBE.out HM.out⟩
end Go.Proofs.YtflpfmkfjccmiaaGreatDoor
