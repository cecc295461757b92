/- Contract of over of numbers: the walk. -/
import Derived.Test.YtflpfmkfjccmiaaGreatDoorJf
namespace Go.Proofs.YtflpfmkfjccmiaaGreatDoor
open Go.RowKit

set_option maxRecDepth 100000 in
set_option maxHeartbeats 2000000 in
theorem numOver_any (x y : Value) (a b : Int) (w : World) (hx : Num w x a) (hy : Num w y b) (la : (Im.grp a.natAbs).length ≤ 250) (lb : (Im.grp b.natAbs).length ≤ 250) (hb0 : b ≠ 0) :
    Calls Tryz.prog 38 #[x, y] w (NumsPost (a / b) (a % b) w) := by
  obtain ⟨b1, A1, n1, c1, rfl, hb1, hv1⟩ := hx.parts
  obtain ⟨b2, A2, n2, c2, rfl, hb2, hv2⟩ := hy.parts
  have h2 := quad_new w b1 b2 A1 A2 n1 c1 n2 c2
  obtain ⟨W, hW⟩ : ∃ W, ((((w.alloc (.cells #[.bool b1, .slice A1 n1 c1] 47)).alloc (.cells #[.bool b2, .slice A2 n2 c2] 47)).alloc (.cells #[.bool false, .slice none 0 0] 47)).alloc (.cells #[.bool false, .slice none 0 0] 47)) = W := ⟨_, rfl⟩
  rw [hW] at h2
  have hbn0 : b.natAbs ≠ 0 := by omega
  have hov := over_any _ _ a.natAbs b.natAbs W (hv1.next h2.bw) (hv2.next h2.bw) hbn0 la lb
  have hfl : (!(b1 == b2)) = !(decide (a < 0) == decide (b < 0)) := by rw [← hb1, ← hb2]
  have lq : (Im.grp (a.natAbs / b.natAbs)).length ≤ 250 := Nat.le_trans (Im.len_mono (Nat.div_le_self _ _)) la
  have hlt := Nat.mod_lt a.natAbs (show 0 < b.natAbs by omega)
  have HV := Lib.hid hov; have H2 := Lib.hid h2; have HW := Lib.hid hW
  have HVB := Lib.hid (fun (u : World) (hu : Below w.heap.size w u) => hv2.next hu)
  by_cases hfix : a < 0 ∧ a.natAbs % b.natAbs ≠ 0
  · obtain ⟨e1, e2⟩ := euc_fix a b hb0 _ hfl hfix.1 hfix.2
    have t1 : b1 = true := by rw [hb1, decide_eq_true hfix.1]
    subst t1
    have hs1 := fun v u (hv : Mag u v (a.natAbs / b.natAbs + 1)) (f : Bool) (hf : f = (!(true == b2))) => signed_any f v _ u hv
    have hs2 := fun v u (hv : Mag u v (b.natAbs - a.natAbs % b.natAbs)) => signed_any false v _ u hv
    have hz := fun v u (hv : Mag u v (a.natAbs % b.natAbs)) => isZero_any v _ u hv
    rw [decide_eq_false hfix.2] at hz
    have hs1' : ∀ v u, Mag u v (a.natAbs / b.natAbs + 1) → Calls Tryz.prog 45 #[.bool (!b2), v] u (NumPost (a / b) u) := by
      intro v u hv
      have := hs1 v u hv (!(true == b2)) rfl
      rw [e1] at this
      cases b2 <;> exact this
    have hs2' : ∀ v u, Mag u v (b.natAbs - a.natAbs % b.natAbs) → Calls Tryz.prog 45 #[.bool false, v] u (NumPost (a % b) u) := by
      intro v u hv
      have := hs2 v u hv
      rw [if_neg (by decide), e2] at this; exact this
    have hp := fun v u (hv : Mag u v (a.natAbs / b.natAbs)) => plus_any v _ (a.natAbs / b.natAbs) 1 _ (hv.next ((Below.refl _ u).alloc (Nat.le_refl _) _)) (one_box u) (by omega) (by decide)
    have hm := fun v u (hu : Below w.heap.size w u) (hv : Mag u v (a.natAbs % b.natAbs)) => minus_any _ v b.natAbs (a.natAbs % b.natAbs) u (hv2.next hu) hv (by omega) (by omega)
    have HS1 := Lib.hid hs1'; have HS2 := Lib.hid hs2'; have HZ := Lib.hid hz; have HP := Lib.hid hp; have HM := Lib.hid hm
    clear h2 hW hx hy hb1 hb2 hv1 hv2 la lb hov hfl lq hlt hs1 hs2 hz hp hm hs1' hs2' e1 e2 hfix hbn0 hb0
    generalize a / b = p at *
    generalize a % b = q at *
    go_enter Tryz.func38, Tryz.ntmps38
    go_wp2_with (first | (go_at_call 61; rw [HW.out]; refine HV.out.mono ?_; unfold OverPost; rintro e w1 ⟨vq, vr, rfl, hq, hr, hb⟩; have hh := H2.out.below hb; obtain ⟨k0, k1, f0, f1⟩ := box_facts hh.r0; obtain ⟨k2, k3, f2, f3⟩ := box_facts hh.r1; have H3 := Lib.hid hh; have HQ := Lib.hid hq; have HR := Lib.hid hr; clear hb hh hq hr) | (go_at_call 60; refine (HZ.out _ _ HR.out).mono ?_; rintro e w2 ⟨rfl, rfl⟩) | (go_at_call 55; refine (HP.out _ _ HQ.out).mono ?_; unfold MagPost; rintro e w2 ⟨v2, rfl, hm, hb⟩; have hb' := ((Below.refl _ w1).alloc (Nat.le_refl _) (.cells #[.int .i64 1] 3)).trans (hb.mono (by simp)); have hh := H3.out.below hb'; obtain ⟨k4, k5, f4, f5⟩ := box_facts hh.r1; have H4 := Lib.hid hh; have HQ2 := Lib.hid hm; have HR2 := Lib.hid (HR.out.next hb'); clear hb hh hm hb') | (go_at_call 57; refine (HM.out _ _ H4.out.bw HR2.out).mono ?_; unfold MagPost; rintro e w3 ⟨v3, rfl, hm, hb⟩; have hh := H4.out.below hb; obtain ⟨k6, k7, f6, f7⟩ := box_facts hh.r0; obtain ⟨k8, k9, f8, f9⟩ := box_facts hh.r1; have H5 := Lib.hid hh; have HR3 := Lib.hid hm; have HQ3 := Lib.hid (HQ2.out.next hb); clear hb hh hm) | (go_at_call 45; with_reducible refine Calls.mono (HS1.out _ _ HQ3.out) ?_; unfold NumPost; rintro e w4 ⟨x4, rfl, hn, hb⟩; have H6 := Lib.hid (H5.out.below hb); have HN1 := Lib.hid hn; have HR4 := Lib.hid (HR3.out.next hb); clear hb hn) | (go_at_call 45; with_reducible refine Calls.mono (HS2.out _ _ HR4.out) ?_; unfold NumPost; rintro e w5 ⟨x5, rfl, hn, hb⟩; have hh := H6.out.below hb; obtain ⟨g1, B1, m1, d1, rfl, -, -⟩ := (HN1.out.next hb).parts; obtain ⟨g2, B2, m2, d2, rfl, -, -⟩ := hn.parts; obtain ⟨u0, u1, z0, z1⟩ := box_facts hh.r2; obtain ⟨u2, u3, z2, z3⟩ := box_facts hh.r3; have HF := Lib.hid (hh.fin (HN1.out.next hb) hn); clear hb hn hh))
    obtain ⟨U, hU, r2, r3, m1', m2', hbf⟩ := HF.out
    rw [← hU]
    refine bodyPost_ret (results_nums rfl _ _ (w.heap.size + 1 + 1) (w.heap.size + 1 + 1 + 1) _ _ _ _ rfl rfl r2 r3) rfl ?_
    exact ⟨_, _, _, _, _, _, _, _, rfl, m1', m2', hbf⟩
  · obtain ⟨e1, e2⟩ := euc_not a b hb0 _ hfl hfix
    have hs1 := fun v u (hv : Mag u v (a.natAbs / b.natAbs)) (f : Bool) => signed_any f v _ u hv
    have hs2 := fun v u (hv : Mag u v (a.natAbs % b.natAbs)) => signed_any false v _ u hv
    have hz := fun v u (hv : Mag u v (a.natAbs % b.natAbs)) => isZero_any v _ u hv
    have hs2' : ∀ v u, Mag u v (a.natAbs % b.natAbs) → Calls Tryz.prog 45 #[.bool false, v] u (NumPost (a % b) u) := by
      intro v u hv
      have := hs2 v u hv
      rw [if_neg (by decide), e2] at this; exact this
    have hs1f : ∀ v u, Mag u v (a.natAbs / b.natAbs) → Calls Tryz.prog 45 #[.bool (!(b1 == b2)), v] u (NumPost (a / b) u) := by
      intro v u hv
      have := hs1 v u hv (!(b1 == b2))
      rw [e1] at this; exact this
    have HS2 := Lib.hid hs2'
    cases b1 with
    | true =>
      have hs1' : ∀ v u, Mag u v (a.natAbs / b.natAbs) → Calls Tryz.prog 45 #[.bool (!b2), v] u (NumPost (a / b) u) := by
        intro v u hv
        have := hs1f v u hv
        cases b2 <;> exact this
      rw [decide_eq_true (Decidable.byContradiction fun hc => hfix ⟨of_decide_eq_true hb1.symm, hc⟩)] at hz
      have HS1 := Lib.hid hs1'; have HZ := Lib.hid hz
      clear h2 hW hx hy hb1 hb2 hv1 hv2 la lb hov hfl lq hlt hs1 hs2 hz hs1' hs1f hs2' e1 e2 hfix hbn0 hb0
      generalize a / b = p at *
      generalize a % b = q at *
      go_enter Tryz.func38, Tryz.ntmps38
      go_wp2_with (first | (go_at_call 61; rw [HW.out]; refine HV.out.mono ?_; unfold OverPost; rintro e w1 ⟨vq, vr, rfl, hq, hr, hb⟩; have hh := H2.out.below hb; obtain ⟨k0, k1, f0, f1⟩ := box_facts hh.r0; obtain ⟨k2, k3, f2, f3⟩ := box_facts hh.r1; have H3 := Lib.hid hh; have HQ := Lib.hid hq; have HR := Lib.hid hr; clear hb hh hq hr) | (go_at_call 60; refine (HZ.out _ _ HR.out).mono ?_; rintro e w2 ⟨rfl, rfl⟩) | (go_at_call 45; with_reducible refine Calls.mono (HS1.out _ _ HQ.out) ?_; unfold NumPost; rintro e w4 ⟨x4, rfl, hn, hb⟩; have H6 := Lib.hid (H3.out.below hb); have HN1 := Lib.hid hn; have HR4 := Lib.hid (HR.out.next hb); clear hb hn) | (go_at_call 45; with_reducible refine Calls.mono (HS2.out _ _ HR4.out) ?_; unfold NumPost; rintro e w5 ⟨x5, rfl, hn, hb⟩; have hh := H6.out.below hb; obtain ⟨g1, B1, m1, d1, rfl, -, -⟩ := (HN1.out.next hb).parts; obtain ⟨g2, B2, m2, d2, rfl, -, -⟩ := hn.parts; obtain ⟨u0, u1, z0, z1⟩ := box_facts hh.r2; obtain ⟨u2, u3, z2, z3⟩ := box_facts hh.r3; have HF := Lib.hid (hh.fin (HN1.out.next hb) hn); clear hb hn hh))
      obtain ⟨U, hU, r2, r3, m1', m2', hbf⟩ := HF.out
      rw [← hU]
      refine bodyPost_ret (results_nums rfl _ _ (w.heap.size + 1 + 1) (w.heap.size + 1 + 1 + 1) _ _ _ _ rfl rfl r2 r3) rfl ?_
      exact ⟨_, _, _, _, _, _, _, _, rfl, m1', m2', hbf⟩
    | false =>
      have hs1' : ∀ v u, Mag u v (a.natAbs / b.natAbs) → Calls Tryz.prog 45 #[.bool b2, v] u (NumPost (a / b) u) := by
        intro v u hv
        have := hs1f v u hv
        cases b2 <;> exact this
      have HS1 := Lib.hid hs1'; have HZ := Lib.hid hz
      clear h2 hW hx hy hb1 hb2 hv1 hv2 la lb hov hfl lq hlt hs1 hs2 hz hs1' hs1f hs2' e1 e2 hfix hbn0 hb0
      generalize a / b = p at *
      generalize a % b = q at *
      go_enter Tryz.func38, Tryz.ntmps38
      go_wp2_with (first | (go_at_call 61; rw [HW.out]; refine HV.out.mono ?_; unfold OverPost; rintro e w1 ⟨vq, vr, rfl, hq, hr, hb⟩; have hh := H2.out.below hb; obtain ⟨k0, k1, f0, f1⟩ := box_facts hh.r0; obtain ⟨k2, k3, f2, f3⟩ := box_facts hh.r1; have H3 := Lib.hid hh; have HQ := Lib.hid hq; have HR := Lib.hid hr; clear hb hh hq hr) | (go_at_call 60; refine (HZ.out _ _ HR.out).mono ?_; rintro e w2 ⟨rfl, rfl⟩) | (go_at_call 45; with_reducible refine Calls.mono (HS1.out _ _ HQ.out) ?_; unfold NumPost; rintro e w4 ⟨x4, rfl, hn, hb⟩; have H6 := Lib.hid (H3.out.below hb); have HN1 := Lib.hid hn; have HR4 := Lib.hid (HR.out.next hb); clear hb hn) | (go_at_call 45; with_reducible refine Calls.mono (HS2.out _ _ HR4.out) ?_; unfold NumPost; rintro e w5 ⟨x5, rfl, hn, hb⟩; have hh := H6.out.below hb; obtain ⟨g1, B1, m1, d1, rfl, -, -⟩ := (HN1.out.next hb).parts; obtain ⟨g2, B2, m2, d2, rfl, -, -⟩ := hn.parts; obtain ⟨u0, u1, z0, z1⟩ := box_facts hh.r2; obtain ⟨u2, u3, z2, z3⟩ := box_facts hh.r3; have HF := Lib.hid (hh.fin (HN1.out.next hb) hn); clear hb hn hh))
      obtain ⟨U, hU, r2, r3, m1', m2', hbf⟩ := HF.out
      rw [← hU]
      refine bodyPost_ret (results_nums rfl _ _ (w.heap.size + 1 + 1) (w.heap.size + 1 + 1 + 1) _ _ _ _ rfl rfl r2 r3) rfl ?_
      exact ⟨_, _, _, _, _, _, _, _, rfl, m1', m2', hbf⟩
end Go.Proofs.YtflpfmkfjccmiaaGreatDoor
