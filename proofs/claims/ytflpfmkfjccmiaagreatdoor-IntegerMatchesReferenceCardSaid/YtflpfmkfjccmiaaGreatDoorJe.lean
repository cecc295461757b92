/- Contracts of minus and compare of numbers; results in two cells. -/
import Derived.Test.YtflpfmkfjccmiaaGreatDoorJd
namespace Go.Proofs.YtflpfmkfjccmiaaGreatDoor
open Go.RowKit

set_option maxRecDepth 100000 in
set_option maxHeartbeats 2000000 in
theorem numMinus_any (x y : Value) (a b : Int) (w : World) (hx : Num w x a) (hy : Num w y b) (la : (Im.grp a.natAbs).length ≤ 250) (lb : (Im.grp b.natAbs).length ≤ 250) :
    Calls Tryz.prog 32 #[x, y] w (NumPost (a - b) w) := by
  obtain ⟨b1, A1, n1, c1, rfl, hb1, hv1⟩ := hx.parts
  obtain ⟨b2, A2, n2, c2, rfl, hb2, hv2⟩ := hy.parts
  have h2 := two_new w b1 b2 A1 A2 n1 c1 n2 c2
  obtain ⟨W, hW⟩ : ∃ W, (((w.alloc (.cells #[.bool b1, .slice A1 n1 c1] 47)).alloc (.cells #[.bool b2, .slice A2 n2 c2] 47)).alloc (.cells #[.bool false, .slice none 0 0] 47)) = W := ⟨_, rfl⟩
  rw [hW] at h2
  have HO := Lib.hid (opp_any _ _ W.drew (hy.next h2.bw.drew))
  have hpl := fun (y : Value) (u : World) (hu : Below w.heap.size w u) (hy' : Num u y (-b)) => numPlus_any _ y a (-b) u (hx.next hu) hy' la (by rw [Int.natAbs_neg]; exact lb)
  rw [show a + -b = a - b by omega] at hpl
  have HPL := Lib.hid hpl
  have H2 := Lib.hid (h2.below (Below.refl _ _).drew); have HW := Lib.hid hW
  clear h2 hW hx hy hb1 hb2 hv1 hv2 la lb hpl
  go_enter Tryz.func32, Tryz.ntmps32
  go_wp2
  rw [HW.out]
  go_region_held3 (fun u => u.cell? ⟨w.heap.size, 0, none⟩ = some (.bool b1) ∧ u.cell? ⟨w.heap.size, 1, none⟩ = some (.slice A1 n1 c1) ∧ u.cell? ⟨w.heap.size + 1, 0, none⟩ = some (.bool b2) ∧ u.cell? ⟨w.heap.size + 1, 1, none⟩ = some (.slice A2 n2 c2)) (first | assumption | (exact H2.out.four) | (exact H3.out.four_fin) | (exact H3.out.four) | (exact H2'.out.four)) (first | (go_at_call 58; ((with_reducible refine Calls.mono HO.out ?_); unfold NumPost; rintro e w1 ⟨v1, rfl, hm, hb⟩; have H2' := Lib.hid (H2.out.below hb); have HS := Lib.hid (HPL.out v1 w1 H2'.out.bw hm); clear hm hb)) | (go_at_call 29; ((with_reducible refine Calls.mono HS.out ?_); unfold NumPost; rintro e w2 ⟨z, rfl, hn, hb2⟩; obtain ⟨b3, A3, n3, c3, rfl, hbe, hm⟩ := hn.parts; have H3 := Lib.hid (H2'.out.below hb2); obtain ⟨k0, k1, f0, f1⟩ := box_facts H3.out.r2; have HM := Lib.hid hm; have HBE := Lib.hid hbe; clear hn hm hb2 hbe)))
  all_goals
    go_wp2
    refine bodyPost_ret (results_num rfl _ _ (w.heap.size + 1 + 1) _ _ rfl (box_row H3.out.r2)) rfl ?_
    exact ⟨_, rfl, H3.out.fin HBE.out HM.out⟩

theorem sg_flags (a b : Int) (zb bd : Bool) (hz : zb = decide (a - b = 0)) (hd : bd = decide (a - b < 0)) : (if zb then (0 : Int) else if bd then -1 else 1) = sg a b := by
  rcases Int.lt_trichotomy a b with h | h | h
  · rw [decide_eq_false (by omega)] at hz; rw [decide_eq_true (by omega)] at hd; subst hz; subst hd; rw [sg_lt h]; rfl
  · rw [decide_eq_true (by omega)] at hz; subst hz; rw [h, sg_eq rfl]; rfl
  · rw [decide_eq_false (by omega)] at hz; rw [decide_eq_false (by omega)] at hd; subst hz; subst hd; rw [sg_gt h]; rfl

set_option maxRecDepth 100000 in
set_option maxHeartbeats 2000000 in
theorem numCompare_any (x y : Value) (a b : Int) (w : World) (hx : Num w x a) (hy : Num w y b) (la : (Im.grp a.natAbs).length ≤ 250) (lb : (Im.grp b.natAbs).length ≤ 250) :
    Calls Tryz.prog 53 #[x, y] w fun e w' => e = .returned (.int .i64 (sg a b)) ∧ Below w.heap.size w w' := by
  obtain ⟨b1, A1, n1, c1, rfl, hb1, hv1⟩ := hx.parts
  obtain ⟨b2, A2, n2, c2, rfl, hb2, hv2⟩ := hy.parts
  obtain ⟨zb, hzb⟩ : ∃ zb, zb = decide (a - b = 0) := ⟨_, rfl⟩
  obtain ⟨bd, hbd⟩ : ∃ bd, bd = decide (a - b < 0) := ⟨_, rfl⟩
  have hsg := sg_flags a b zb bd hzb hbd
  obtain ⟨W, hW⟩ : ∃ W, ((w.alloc (.cells #[.bool b1, .slice A1 n1 c1] 47)).alloc (.cells #[.bool b2, .slice A2 n2 c2] 47)) = W := ⟨_, rfl⟩
  have hbw : Below w.heap.size w W := by rw [← hW]; exact ((Below.refl _ w).alloc (Nat.le_refl _) _).alloc (by simp) _
  have hM : Calls Tryz.prog 32 #[.agg #[.bool b1, .slice A1 n1 c1], .agg #[.bool b2, .slice A2 n2 c2]] W fun e w1 => ∃ A n c, e = .returned (.agg #[.bool bd, .slice A n c]) ∧ Num w1 (.agg #[.bool bd, .slice A n c]) (a - b) ∧ Below W.heap.size W w1 := by
    refine (numMinus_any _ _ a b W (hx.next hbw) (hy.next hbw) la lb).mono ?_
    rintro e w1 ⟨d, rfl, hn, hb⟩
    obtain ⟨b', A, n, c, rfl, hb', hm⟩ := hn.parts
    rw [← hbd] at hb'; subst hb'
    exact ⟨A, n, c, rfl, hn, hb⟩
  have hZ := fun (d : Value) (u : World) (hd : Num u d (a - b)) => numZero_any d (a - b) u hd
  rw [← hzb] at hZ
  have HM := Lib.hid hM; have HZ := Lib.hid hZ; have HW := Lib.hid hW; have HB := Lib.hid hbw
  generalize sg a b = r at hsg ⊢
  have HSG := Lib.hid hsg
  clear hM hZ hW hbw hx hy hb1 hb2 hv1 hv2 la lb hsg hzb hbd
  cases bd
  · cases zb
    all_goals
      go_enter Tryz.func53, Tryz.ntmps53
      go_wp2_with (first | (go_at_call 32; rw [HW.out]; refine HM.out.mono ?_; rintro e w1 ⟨A, n, c, rfl, hn, hb⟩; have hr := Row.new w1 47 #[.bool false, .slice A n c]; have hbn := (Below.refl _ w1).alloc (Nat.le_refl _) (.cells #[.bool false, .slice A n c] 47); have HX := Lib.hid (And.intro (hn.next hbn) hr); have HX2 := Lib.hid ((HB.out.trans (hb.mono HB.out.size)).trans (hbn.mono (HB.out.trans (hb.mono HB.out.size)).size)); clear hn hb hr hbn) | (go_at_call 37; refine (HZ.out _ _ HX.out.1).mono ?_; rintro e w2 ⟨rfl, hb2⟩; obtain ⟨k0, k1, f0, f1⟩ := box_facts (HX.out.2.below hb2 HX.out.2.lt); have HB2 := Lib.hid hb2; clear hb2))
      go_ret
      refine ⟨by rw [← HSG.out]; rfl, ?_⟩
      exact HX2.out.trans (HB2.out.mono HX2.out.size)
  · cases zb
    all_goals
      go_enter Tryz.func53, Tryz.ntmps53
      go_wp2_with (first | (go_at_call 32; rw [HW.out]; refine HM.out.mono ?_; rintro e w1 ⟨A, n, c, rfl, hn, hb⟩; have hr := Row.new w1 47 #[.bool true, .slice A n c]; have hbn := (Below.refl _ w1).alloc (Nat.le_refl _) (.cells #[.bool true, .slice A n c] 47); have HX := Lib.hid (And.intro (hn.next hbn) hr); have HX2 := Lib.hid ((HB.out.trans (hb.mono HB.out.size)).trans (hbn.mono (HB.out.trans (hb.mono HB.out.size)).size)); clear hn hb hr hbn) | (go_at_call 37; refine (HZ.out _ _ HX.out.1).mono ?_; rintro e w2 ⟨rfl, hb2⟩; obtain ⟨k0, k1, f0, f1⟩ := box_facts (HX.out.2.below hb2 HX.out.2.lt); have HB2 := Lib.hid hb2; clear hb2))
      go_ret
      refine ⟨by rw [← HSG.out]; rfl, ?_⟩
      exact HX2.out.trans (HB2.out.mono HX2.out.size)
end Go.Proofs.YtflpfmkfjccmiaaGreatDoor
