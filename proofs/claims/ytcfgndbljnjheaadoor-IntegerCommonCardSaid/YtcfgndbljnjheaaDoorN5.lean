/- The walk of IntegerCommon. -/
import Derived.Test.YtcfgndbljnjheaaDoorN2
namespace Go.Proofs.YtcfgndbljnjheaaDoor
open Go.RowKit

set_option maxRecDepth 100000 in
set_option maxHeartbeats 40000000 in
theorem common_walk (a b c : ByteArray) (w : World) (ht : TabP w) : Calls Tryd.prog 7 #[.string a, .string b, .string c] w fun e w' => e = .returned (.bool true) ∧ Below w.heap.size w w' := by
  have hx := made_B a 40; have hy := made_B b 40; have hz := made_B c 40
  have M1 : Hid (CallT 20 #[.string a, .int .i64 40] (strOf (Lib.itoa (madeZ a 40)))) := Lib.hid (made_c a 40 (by decide))
  have M2 : Hid (CallT 20 #[.string b, .int .i64 40] (strOf (Lib.itoa (madeZ b 40)))) := Lib.hid (made_c b 40 (by decide))
  have M3 : Hid (CallT 20 #[.string c, .int .i64 40] (strOf (Lib.itoa (madeZ c 40)))) := Lib.hid (made_c c 40 (by decide))
  have S0 : Hid (CallT 11 #[] (.bool true)) := Lib.hid (sane_c)
  generalize madeZ a 40 = x at *
  generalize madeZ b 40 = y at *
  generalize madeZ c 40 = z at *
  by_cases h0 : x = 0 ∧ y = 0
  · obtain ⟨rfl, rfl⟩ := h0
    rw [lit0] at M1 M2
    have G1 : Hid (CallT 21 #[.string ⟨#[48]⟩, .string ⟨#[48]⟩] (.tuple #[.string ⟨#[48]⟩, .int .i64 0])) := Lib.hid (by rw [← lit0]; exact gcd_c 0 0 0 rfl ok0 ok0 ok0)
    have Q1 : Hid (CallT 17 #[.string ⟨#[48]⟩, .string ⟨#[48]⟩] (.int .i64 0)) := Lib.hid (by rw [← lit0]; exact cmp_c 0 0 0 (sg_eq rfl) ok0 ok0)
    have HT := Lib.hid ht
    have HB := Lib.hid (Below.refl w.heap.size w)
    clear ht hx hy hz
    go_enter Tryd.func7, Tryd.ntmps7
    go_wp2_with (first | (go_at_call 20; (with_reducible refine Calls.mono (M1.out _ (HT.out.next HB.out)) ?_); rintro e w1 ⟨rfl, hb⟩; replace HB := Lib.hid (HB.out.trans (hb.mono HB.out.size)); clear hb) | (go_at_call 20; (with_reducible refine Calls.mono (M2.out _ (HT.out.next HB.out)) ?_); rintro e w1 ⟨rfl, hb⟩; replace HB := Lib.hid (HB.out.trans (hb.mono HB.out.size)); clear hb) | (go_at_call 20; (with_reducible refine Calls.mono (M3.out _ (HT.out.next HB.out)) ?_); rintro e w1 ⟨rfl, hb⟩; replace HB := Lib.hid (HB.out.trans (hb.mono HB.out.size)); clear hb) | (go_at_call 11; (with_reducible refine Calls.mono (S0.out _ (HT.out.next HB.out)) ?_); rintro e w1 ⟨rfl, hb⟩; replace HB := Lib.hid (HB.out.trans (hb.mono HB.out.size)); clear hb) | (go_at_call 21; (with_reducible refine Calls.mono (G1.out _ (HT.out.next HB.out)) ?_); rintro e w1 ⟨rfl, hb⟩; replace HB := Lib.hid (HB.out.trans (hb.mono HB.out.size)); clear hb) | (go_at_call 17; (with_reducible refine Calls.mono (Q1.out _ (HT.out.next HB.out)) ?_); rintro e w1 ⟨rfl, hb⟩; replace HB := Lib.hid (HB.out.trans (hb.mono HB.out.size)); clear hb))
    go_ret
    exact ⟨rfl, HB.out⟩
  · by_cases hx0 : x = 0
    · by_cases hz0 : z < 0
      · obtain ⟨G, hG⟩ : ∃ G : Nat, Nat.gcd x.natAbs y.natAbs = G := ⟨_, rfl⟩
        have hGp : 0 < G := by
          rw [← hG]
          rcases Nat.eq_zero_or_pos (Nat.gcd x.natAbs y.natAbs) with e | e
          · have h1 := Nat.eq_zero_of_gcd_eq_zero_left e
            have h2 := Nat.eq_zero_of_gcd_eq_zero_right e
            exact absurd ⟨by omega, by omega⟩ h0
          · exact e
        obtain ⟨g, hg⟩ : ∃ g : Int, ((G : Nat) : Int) = g := ⟨_, rfl⟩
        have hgA : g.natAbs = G := by omega
        have hg0 : g ≠ 0 := by omega
        have dx : g ∣ x := by rw [← Int.natAbs_dvd_natAbs, hgA, ← hG]; exact Nat.gcd_dvd_left _ _
        have dy : g ∣ y := by rw [← Int.natAbs_dvd_natAbs, hgA, ← hG]; exact Nat.gcd_dvd_right _ _
        have ex := Int.emod_eq_zero_of_dvd dx
        have ey := Int.emod_eq_zero_of_dvd dy
        have e1 : ((Nat.gcd (x / g).natAbs (y / g).natAbs : Nat) : Int) = 1 := by
          rw [Int.natAbs_ediv_of_dvd dx, Int.natAbs_ediv_of_dvd dy, hgA, Nat.gcd_div (by rw [← hG]; exact Nat.gcd_dvd_left _ _) (by rw [← hG]; exact Nat.gcd_dvd_right _ _), hG, Nat.div_self hGp]; rfl
        have hle : G ≤ x.natAbs + y.natAbs := by
          rw [← hG]
          by_cases hx0 : x.natAbs = 0
          · rw [hx0, Nat.gcd_zero_left]; omega
          · exact Nat.le_trans (Nat.gcd_le_left _ (by omega)) (by omega)
        have bg : B 41 g := by
          have h1 : B 41 ((x.natAbs : Int) + (y.natAbs : Int)) := B.add (k := 40) (by unfold B at *; omega) (by unfold B at *; omega)
          unfold B at *; omega
        have bp := hx.div g
        have bq := hy.div g
        have bxz := hx.mul hz
        have byz := hy.mul hz
        have bgz := bg.mul hz
        obtain ⟨t, htt⟩ : ∃ t : Int, g * ((z.natAbs : Nat) : Int) = t := ⟨_, rfl⟩
        have bt : B 81 t := by
          have : B 40 ((z.natAbs : Nat) : Int) := by unfold B at *; omega
          rw [← htt]; exact bg.mul this
        have e2 : ((Nat.gcd (x * z).natAbs (y * z).natAbs : Nat) : Int) = t := by
          rw [Int.natAbs_mul, Int.natAbs_mul, Nat.gcd_mul_right, hG, Int.natCast_mul, hg]; exact htt
        have hgp : 0 < g := by omega
        have bnt : B 81 (-t) := by unfold B at *; rw [Int.natAbs_neg]; exact bt
        have htp : 0 < t := by rw [← htt]; exact Int.mul_pos hgp (by omega)
        have t1 : ((bs (Lib.itoa x)).toList == [48]) = true := by rw [txt_zero, decide_eq_true hx0]
        have t2 : ((bs (Lib.itoa y)).toList == [48]) = false := by rw [txt_zero, decide_eq_false (fun e => h0 ⟨hx0, e⟩)]
        have G1 : Hid (CallT 21 #[strOf (Lib.itoa x), strOf (Lib.itoa y)] (.tuple #[strOf (Lib.itoa g), .int .i64 0])) := Lib.hid (gcd_c x y g (by rw [hG]; exact hg) (hx.ok (by decide)) (hy.ok (by decide)) (bg.ok (by decide)))
        have G2 : Hid (CallT 21 #[strOf (Lib.itoa y), strOf (Lib.itoa x)] (.tuple #[strOf (Lib.itoa g), .int .i64 0])) := Lib.hid (gcd_c y x g (by rw [Nat.gcd_comm, hG]; exact hg) (hy.ok (by decide)) (hx.ok (by decide)) (bg.ok (by decide)))
        have Q1 : Hid (CallT 17 #[strOf (Lib.itoa g), .string ⟨#[48]⟩] (.int .i64 (1))) := Lib.hid (by rw [← lit0]; exact cmp_c (g) (0) _ (sg_gt hgp) (bg.ok (by decide)) ok0)
        have D1 : Hid (CallT 18 #[strOf (Lib.itoa x), strOf (Lib.itoa g)] (.tuple #[strOf (Lib.itoa (x / g)), .string ⟨#[48]⟩, .int .i64 0])) := Lib.hid (by rw [← lit0]; exact div_c x g _ 0 rfl ex (hx.ok (by decide)) (bg.ok (by decide)) hg0 (bp.ok (by decide)) ok0)
        have D2 : Hid (CallT 18 #[strOf (Lib.itoa y), strOf (Lib.itoa g)] (.tuple #[strOf (Lib.itoa (y / g)), .string ⟨#[48]⟩, .int .i64 0])) := Lib.hid (by rw [← lit0]; exact div_c y g _ 0 rfl ey (hy.ok (by decide)) (bg.ok (by decide)) hg0 (bq.ok (by decide)) ok0)
        have G3 : Hid (CallT 21 #[strOf (Lib.itoa (x / g)), strOf (Lib.itoa (y / g))] (.tuple #[.string ⟨#[49]⟩, .int .i64 0])) := Lib.hid (by rw [← lit1]; exact gcd_c _ _ 1 e1 (bp.ok (by decide)) (bq.ok (by decide)) ok1)
        have P1 : Hid (CallT 16 #[strOf (Lib.itoa x), strOf (Lib.itoa z)] (.tuple #[strOf (Lib.itoa (x * z)), .int .i64 0])) := Lib.hid (mul_c (x) (z) (x * z) (rfl) (hx.ok (by decide)) (hz.ok (by decide)) (bxz.ok (by decide)))
        have P2 : Hid (CallT 16 #[strOf (Lib.itoa y), strOf (Lib.itoa z)] (.tuple #[strOf (Lib.itoa (y * z)), .int .i64 0])) := Lib.hid (mul_c (y) (z) (y * z) (rfl) (hy.ok (by decide)) (hz.ok (by decide)) (byz.ok (by decide)))
        have G4 : Hid (CallT 21 #[strOf (Lib.itoa (x * z)), strOf (Lib.itoa (y * z))] (.tuple #[strOf (Lib.itoa t), .int .i64 0])) := Lib.hid (gcd_c _ _ t e2 (bxz.ok (by decide)) (byz.ok (by decide)) (bt.ok (by decide)))
        have P3 : Hid (CallT 16 #[strOf (Lib.itoa g), strOf (Lib.itoa z)] (.tuple #[strOf (Lib.itoa (-t)), .int .i64 0])) := Lib.hid (mul_c (g) (z) (-t) ((by rw [← htt, show ((z.natAbs : Nat) : Int) = -z by omega, Int.mul_neg, Int.neg_neg])) (bg.ok (by decide)) (hz.ok (by decide)) (bnt.ok (by decide)))
        have Q2 : Hid (CallT 17 #[strOf (Lib.itoa (-t)), .string ⟨#[48]⟩] (.int .i64 (-1))) := Lib.hid (by rw [← lit0]; exact cmp_c (-t) (0) _ (sg_lt (by omega)) (bnt.ok (by decide)) ok0)
        have P4 : Hid (CallT 15 #[.string ⟨#[48]⟩, strOf (Lib.itoa (-t))] (.tuple #[strOf (Lib.itoa t), .int .i64 0])) := Lib.hid (by rw [← lit0]; exact sub_c (0) (-t) (t) ((by omega)) ok0 (bnt.ok (by decide)) (bt.ok (by decide)))
        have HT := Lib.hid ht
        have HB := Lib.hid (Below.refl w.heap.size w)
        clear ht hx hy hz h0 hx0 hz0 hG hGp hg hgA hg0 dx dy ex ey e1 hle bg bp bq bxz byz bgz htt bt e2 hgp htp bnt
        go_enter Tryd.func7, Tryd.ntmps7
        go_wp2_with (first | (go_at_call 20; (with_reducible refine Calls.mono (M1.out _ (HT.out.next HB.out)) ?_); rintro e w1 ⟨rfl, hb⟩; replace HB := Lib.hid (HB.out.trans (hb.mono HB.out.size)); clear hb) | (go_at_call 20; (with_reducible refine Calls.mono (M2.out _ (HT.out.next HB.out)) ?_); rintro e w1 ⟨rfl, hb⟩; replace HB := Lib.hid (HB.out.trans (hb.mono HB.out.size)); clear hb) | (go_at_call 20; (with_reducible refine Calls.mono (M3.out _ (HT.out.next HB.out)) ?_); rintro e w1 ⟨rfl, hb⟩; replace HB := Lib.hid (HB.out.trans (hb.mono HB.out.size)); clear hb) | (go_at_call 11; (with_reducible refine Calls.mono (S0.out _ (HT.out.next HB.out)) ?_); rintro e w1 ⟨rfl, hb⟩; replace HB := Lib.hid (HB.out.trans (hb.mono HB.out.size)); clear hb) | (go_at_call 21; (with_reducible refine Calls.mono (G1.out _ (HT.out.next HB.out)) ?_); rintro e w1 ⟨rfl, hb⟩; replace HB := Lib.hid (HB.out.trans (hb.mono HB.out.size)); clear hb) | (go_at_call 21; (with_reducible refine Calls.mono (G2.out _ (HT.out.next HB.out)) ?_); rintro e w1 ⟨rfl, hb⟩; replace HB := Lib.hid (HB.out.trans (hb.mono HB.out.size)); clear hb) | (go_at_call 17; (with_reducible refine Calls.mono (Q1.out _ (HT.out.next HB.out)) ?_); rintro e w1 ⟨rfl, hb⟩; replace HB := Lib.hid (HB.out.trans (hb.mono HB.out.size)); clear hb) | (go_at_call 18; (with_reducible refine Calls.mono (D1.out _ (HT.out.next HB.out)) ?_); rintro e w1 ⟨rfl, hb⟩; replace HB := Lib.hid (HB.out.trans (hb.mono HB.out.size)); clear hb) | (go_at_call 18; (with_reducible refine Calls.mono (D2.out _ (HT.out.next HB.out)) ?_); rintro e w1 ⟨rfl, hb⟩; replace HB := Lib.hid (HB.out.trans (hb.mono HB.out.size)); clear hb) | (go_at_call 21; (with_reducible refine Calls.mono (G3.out _ (HT.out.next HB.out)) ?_); rintro e w1 ⟨rfl, hb⟩; replace HB := Lib.hid (HB.out.trans (hb.mono HB.out.size)); clear hb) | (go_at_call 16; (with_reducible refine Calls.mono (P1.out _ (HT.out.next HB.out)) ?_); rintro e w1 ⟨rfl, hb⟩; replace HB := Lib.hid (HB.out.trans (hb.mono HB.out.size)); clear hb) | (go_at_call 16; (with_reducible refine Calls.mono (P2.out _ (HT.out.next HB.out)) ?_); rintro e w1 ⟨rfl, hb⟩; replace HB := Lib.hid (HB.out.trans (hb.mono HB.out.size)); clear hb) | (go_at_call 21; (with_reducible refine Calls.mono (G4.out _ (HT.out.next HB.out)) ?_); rintro e w1 ⟨rfl, hb⟩; replace HB := Lib.hid (HB.out.trans (hb.mono HB.out.size)); clear hb) | (go_at_call 16; (with_reducible refine Calls.mono (P3.out _ (HT.out.next HB.out)) ?_); rintro e w1 ⟨rfl, hb⟩; replace HB := Lib.hid (HB.out.trans (hb.mono HB.out.size)); clear hb) | (go_at_call 17; (with_reducible refine Calls.mono (Q2.out _ (HT.out.next HB.out)) ?_); rintro e w1 ⟨rfl, hb⟩; replace HB := Lib.hid (HB.out.trans (hb.mono HB.out.size)); clear hb) | (go_at_call 15; (with_reducible refine Calls.mono (P4.out _ (HT.out.next HB.out)) ?_); rintro e w1 ⟨rfl, hb⟩; replace HB := Lib.hid (HB.out.trans (hb.mono HB.out.size)); clear hb))
        go_ret
        exact ⟨rfl, HB.out⟩
      · obtain ⟨G, hG⟩ : ∃ G : Nat, Nat.gcd x.natAbs y.natAbs = G := ⟨_, rfl⟩
        have hGp : 0 < G := by
          rw [← hG]
          rcases Nat.eq_zero_or_pos (Nat.gcd x.natAbs y.natAbs) with e | e
          · have h1 := Nat.eq_zero_of_gcd_eq_zero_left e
            have h2 := Nat.eq_zero_of_gcd_eq_zero_right e
            exact absurd ⟨by omega, by omega⟩ h0
          · exact e
        obtain ⟨g, hg⟩ : ∃ g : Int, ((G : Nat) : Int) = g := ⟨_, rfl⟩
        have hgA : g.natAbs = G := by omega
        have hg0 : g ≠ 0 := by omega
        have dx : g ∣ x := by rw [← Int.natAbs_dvd_natAbs, hgA, ← hG]; exact Nat.gcd_dvd_left _ _
        have dy : g ∣ y := by rw [← Int.natAbs_dvd_natAbs, hgA, ← hG]; exact Nat.gcd_dvd_right _ _
        have ex := Int.emod_eq_zero_of_dvd dx
        have ey := Int.emod_eq_zero_of_dvd dy
        have e1 : ((Nat.gcd (x / g).natAbs (y / g).natAbs : Nat) : Int) = 1 := by
          rw [Int.natAbs_ediv_of_dvd dx, Int.natAbs_ediv_of_dvd dy, hgA, Nat.gcd_div (by rw [← hG]; exact Nat.gcd_dvd_left _ _) (by rw [← hG]; exact Nat.gcd_dvd_right _ _), hG, Nat.div_self hGp]; rfl
        have hle : G ≤ x.natAbs + y.natAbs := by
          rw [← hG]
          by_cases hx0 : x.natAbs = 0
          · rw [hx0, Nat.gcd_zero_left]; omega
          · exact Nat.le_trans (Nat.gcd_le_left _ (by omega)) (by omega)
        have bg : B 41 g := by
          have h1 : B 41 ((x.natAbs : Int) + (y.natAbs : Int)) := B.add (k := 40) (by unfold B at *; omega) (by unfold B at *; omega)
          unfold B at *; omega
        have bp := hx.div g
        have bq := hy.div g
        have bxz := hx.mul hz
        have byz := hy.mul hz
        have bgz := bg.mul hz
        obtain ⟨t, htt⟩ : ∃ t : Int, g * ((z.natAbs : Nat) : Int) = t := ⟨_, rfl⟩
        have bt : B 81 t := by
          have : B 40 ((z.natAbs : Nat) : Int) := by unfold B at *; omega
          rw [← htt]; exact bg.mul this
        have e2 : ((Nat.gcd (x * z).natAbs (y * z).natAbs : Nat) : Int) = t := by
          rw [Int.natAbs_mul, Int.natAbs_mul, Nat.gcd_mul_right, hG, Int.natCast_mul, hg]; exact htt
        have hgp : 0 < g := by omega
        have htp : 0 ≤ t := by rw [← htt]; exact Int.mul_nonneg (by omega) (by omega)
        obtain ⟨g2, hg2⟩ : ∃ q, sg t 0 = q := ⟨_, rfl⟩
        have tg2 : decide (g2 < 0) = false := by
          rw [← hg2]; refine decide_eq_false ?_
          unfold sg; split
          · omega
          · split <;> omega
        have t1 : ((bs (Lib.itoa x)).toList == [48]) = true := by rw [txt_zero, decide_eq_true hx0]
        have t2 : ((bs (Lib.itoa y)).toList == [48]) = false := by rw [txt_zero, decide_eq_false (fun e => h0 ⟨hx0, e⟩)]
        have G1 : Hid (CallT 21 #[strOf (Lib.itoa x), strOf (Lib.itoa y)] (.tuple #[strOf (Lib.itoa g), .int .i64 0])) := Lib.hid (gcd_c x y g (by rw [hG]; exact hg) (hx.ok (by decide)) (hy.ok (by decide)) (bg.ok (by decide)))
        have G2 : Hid (CallT 21 #[strOf (Lib.itoa y), strOf (Lib.itoa x)] (.tuple #[strOf (Lib.itoa g), .int .i64 0])) := Lib.hid (gcd_c y x g (by rw [Nat.gcd_comm, hG]; exact hg) (hy.ok (by decide)) (hx.ok (by decide)) (bg.ok (by decide)))
        have Q1 : Hid (CallT 17 #[strOf (Lib.itoa g), .string ⟨#[48]⟩] (.int .i64 (1))) := Lib.hid (by rw [← lit0]; exact cmp_c (g) (0) _ (sg_gt hgp) (bg.ok (by decide)) ok0)
        have D1 : Hid (CallT 18 #[strOf (Lib.itoa x), strOf (Lib.itoa g)] (.tuple #[strOf (Lib.itoa (x / g)), .string ⟨#[48]⟩, .int .i64 0])) := Lib.hid (by rw [← lit0]; exact div_c x g _ 0 rfl ex (hx.ok (by decide)) (bg.ok (by decide)) hg0 (bp.ok (by decide)) ok0)
        have D2 : Hid (CallT 18 #[strOf (Lib.itoa y), strOf (Lib.itoa g)] (.tuple #[strOf (Lib.itoa (y / g)), .string ⟨#[48]⟩, .int .i64 0])) := Lib.hid (by rw [← lit0]; exact div_c y g _ 0 rfl ey (hy.ok (by decide)) (bg.ok (by decide)) hg0 (bq.ok (by decide)) ok0)
        have G3 : Hid (CallT 21 #[strOf (Lib.itoa (x / g)), strOf (Lib.itoa (y / g))] (.tuple #[.string ⟨#[49]⟩, .int .i64 0])) := Lib.hid (by rw [← lit1]; exact gcd_c _ _ 1 e1 (bp.ok (by decide)) (bq.ok (by decide)) ok1)
        have P1 : Hid (CallT 16 #[strOf (Lib.itoa x), strOf (Lib.itoa z)] (.tuple #[strOf (Lib.itoa (x * z)), .int .i64 0])) := Lib.hid (mul_c (x) (z) (x * z) (rfl) (hx.ok (by decide)) (hz.ok (by decide)) (bxz.ok (by decide)))
        have P2 : Hid (CallT 16 #[strOf (Lib.itoa y), strOf (Lib.itoa z)] (.tuple #[strOf (Lib.itoa (y * z)), .int .i64 0])) := Lib.hid (mul_c (y) (z) (y * z) (rfl) (hy.ok (by decide)) (hz.ok (by decide)) (byz.ok (by decide)))
        have G4 : Hid (CallT 21 #[strOf (Lib.itoa (x * z)), strOf (Lib.itoa (y * z))] (.tuple #[strOf (Lib.itoa t), .int .i64 0])) := Lib.hid (gcd_c _ _ t e2 (bxz.ok (by decide)) (byz.ok (by decide)) (bt.ok (by decide)))
        have P3 : Hid (CallT 16 #[strOf (Lib.itoa g), strOf (Lib.itoa z)] (.tuple #[strOf (Lib.itoa t), .int .i64 0])) := Lib.hid (mul_c (g) (z) (t) ((by rw [← htt, show ((z.natAbs : Nat) : Int) = z by omega])) (bg.ok (by decide)) (hz.ok (by decide)) (bt.ok (by decide)))
        have Q2 : Hid (CallT 17 #[strOf (Lib.itoa t), .string ⟨#[48]⟩] (.int .i64 (g2))) := Lib.hid (by rw [← lit0]; exact cmp_c (t) (0) _ (hg2) (bt.ok (by decide)) ok0)
        have HT := Lib.hid ht
        have HB := Lib.hid (Below.refl w.heap.size w)
        clear ht hx hy hz h0 hx0 hz0 hG hGp hg hgA hg0 dx dy ex ey e1 hle bg bp bq bxz byz bgz htt bt e2 hgp htp hg2
        go_enter Tryd.func7, Tryd.ntmps7
        go_wp2_with (first | (go_at_call 20; (with_reducible refine Calls.mono (M1.out _ (HT.out.next HB.out)) ?_); rintro e w1 ⟨rfl, hb⟩; replace HB := Lib.hid (HB.out.trans (hb.mono HB.out.size)); clear hb) | (go_at_call 20; (with_reducible refine Calls.mono (M2.out _ (HT.out.next HB.out)) ?_); rintro e w1 ⟨rfl, hb⟩; replace HB := Lib.hid (HB.out.trans (hb.mono HB.out.size)); clear hb) | (go_at_call 20; (with_reducible refine Calls.mono (M3.out _ (HT.out.next HB.out)) ?_); rintro e w1 ⟨rfl, hb⟩; replace HB := Lib.hid (HB.out.trans (hb.mono HB.out.size)); clear hb) | (go_at_call 11; (with_reducible refine Calls.mono (S0.out _ (HT.out.next HB.out)) ?_); rintro e w1 ⟨rfl, hb⟩; replace HB := Lib.hid (HB.out.trans (hb.mono HB.out.size)); clear hb) | (go_at_call 21; (with_reducible refine Calls.mono (G1.out _ (HT.out.next HB.out)) ?_); rintro e w1 ⟨rfl, hb⟩; replace HB := Lib.hid (HB.out.trans (hb.mono HB.out.size)); clear hb) | (go_at_call 21; (with_reducible refine Calls.mono (G2.out _ (HT.out.next HB.out)) ?_); rintro e w1 ⟨rfl, hb⟩; replace HB := Lib.hid (HB.out.trans (hb.mono HB.out.size)); clear hb) | (go_at_call 17; (with_reducible refine Calls.mono (Q1.out _ (HT.out.next HB.out)) ?_); rintro e w1 ⟨rfl, hb⟩; replace HB := Lib.hid (HB.out.trans (hb.mono HB.out.size)); clear hb) | (go_at_call 18; (with_reducible refine Calls.mono (D1.out _ (HT.out.next HB.out)) ?_); rintro e w1 ⟨rfl, hb⟩; replace HB := Lib.hid (HB.out.trans (hb.mono HB.out.size)); clear hb) | (go_at_call 18; (with_reducible refine Calls.mono (D2.out _ (HT.out.next HB.out)) ?_); rintro e w1 ⟨rfl, hb⟩; replace HB := Lib.hid (HB.out.trans (hb.mono HB.out.size)); clear hb) | (go_at_call 21; (with_reducible refine Calls.mono (G3.out _ (HT.out.next HB.out)) ?_); rintro e w1 ⟨rfl, hb⟩; replace HB := Lib.hid (HB.out.trans (hb.mono HB.out.size)); clear hb) | (go_at_call 16; (with_reducible refine Calls.mono (P1.out _ (HT.out.next HB.out)) ?_); rintro e w1 ⟨rfl, hb⟩; replace HB := Lib.hid (HB.out.trans (hb.mono HB.out.size)); clear hb) | (go_at_call 16; (with_reducible refine Calls.mono (P2.out _ (HT.out.next HB.out)) ?_); rintro e w1 ⟨rfl, hb⟩; replace HB := Lib.hid (HB.out.trans (hb.mono HB.out.size)); clear hb) | (go_at_call 21; (with_reducible refine Calls.mono (G4.out _ (HT.out.next HB.out)) ?_); rintro e w1 ⟨rfl, hb⟩; replace HB := Lib.hid (HB.out.trans (hb.mono HB.out.size)); clear hb) | (go_at_call 16; (with_reducible refine Calls.mono (P3.out _ (HT.out.next HB.out)) ?_); rintro e w1 ⟨rfl, hb⟩; replace HB := Lib.hid (HB.out.trans (hb.mono HB.out.size)); clear hb) | (go_at_call 17; (with_reducible refine Calls.mono (Q2.out _ (HT.out.next HB.out)) ?_); rintro e w1 ⟨rfl, hb⟩; replace HB := Lib.hid (HB.out.trans (hb.mono HB.out.size)); clear hb))
        go_ret
        exact ⟨rfl, HB.out⟩
    · by_cases hz0 : z < 0
      · obtain ⟨G, hG⟩ : ∃ G : Nat, Nat.gcd x.natAbs y.natAbs = G := ⟨_, rfl⟩
        have hGp : 0 < G := by
          rw [← hG]
          rcases Nat.eq_zero_or_pos (Nat.gcd x.natAbs y.natAbs) with e | e
          · have h1 := Nat.eq_zero_of_gcd_eq_zero_left e
            have h2 := Nat.eq_zero_of_gcd_eq_zero_right e
            exact absurd ⟨by omega, by omega⟩ h0
          · exact e
        obtain ⟨g, hg⟩ : ∃ g : Int, ((G : Nat) : Int) = g := ⟨_, rfl⟩
        have hgA : g.natAbs = G := by omega
        have hg0 : g ≠ 0 := by omega
        have dx : g ∣ x := by rw [← Int.natAbs_dvd_natAbs, hgA, ← hG]; exact Nat.gcd_dvd_left _ _
        have dy : g ∣ y := by rw [← Int.natAbs_dvd_natAbs, hgA, ← hG]; exact Nat.gcd_dvd_right _ _
        have ex := Int.emod_eq_zero_of_dvd dx
        have ey := Int.emod_eq_zero_of_dvd dy
        have e1 : ((Nat.gcd (x / g).natAbs (y / g).natAbs : Nat) : Int) = 1 := by
          rw [Int.natAbs_ediv_of_dvd dx, Int.natAbs_ediv_of_dvd dy, hgA, Nat.gcd_div (by rw [← hG]; exact Nat.gcd_dvd_left _ _) (by rw [← hG]; exact Nat.gcd_dvd_right _ _), hG, Nat.div_self hGp]; rfl
        have hle : G ≤ x.natAbs + y.natAbs := by
          rw [← hG]
          by_cases hx0 : x.natAbs = 0
          · rw [hx0, Nat.gcd_zero_left]; omega
          · exact Nat.le_trans (Nat.gcd_le_left _ (by omega)) (by omega)
        have bg : B 41 g := by
          have h1 : B 41 ((x.natAbs : Int) + (y.natAbs : Int)) := B.add (k := 40) (by unfold B at *; omega) (by unfold B at *; omega)
          unfold B at *; omega
        have bp := hx.div g
        have bq := hy.div g
        have bxz := hx.mul hz
        have byz := hy.mul hz
        have bgz := bg.mul hz
        obtain ⟨t, htt⟩ : ∃ t : Int, g * ((z.natAbs : Nat) : Int) = t := ⟨_, rfl⟩
        have bt : B 81 t := by
          have : B 40 ((z.natAbs : Nat) : Int) := by unfold B at *; omega
          rw [← htt]; exact bg.mul this
        have e2 : ((Nat.gcd (x * z).natAbs (y * z).natAbs : Nat) : Int) = t := by
          rw [Int.natAbs_mul, Int.natAbs_mul, Nat.gcd_mul_right, hG, Int.natCast_mul, hg]; exact htt
        have hgp : 0 < g := by omega
        have bnt : B 81 (-t) := by unfold B at *; rw [Int.natAbs_neg]; exact bt
        have htp : 0 < t := by rw [← htt]; exact Int.mul_pos hgp (by omega)
        have t1 : ((bs (Lib.itoa x)).toList == [48]) = false := by rw [txt_zero, decide_eq_false hx0]
        have G1 : Hid (CallT 21 #[strOf (Lib.itoa x), strOf (Lib.itoa y)] (.tuple #[strOf (Lib.itoa g), .int .i64 0])) := Lib.hid (gcd_c x y g (by rw [hG]; exact hg) (hx.ok (by decide)) (hy.ok (by decide)) (bg.ok (by decide)))
        have G2 : Hid (CallT 21 #[strOf (Lib.itoa y), strOf (Lib.itoa x)] (.tuple #[strOf (Lib.itoa g), .int .i64 0])) := Lib.hid (gcd_c y x g (by rw [Nat.gcd_comm, hG]; exact hg) (hy.ok (by decide)) (hx.ok (by decide)) (bg.ok (by decide)))
        have Q1 : Hid (CallT 17 #[strOf (Lib.itoa g), .string ⟨#[48]⟩] (.int .i64 (1))) := Lib.hid (by rw [← lit0]; exact cmp_c (g) (0) _ (sg_gt hgp) (bg.ok (by decide)) ok0)
        have D1 : Hid (CallT 18 #[strOf (Lib.itoa x), strOf (Lib.itoa g)] (.tuple #[strOf (Lib.itoa (x / g)), .string ⟨#[48]⟩, .int .i64 0])) := Lib.hid (by rw [← lit0]; exact div_c x g _ 0 rfl ex (hx.ok (by decide)) (bg.ok (by decide)) hg0 (bp.ok (by decide)) ok0)
        have D2 : Hid (CallT 18 #[strOf (Lib.itoa y), strOf (Lib.itoa g)] (.tuple #[strOf (Lib.itoa (y / g)), .string ⟨#[48]⟩, .int .i64 0])) := Lib.hid (by rw [← lit0]; exact div_c y g _ 0 rfl ey (hy.ok (by decide)) (bg.ok (by decide)) hg0 (bq.ok (by decide)) ok0)
        have G3 : Hid (CallT 21 #[strOf (Lib.itoa (x / g)), strOf (Lib.itoa (y / g))] (.tuple #[.string ⟨#[49]⟩, .int .i64 0])) := Lib.hid (by rw [← lit1]; exact gcd_c _ _ 1 e1 (bp.ok (by decide)) (bq.ok (by decide)) ok1)
        have P1 : Hid (CallT 16 #[strOf (Lib.itoa x), strOf (Lib.itoa z)] (.tuple #[strOf (Lib.itoa (x * z)), .int .i64 0])) := Lib.hid (mul_c (x) (z) (x * z) (rfl) (hx.ok (by decide)) (hz.ok (by decide)) (bxz.ok (by decide)))
        have P2 : Hid (CallT 16 #[strOf (Lib.itoa y), strOf (Lib.itoa z)] (.tuple #[strOf (Lib.itoa (y * z)), .int .i64 0])) := Lib.hid (mul_c (y) (z) (y * z) (rfl) (hy.ok (by decide)) (hz.ok (by decide)) (byz.ok (by decide)))
        have G4 : Hid (CallT 21 #[strOf (Lib.itoa (x * z)), strOf (Lib.itoa (y * z))] (.tuple #[strOf (Lib.itoa t), .int .i64 0])) := Lib.hid (gcd_c _ _ t e2 (bxz.ok (by decide)) (byz.ok (by decide)) (bt.ok (by decide)))
        have P3 : Hid (CallT 16 #[strOf (Lib.itoa g), strOf (Lib.itoa z)] (.tuple #[strOf (Lib.itoa (-t)), .int .i64 0])) := Lib.hid (mul_c (g) (z) (-t) ((by rw [← htt, show ((z.natAbs : Nat) : Int) = -z by omega, Int.mul_neg, Int.neg_neg])) (bg.ok (by decide)) (hz.ok (by decide)) (bnt.ok (by decide)))
        have Q2 : Hid (CallT 17 #[strOf (Lib.itoa (-t)), .string ⟨#[48]⟩] (.int .i64 (-1))) := Lib.hid (by rw [← lit0]; exact cmp_c (-t) (0) _ (sg_lt (by omega)) (bnt.ok (by decide)) ok0)
        have P4 : Hid (CallT 15 #[.string ⟨#[48]⟩, strOf (Lib.itoa (-t))] (.tuple #[strOf (Lib.itoa t), .int .i64 0])) := Lib.hid (by rw [← lit0]; exact sub_c (0) (-t) (t) ((by omega)) ok0 (bnt.ok (by decide)) (bt.ok (by decide)))
        have HT := Lib.hid ht
        have HB := Lib.hid (Below.refl w.heap.size w)
        clear ht hx hy hz h0 hx0 hz0 hG hGp hg hgA hg0 dx dy ex ey e1 hle bg bp bq bxz byz bgz htt bt e2 hgp htp bnt
        go_enter Tryd.func7, Tryd.ntmps7
        go_wp2_with (first | (go_at_call 20; (with_reducible refine Calls.mono (M1.out _ (HT.out.next HB.out)) ?_); rintro e w1 ⟨rfl, hb⟩; replace HB := Lib.hid (HB.out.trans (hb.mono HB.out.size)); clear hb) | (go_at_call 20; (with_reducible refine Calls.mono (M2.out _ (HT.out.next HB.out)) ?_); rintro e w1 ⟨rfl, hb⟩; replace HB := Lib.hid (HB.out.trans (hb.mono HB.out.size)); clear hb) | (go_at_call 20; (with_reducible refine Calls.mono (M3.out _ (HT.out.next HB.out)) ?_); rintro e w1 ⟨rfl, hb⟩; replace HB := Lib.hid (HB.out.trans (hb.mono HB.out.size)); clear hb) | (go_at_call 11; (with_reducible refine Calls.mono (S0.out _ (HT.out.next HB.out)) ?_); rintro e w1 ⟨rfl, hb⟩; replace HB := Lib.hid (HB.out.trans (hb.mono HB.out.size)); clear hb) | (go_at_call 21; (with_reducible refine Calls.mono (G1.out _ (HT.out.next HB.out)) ?_); rintro e w1 ⟨rfl, hb⟩; replace HB := Lib.hid (HB.out.trans (hb.mono HB.out.size)); clear hb) | (go_at_call 21; (with_reducible refine Calls.mono (G2.out _ (HT.out.next HB.out)) ?_); rintro e w1 ⟨rfl, hb⟩; replace HB := Lib.hid (HB.out.trans (hb.mono HB.out.size)); clear hb) | (go_at_call 17; (with_reducible refine Calls.mono (Q1.out _ (HT.out.next HB.out)) ?_); rintro e w1 ⟨rfl, hb⟩; replace HB := Lib.hid (HB.out.trans (hb.mono HB.out.size)); clear hb) | (go_at_call 18; (with_reducible refine Calls.mono (D1.out _ (HT.out.next HB.out)) ?_); rintro e w1 ⟨rfl, hb⟩; replace HB := Lib.hid (HB.out.trans (hb.mono HB.out.size)); clear hb) | (go_at_call 18; (with_reducible refine Calls.mono (D2.out _ (HT.out.next HB.out)) ?_); rintro e w1 ⟨rfl, hb⟩; replace HB := Lib.hid (HB.out.trans (hb.mono HB.out.size)); clear hb) | (go_at_call 21; (with_reducible refine Calls.mono (G3.out _ (HT.out.next HB.out)) ?_); rintro e w1 ⟨rfl, hb⟩; replace HB := Lib.hid (HB.out.trans (hb.mono HB.out.size)); clear hb) | (go_at_call 16; (with_reducible refine Calls.mono (P1.out _ (HT.out.next HB.out)) ?_); rintro e w1 ⟨rfl, hb⟩; replace HB := Lib.hid (HB.out.trans (hb.mono HB.out.size)); clear hb) | (go_at_call 16; (with_reducible refine Calls.mono (P2.out _ (HT.out.next HB.out)) ?_); rintro e w1 ⟨rfl, hb⟩; replace HB := Lib.hid (HB.out.trans (hb.mono HB.out.size)); clear hb) | (go_at_call 21; (with_reducible refine Calls.mono (G4.out _ (HT.out.next HB.out)) ?_); rintro e w1 ⟨rfl, hb⟩; replace HB := Lib.hid (HB.out.trans (hb.mono HB.out.size)); clear hb) | (go_at_call 16; (with_reducible refine Calls.mono (P3.out _ (HT.out.next HB.out)) ?_); rintro e w1 ⟨rfl, hb⟩; replace HB := Lib.hid (HB.out.trans (hb.mono HB.out.size)); clear hb) | (go_at_call 17; (with_reducible refine Calls.mono (Q2.out _ (HT.out.next HB.out)) ?_); rintro e w1 ⟨rfl, hb⟩; replace HB := Lib.hid (HB.out.trans (hb.mono HB.out.size)); clear hb) | (go_at_call 15; (with_reducible refine Calls.mono (P4.out _ (HT.out.next HB.out)) ?_); rintro e w1 ⟨rfl, hb⟩; replace HB := Lib.hid (HB.out.trans (hb.mono HB.out.size)); clear hb))
        go_ret
        exact ⟨rfl, HB.out⟩
      · obtain ⟨G, hG⟩ : ∃ G : Nat, Nat.gcd x.natAbs y.natAbs = G := ⟨_, rfl⟩
        have hGp : 0 < G := by
          rw [← hG]
          rcases Nat.eq_zero_or_pos (Nat.gcd x.natAbs y.natAbs) with e | e
          · have h1 := Nat.eq_zero_of_gcd_eq_zero_left e
            have h2 := Nat.eq_zero_of_gcd_eq_zero_right e
            exact absurd ⟨by omega, by omega⟩ h0
          · exact e
        obtain ⟨g, hg⟩ : ∃ g : Int, ((G : Nat) : Int) = g := ⟨_, rfl⟩
        have hgA : g.natAbs = G := by omega
        have hg0 : g ≠ 0 := by omega
        have dx : g ∣ x := by rw [← Int.natAbs_dvd_natAbs, hgA, ← hG]; exact Nat.gcd_dvd_left _ _
        have dy : g ∣ y := by rw [← Int.natAbs_dvd_natAbs, hgA, ← hG]; exact Nat.gcd_dvd_right _ _
        have ex := Int.emod_eq_zero_of_dvd dx
        have ey := Int.emod_eq_zero_of_dvd dy
        have e1 : ((Nat.gcd (x / g).natAbs (y / g).natAbs : Nat) : Int) = 1 := by
          rw [Int.natAbs_ediv_of_dvd dx, Int.natAbs_ediv_of_dvd dy, hgA, Nat.gcd_div (by rw [← hG]; exact Nat.gcd_dvd_left _ _) (by rw [← hG]; exact Nat.gcd_dvd_right _ _), hG, Nat.div_self hGp]; rfl
        have hle : G ≤ x.natAbs + y.natAbs := by
          rw [← hG]
          by_cases hx0 : x.natAbs = 0
          · rw [hx0, Nat.gcd_zero_left]; omega
          · exact Nat.le_trans (Nat.gcd_le_left _ (by omega)) (by omega)
        have bg : B 41 g := by
          have h1 : B 41 ((x.natAbs : Int) + (y.natAbs : Int)) := B.add (k := 40) (by unfold B at *; omega) (by unfold B at *; omega)
          unfold B at *; omega
        have bp := hx.div g
        have bq := hy.div g
        have bxz := hx.mul hz
        have byz := hy.mul hz
        have bgz := bg.mul hz
        obtain ⟨t, htt⟩ : ∃ t : Int, g * ((z.natAbs : Nat) : Int) = t := ⟨_, rfl⟩
        have bt : B 81 t := by
          have : B 40 ((z.natAbs : Nat) : Int) := by unfold B at *; omega
          rw [← htt]; exact bg.mul this
        have e2 : ((Nat.gcd (x * z).natAbs (y * z).natAbs : Nat) : Int) = t := by
          rw [Int.natAbs_mul, Int.natAbs_mul, Nat.gcd_mul_right, hG, Int.natCast_mul, hg]; exact htt
        have hgp : 0 < g := by omega
        have htp : 0 ≤ t := by rw [← htt]; exact Int.mul_nonneg (by omega) (by omega)
        obtain ⟨g2, hg2⟩ : ∃ q, sg t 0 = q := ⟨_, rfl⟩
        have tg2 : decide (g2 < 0) = false := by
          rw [← hg2]; refine decide_eq_false ?_
          unfold sg; split
          · omega
          · split <;> omega
        have t1 : ((bs (Lib.itoa x)).toList == [48]) = false := by rw [txt_zero, decide_eq_false hx0]
        have G1 : Hid (CallT 21 #[strOf (Lib.itoa x), strOf (Lib.itoa y)] (.tuple #[strOf (Lib.itoa g), .int .i64 0])) := Lib.hid (gcd_c x y g (by rw [hG]; exact hg) (hx.ok (by decide)) (hy.ok (by decide)) (bg.ok (by decide)))
        have G2 : Hid (CallT 21 #[strOf (Lib.itoa y), strOf (Lib.itoa x)] (.tuple #[strOf (Lib.itoa g), .int .i64 0])) := Lib.hid (gcd_c y x g (by rw [Nat.gcd_comm, hG]; exact hg) (hy.ok (by decide)) (hx.ok (by decide)) (bg.ok (by decide)))
        have Q1 : Hid (CallT 17 #[strOf (Lib.itoa g), .string ⟨#[48]⟩] (.int .i64 (1))) := Lib.hid (by rw [← lit0]; exact cmp_c (g) (0) _ (sg_gt hgp) (bg.ok (by decide)) ok0)
        have D1 : Hid (CallT 18 #[strOf (Lib.itoa x), strOf (Lib.itoa g)] (.tuple #[strOf (Lib.itoa (x / g)), .string ⟨#[48]⟩, .int .i64 0])) := Lib.hid (by rw [← lit0]; exact div_c x g _ 0 rfl ex (hx.ok (by decide)) (bg.ok (by decide)) hg0 (bp.ok (by decide)) ok0)
        have D2 : Hid (CallT 18 #[strOf (Lib.itoa y), strOf (Lib.itoa g)] (.tuple #[strOf (Lib.itoa (y / g)), .string ⟨#[48]⟩, .int .i64 0])) := Lib.hid (by rw [← lit0]; exact div_c y g _ 0 rfl ey (hy.ok (by decide)) (bg.ok (by decide)) hg0 (bq.ok (by decide)) ok0)
        have G3 : Hid (CallT 21 #[strOf (Lib.itoa (x / g)), strOf (Lib.itoa (y / g))] (.tuple #[.string ⟨#[49]⟩, .int .i64 0])) := Lib.hid (by rw [← lit1]; exact gcd_c _ _ 1 e1 (bp.ok (by decide)) (bq.ok (by decide)) ok1)
        have P1 : Hid (CallT 16 #[strOf (Lib.itoa x), strOf (Lib.itoa z)] (.tuple #[strOf (Lib.itoa (x * z)), .int .i64 0])) := Lib.hid (mul_c (x) (z) (x * z) (rfl) (hx.ok (by decide)) (hz.ok (by decide)) (bxz.ok (by decide)))
        have P2 : Hid (CallT 16 #[strOf (Lib.itoa y), strOf (Lib.itoa z)] (.tuple #[strOf (Lib.itoa (y * z)), .int .i64 0])) := Lib.hid (mul_c (y) (z) (y * z) (rfl) (hy.ok (by decide)) (hz.ok (by decide)) (byz.ok (by decide)))
        have G4 : Hid (CallT 21 #[strOf (Lib.itoa (x * z)), strOf (Lib.itoa (y * z))] (.tuple #[strOf (Lib.itoa t), .int .i64 0])) := Lib.hid (gcd_c _ _ t e2 (bxz.ok (by decide)) (byz.ok (by decide)) (bt.ok (by decide)))
        have P3 : Hid (CallT 16 #[strOf (Lib.itoa g), strOf (Lib.itoa z)] (.tuple #[strOf (Lib.itoa t), .int .i64 0])) := Lib.hid (mul_c (g) (z) (t) ((by rw [← htt, show ((z.natAbs : Nat) : Int) = z by omega])) (bg.ok (by decide)) (hz.ok (by decide)) (bt.ok (by decide)))
        have Q2 : Hid (CallT 17 #[strOf (Lib.itoa t), .string ⟨#[48]⟩] (.int .i64 (g2))) := Lib.hid (by rw [← lit0]; exact cmp_c (t) (0) _ (hg2) (bt.ok (by decide)) ok0)
        have HT := Lib.hid ht
        have HB := Lib.hid (Below.refl w.heap.size w)
        clear ht hx hy hz h0 hx0 hz0 hG hGp hg hgA hg0 dx dy ex ey e1 hle bg bp bq bxz byz bgz htt bt e2 hgp htp hg2
        go_enter Tryd.func7, Tryd.ntmps7
        go_wp2_with (first | (go_at_call 20; (with_reducible refine Calls.mono (M1.out _ (HT.out.next HB.out)) ?_); rintro e w1 ⟨rfl, hb⟩; replace HB := Lib.hid (HB.out.trans (hb.mono HB.out.size)); clear hb) | (go_at_call 20; (with_reducible refine Calls.mono (M2.out _ (HT.out.next HB.out)) ?_); rintro e w1 ⟨rfl, hb⟩; replace HB := Lib.hid (HB.out.trans (hb.mono HB.out.size)); clear hb) | (go_at_call 20; (with_reducible refine Calls.mono (M3.out _ (HT.out.next HB.out)) ?_); rintro e w1 ⟨rfl, hb⟩; replace HB := Lib.hid (HB.out.trans (hb.mono HB.out.size)); clear hb) | (go_at_call 11; (with_reducible refine Calls.mono (S0.out _ (HT.out.next HB.out)) ?_); rintro e w1 ⟨rfl, hb⟩; replace HB := Lib.hid (HB.out.trans (hb.mono HB.out.size)); clear hb) | (go_at_call 21; (with_reducible refine Calls.mono (G1.out _ (HT.out.next HB.out)) ?_); rintro e w1 ⟨rfl, hb⟩; replace HB := Lib.hid (HB.out.trans (hb.mono HB.out.size)); clear hb) | (go_at_call 21; (with_reducible refine Calls.mono (G2.out _ (HT.out.next HB.out)) ?_); rintro e w1 ⟨rfl, hb⟩; replace HB := Lib.hid (HB.out.trans (hb.mono HB.out.size)); clear hb) | (go_at_call 17; (with_reducible refine Calls.mono (Q1.out _ (HT.out.next HB.out)) ?_); rintro e w1 ⟨rfl, hb⟩; replace HB := Lib.hid (HB.out.trans (hb.mono HB.out.size)); clear hb) | (go_at_call 18; (with_reducible refine Calls.mono (D1.out _ (HT.out.next HB.out)) ?_); rintro e w1 ⟨rfl, hb⟩; replace HB := Lib.hid (HB.out.trans (hb.mono HB.out.size)); clear hb) | (go_at_call 18; (with_reducible refine Calls.mono (D2.out _ (HT.out.next HB.out)) ?_); rintro e w1 ⟨rfl, hb⟩; replace HB := Lib.hid (HB.out.trans (hb.mono HB.out.size)); clear hb) | (go_at_call 21; (with_reducible refine Calls.mono (G3.out _ (HT.out.next HB.out)) ?_); rintro e w1 ⟨rfl, hb⟩; replace HB := Lib.hid (HB.out.trans (hb.mono HB.out.size)); clear hb) | (go_at_call 16; (with_reducible refine Calls.mono (P1.out _ (HT.out.next HB.out)) ?_); rintro e w1 ⟨rfl, hb⟩; replace HB := Lib.hid (HB.out.trans (hb.mono HB.out.size)); clear hb) | (go_at_call 16; (with_reducible refine Calls.mono (P2.out _ (HT.out.next HB.out)) ?_); rintro e w1 ⟨rfl, hb⟩; replace HB := Lib.hid (HB.out.trans (hb.mono HB.out.size)); clear hb) | (go_at_call 21; (with_reducible refine Calls.mono (G4.out _ (HT.out.next HB.out)) ?_); rintro e w1 ⟨rfl, hb⟩; replace HB := Lib.hid (HB.out.trans (hb.mono HB.out.size)); clear hb) | (go_at_call 16; (with_reducible refine Calls.mono (P3.out _ (HT.out.next HB.out)) ?_); rintro e w1 ⟨rfl, hb⟩; replace HB := Lib.hid (HB.out.trans (hb.mono HB.out.size)); clear hb) | (go_at_call 17; (with_reducible refine Calls.mono (Q2.out _ (HT.out.next HB.out)) ?_); rintro e w1 ⟨rfl, hb⟩; replace HB := Lib.hid (HB.out.trans (hb.mono HB.out.size)); clear hb))
        go_ret
        exact ⟨rfl, HB.out⟩
end Go.Proofs.YtcfgndbljnjheaaDoor
