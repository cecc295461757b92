/- The walk of IntegerDivided. -/
import Derived.Test.YtcfgndbljnjheaaDoorKf
namespace Go.Proofs.YtcfgndbljnjheaaDoor
open Go.RowKit

theorem natAbs_ediv_le (a b : Int) : (a / b).natAbs ≤ a.natAbs := by
  have := Int.natAbs_ediv_le_natAbs a b
  omega
theorem B.div {k : Nat} {a : Int} (h : B k a) (b : Int) : B k (a / b) := Nat.lt_of_le_of_lt (natAbs_ediv_le a b) h
theorem B.mod {k : Nat} {b : Int} (a : Int) (h : B k b) (h0 : b ≠ 0) : B k (a % b) := by
  have h1 := Int.emod_lt a h0
  have h2 := Int.emod_nonneg a h0
  unfold B at *; omega
theorem sg_pos {a : Int} (h : 0 ≤ a) : decide (0 ≤ sg a 0) = true := decide_eq_true (by
  unfold sg; split
  · omega
  · split <;> omega)
set_option maxRecDepth 100000 in
set_option maxHeartbeats 4000000 in
theorem divided_walk (a b : ByteArray) (w : World) (ht : TabP w) : Calls Tryd.prog 6 #[.string a, .string b] w fun e w' => e = .returned (.bool true) ∧ Below w.heap.size w w' := by
  have hx := made_B a 90; have hy := made_B b 60
  have M1 : Hid (CallT 20 #[.string a, .int .i64 90] (strOf (Lib.itoa (madeZ a 90)))) := Lib.hid (made_c a 90 (by decide))
  have M2 : Hid (CallT 20 #[.string b, .int .i64 60] (strOf (Lib.itoa (madeZ b 60)))) := Lib.hid (made_c b 60 (by decide))
  have S0 : Hid (CallT 11 #[] (.bool true)) := Lib.hid (sane_c)
  generalize madeZ a 90 = x at *
  generalize madeZ b 60 = y at *
  by_cases h0 : y = 0
  · subst h0
    rw [lit0] at M2
    have D0 : Hid (CallT 18 #[strOf (Lib.itoa x), .string ⟨#[48]⟩] (.tuple #[strOf [], strOf [], .int .i64 30])) := Lib.hid (by rw [← lit0]; exact div0_c x (hx.ok (by decide)))
    have HT := Lib.hid ht
    have HB := Lib.hid (Below.refl w.heap.size w)
    clear ht hx hy
    go_enter Tryd.func6, Tryd.ntmps6
    go_wp2_with (first | (go_at_call 20; (with_reducible refine Calls.mono (M1.out _ (HT.out.next HB.out)) ?_); rintro e w1 ⟨rfl, hb⟩; replace HB := Lib.hid (HB.out.trans (hb.mono HB.out.size)); clear hb) | (go_at_call 20; (with_reducible refine Calls.mono (M2.out _ (HT.out.next HB.out)) ?_); rintro e w1 ⟨rfl, hb⟩; replace HB := Lib.hid (HB.out.trans (hb.mono HB.out.size)); clear hb) | (go_at_call 11; (with_reducible refine Calls.mono (S0.out _ (HT.out.next HB.out)) ?_); rintro e w1 ⟨rfl, hb⟩; replace HB := Lib.hid (HB.out.trans (hb.mono HB.out.size)); clear hb) | (go_at_call 18; (with_reducible refine Calls.mono (D0.out _ (HT.out.next HB.out)) ?_); rintro e w1 ⟨rfl, hb⟩; replace HB := Lib.hid (HB.out.trans (hb.mono HB.out.size)); clear hb))
    go_ret
    exact ⟨rfl, HB.out⟩
  · by_cases hneg : y < 0
    · have bq := hx.div y
      have br := hy.mod x h0
      have bp := bq.mul hy
      have bxy := hx.mul hy
      have esum : x / y * y + x % y = x := by rw [Int.mul_comm]; exact Int.mul_ediv_add_emod x y
      have hm1 := Int.emod_lt x h0
      have hm2 := Int.emod_nonneg x h0
      obtain ⟨r1, hr1⟩ : ∃ r, sg (x % y) 0 = r := ⟨_, rfl⟩
      have tr1 : decide (0 ≤ r1) = true := by rw [← hr1]; exact sg_pos hm2
      have hg : sg y 0 = -1 := sg_lt hneg
      have bn : B 60 (-y) := by unfold B at *; rw [Int.natAbs_neg]; exact hy
      have hlt : x % y < -y := by omega
      have ty : ((bs (Lib.itoa y)).toList == [48]) = false := by rw [txt_zero, decide_eq_false h0]
      have D1 : Hid (CallT 18 #[strOf (Lib.itoa x), strOf (Lib.itoa y)] (.tuple #[strOf (Lib.itoa (x / y)), strOf (Lib.itoa (x % y)), .int .i64 0])) := Lib.hid (div_c x y _ _ rfl rfl (hx.ok (by decide)) (hy.ok (by decide)) h0 (bq.ok (by decide)) (br.ok (by decide)))
      have P1 : Hid (CallT 16 #[strOf (Lib.itoa (x / y)), strOf (Lib.itoa y)] (.tuple #[strOf (Lib.itoa (x / y * y)), .int .i64 0])) := Lib.hid (mul_c (x / y) (y) (x / y * y) (rfl) (bq.ok (by decide)) (hy.ok (by decide)) (bp.ok (by decide)))
      have P2 : Hid (CallT 14 #[strOf (Lib.itoa (x / y * y)), strOf (Lib.itoa (x % y))] (.tuple #[strOf (Lib.itoa x), .int .i64 0])) := Lib.hid (add_c (x / y * y) (x % y) (x) (esum) (bp.ok (by decide)) (br.ok (by decide)) (hx.ok (by decide)))
      have P3 : Hid (CallT 16 #[strOf (Lib.itoa y), .string ⟨#[49]⟩] (.tuple #[strOf (Lib.itoa y), .int .i64 0])) := Lib.hid (by rw [← lit1]; exact mul_c (y) (1) (y) ((Int.mul_one y)) (hy.ok (by decide)) ok1 (hy.ok (by decide)))
      have Q1 : Hid (CallT 17 #[strOf (Lib.itoa y), .string ⟨#[48]⟩] (.int .i64 (-1))) := Lib.hid (by rw [← lit0]; exact cmp_c (y) (0) _ (hg) (hy.ok (by decide)) ok0)
      have P4 : Hid (CallT 15 #[.string ⟨#[48]⟩, strOf (Lib.itoa y)] (.tuple #[strOf (Lib.itoa (-y)), .int .i64 0])) := Lib.hid (by rw [← lit0]; exact sub_c (0) (y) (-y) ((by omega)) ok0 (hy.ok (by decide)) (bn.ok (by decide)))
      have P5 : Hid (CallT 16 #[strOf (Lib.itoa x), strOf (Lib.itoa y)] (.tuple #[strOf (Lib.itoa (x * y)), .int .i64 0])) := Lib.hid (mul_c (x) (y) (x * y) (rfl) (hx.ok (by decide)) (hy.ok (by decide)) (bxy.ok (by decide)))
      have D2 : Hid (CallT 18 #[strOf (Lib.itoa (x * y)), strOf (Lib.itoa y)] (.tuple #[strOf (Lib.itoa x), .string ⟨#[48]⟩, .int .i64 0])) := Lib.hid (by rw [← lit0]; exact div_c (x * y) y x 0 (Int.mul_ediv_cancel x h0) (Int.mul_emod_left x y) (bxy.ok (by decide)) (hy.ok (by decide)) h0 (hx.ok (by decide)) ok0)
      have Q2 : Hid (CallT 17 #[strOf (Lib.itoa (x % y)), .string ⟨#[48]⟩] (.int .i64 (r1))) := Lib.hid (by rw [← lit0]; exact cmp_c (x % y) (0) _ (hr1) (br.ok (by decide)) ok0)
      have Q3 : Hid (CallT 17 #[strOf (Lib.itoa (x % y)), strOf (Lib.itoa (-y))] (.int .i64 (-1))) := Lib.hid (cmp_c (x % y) (-y) _ ((sg_lt hlt)) (br.ok (by decide)) (bn.ok (by decide)))
      have V1 : Hid (CallT 19 #[strOf (Lib.itoa (x % y))] (.bool true)) := Lib.hid (val_c _ (br.ok (by decide)))
      have HT := Lib.hid ht
      have HB := Lib.hid (Below.refl w.heap.size w)
      clear ht hx hy h0 bq br bp bxy esum hm1 hm2 hr1 hlt hneg hg bn
      go_enter Tryd.func6, Tryd.ntmps6
      go_wp2_with (first | (go_at_call 20; (with_reducible refine Calls.mono (M1.out _ (HT.out.next HB.out)) ?_); rintro e w1 ⟨rfl, hb⟩; replace HB := Lib.hid (HB.out.trans (hb.mono HB.out.size)); clear hb) | (go_at_call 20; (with_reducible refine Calls.mono (M2.out _ (HT.out.next HB.out)) ?_); rintro e w1 ⟨rfl, hb⟩; replace HB := Lib.hid (HB.out.trans (hb.mono HB.out.size)); clear hb) | (go_at_call 11; (with_reducible refine Calls.mono (S0.out _ (HT.out.next HB.out)) ?_); rintro e w1 ⟨rfl, hb⟩; replace HB := Lib.hid (HB.out.trans (hb.mono HB.out.size)); clear hb) | (go_at_call 18; (with_reducible refine Calls.mono (D1.out _ (HT.out.next HB.out)) ?_); rintro e w1 ⟨rfl, hb⟩; replace HB := Lib.hid (HB.out.trans (hb.mono HB.out.size)); clear hb) | (go_at_call 16; (with_reducible refine Calls.mono (P1.out _ (HT.out.next HB.out)) ?_); rintro e w1 ⟨rfl, hb⟩; replace HB := Lib.hid (HB.out.trans (hb.mono HB.out.size)); clear hb) | (go_at_call 14; (with_reducible refine Calls.mono (P2.out _ (HT.out.next HB.out)) ?_); rintro e w1 ⟨rfl, hb⟩; replace HB := Lib.hid (HB.out.trans (hb.mono HB.out.size)); clear hb) | (go_at_call 16; (with_reducible refine Calls.mono (P3.out _ (HT.out.next HB.out)) ?_); rintro e w1 ⟨rfl, hb⟩; replace HB := Lib.hid (HB.out.trans (hb.mono HB.out.size)); clear hb) | (go_at_call 17; (with_reducible refine Calls.mono (Q1.out _ (HT.out.next HB.out)) ?_); rintro e w1 ⟨rfl, hb⟩; replace HB := Lib.hid (HB.out.trans (hb.mono HB.out.size)); clear hb) | (go_at_call 15; (with_reducible refine Calls.mono (P4.out _ (HT.out.next HB.out)) ?_); rintro e w1 ⟨rfl, hb⟩; replace HB := Lib.hid (HB.out.trans (hb.mono HB.out.size)); clear hb) | (go_at_call 16; (with_reducible refine Calls.mono (P5.out _ (HT.out.next HB.out)) ?_); rintro e w1 ⟨rfl, hb⟩; replace HB := Lib.hid (HB.out.trans (hb.mono HB.out.size)); clear hb) | (go_at_call 18; (with_reducible refine Calls.mono (D2.out _ (HT.out.next HB.out)) ?_); rintro e w1 ⟨rfl, hb⟩; replace HB := Lib.hid (HB.out.trans (hb.mono HB.out.size)); clear hb) | (go_at_call 17; (with_reducible refine Calls.mono (Q2.out _ (HT.out.next HB.out)) ?_); rintro e w1 ⟨rfl, hb⟩; replace HB := Lib.hid (HB.out.trans (hb.mono HB.out.size)); clear hb) | (go_at_call 17; (with_reducible refine Calls.mono (Q3.out _ (HT.out.next HB.out)) ?_); rintro e w1 ⟨rfl, hb⟩; replace HB := Lib.hid (HB.out.trans (hb.mono HB.out.size)); clear hb) | (go_at_call 19; (with_reducible refine Calls.mono (V1.out _ (HT.out.next HB.out)) ?_); rintro e w1 ⟨rfl, hb⟩; replace HB := Lib.hid (HB.out.trans (hb.mono HB.out.size)); clear hb))
      go_ret
      exact ⟨rfl, HB.out⟩
    · have bq := hx.div y
      have br := hy.mod x h0
      have bp := bq.mul hy
      have bxy := hx.mul hy
      have esum : x / y * y + x % y = x := by rw [Int.mul_comm]; exact Int.mul_ediv_add_emod x y
      have hm1 := Int.emod_lt x h0
      have hm2 := Int.emod_nonneg x h0
      obtain ⟨r1, hr1⟩ : ∃ r, sg (x % y) 0 = r := ⟨_, rfl⟩
      have tr1 : decide (0 ≤ r1) = true := by rw [← hr1]; exact sg_pos hm2
      obtain ⟨g, hg⟩ : ∃ g, sg y 0 = g := ⟨_, rfl⟩
      have tg : decide (g < 0) = false := by rw [← hg]; exact decide_eq_false (by have := sg_gt (show (0 : Int) < y by omega); omega)
      have hlt : x % y < y := by omega
      have ty : ((bs (Lib.itoa y)).toList == [48]) = false := by rw [txt_zero, decide_eq_false h0]
      have D1 : Hid (CallT 18 #[strOf (Lib.itoa x), strOf (Lib.itoa y)] (.tuple #[strOf (Lib.itoa (x / y)), strOf (Lib.itoa (x % y)), .int .i64 0])) := Lib.hid (div_c x y _ _ rfl rfl (hx.ok (by decide)) (hy.ok (by decide)) h0 (bq.ok (by decide)) (br.ok (by decide)))
      have P1 : Hid (CallT 16 #[strOf (Lib.itoa (x / y)), strOf (Lib.itoa y)] (.tuple #[strOf (Lib.itoa (x / y * y)), .int .i64 0])) := Lib.hid (mul_c (x / y) (y) (x / y * y) (rfl) (bq.ok (by decide)) (hy.ok (by decide)) (bp.ok (by decide)))
      have P2 : Hid (CallT 14 #[strOf (Lib.itoa (x / y * y)), strOf (Lib.itoa (x % y))] (.tuple #[strOf (Lib.itoa x), .int .i64 0])) := Lib.hid (add_c (x / y * y) (x % y) (x) (esum) (bp.ok (by decide)) (br.ok (by decide)) (hx.ok (by decide)))
      have P3 : Hid (CallT 16 #[strOf (Lib.itoa y), .string ⟨#[49]⟩] (.tuple #[strOf (Lib.itoa y), .int .i64 0])) := Lib.hid (by rw [← lit1]; exact mul_c (y) (1) (y) ((Int.mul_one y)) (hy.ok (by decide)) ok1 (hy.ok (by decide)))
      have Q1 : Hid (CallT 17 #[strOf (Lib.itoa y), .string ⟨#[48]⟩] (.int .i64 (g))) := Lib.hid (by rw [← lit0]; exact cmp_c (y) (0) _ (hg) (hy.ok (by decide)) ok0)
      have P5 : Hid (CallT 16 #[strOf (Lib.itoa x), strOf (Lib.itoa y)] (.tuple #[strOf (Lib.itoa (x * y)), .int .i64 0])) := Lib.hid (mul_c (x) (y) (x * y) (rfl) (hx.ok (by decide)) (hy.ok (by decide)) (bxy.ok (by decide)))
      have D2 : Hid (CallT 18 #[strOf (Lib.itoa (x * y)), strOf (Lib.itoa y)] (.tuple #[strOf (Lib.itoa x), .string ⟨#[48]⟩, .int .i64 0])) := Lib.hid (by rw [← lit0]; exact div_c (x * y) y x 0 (Int.mul_ediv_cancel x h0) (Int.mul_emod_left x y) (bxy.ok (by decide)) (hy.ok (by decide)) h0 (hx.ok (by decide)) ok0)
      have Q2 : Hid (CallT 17 #[strOf (Lib.itoa (x % y)), .string ⟨#[48]⟩] (.int .i64 (r1))) := Lib.hid (by rw [← lit0]; exact cmp_c (x % y) (0) _ (hr1) (br.ok (by decide)) ok0)
      have Q3 : Hid (CallT 17 #[strOf (Lib.itoa (x % y)), strOf (Lib.itoa y)] (.int .i64 (-1))) := Lib.hid (cmp_c (x % y) (y) _ ((sg_lt hlt)) (br.ok (by decide)) (hy.ok (by decide)))
      have V1 : Hid (CallT 19 #[strOf (Lib.itoa (x % y))] (.bool true)) := Lib.hid (val_c _ (br.ok (by decide)))
      have HT := Lib.hid ht
      have HB := Lib.hid (Below.refl w.heap.size w)
      clear ht hx hy h0 bq br bp bxy esum hm1 hm2 hr1 hlt hneg hg
      go_enter Tryd.func6, Tryd.ntmps6
      go_wp2_with (first | (go_at_call 20; (with_reducible refine Calls.mono (M1.out _ (HT.out.next HB.out)) ?_); rintro e w1 ⟨rfl, hb⟩; replace HB := Lib.hid (HB.out.trans (hb.mono HB.out.size)); clear hb) | (go_at_call 20; (with_reducible refine Calls.mono (M2.out _ (HT.out.next HB.out)) ?_); rintro e w1 ⟨rfl, hb⟩; replace HB := Lib.hid (HB.out.trans (hb.mono HB.out.size)); clear hb) | (go_at_call 11; (with_reducible refine Calls.mono (S0.out _ (HT.out.next HB.out)) ?_); rintro e w1 ⟨rfl, hb⟩; replace HB := Lib.hid (HB.out.trans (hb.mono HB.out.size)); clear hb) | (go_at_call 18; (with_reducible refine Calls.mono (D1.out _ (HT.out.next HB.out)) ?_); rintro e w1 ⟨rfl, hb⟩; replace HB := Lib.hid (HB.out.trans (hb.mono HB.out.size)); clear hb) | (go_at_call 16; (with_reducible refine Calls.mono (P1.out _ (HT.out.next HB.out)) ?_); rintro e w1 ⟨rfl, hb⟩; replace HB := Lib.hid (HB.out.trans (hb.mono HB.out.size)); clear hb) | (go_at_call 14; (with_reducible refine Calls.mono (P2.out _ (HT.out.next HB.out)) ?_); rintro e w1 ⟨rfl, hb⟩; replace HB := Lib.hid (HB.out.trans (hb.mono HB.out.size)); clear hb) | (go_at_call 16; (with_reducible refine Calls.mono (P3.out _ (HT.out.next HB.out)) ?_); rintro e w1 ⟨rfl, hb⟩; replace HB := Lib.hid (HB.out.trans (hb.mono HB.out.size)); clear hb) | (go_at_call 17; (with_reducible refine Calls.mono (Q1.out _ (HT.out.next HB.out)) ?_); rintro e w1 ⟨rfl, hb⟩; replace HB := Lib.hid (HB.out.trans (hb.mono HB.out.size)); clear hb) | (go_at_call 16; (with_reducible refine Calls.mono (P5.out _ (HT.out.next HB.out)) ?_); rintro e w1 ⟨rfl, hb⟩; replace HB := Lib.hid (HB.out.trans (hb.mono HB.out.size)); clear hb) | (go_at_call 18; (with_reducible refine Calls.mono (D2.out _ (HT.out.next HB.out)) ?_); rintro e w1 ⟨rfl, hb⟩; replace HB := Lib.hid (HB.out.trans (hb.mono HB.out.size)); clear hb) | (go_at_call 17; (with_reducible refine Calls.mono (Q2.out _ (HT.out.next HB.out)) ?_); rintro e w1 ⟨rfl, hb⟩; replace HB := Lib.hid (HB.out.trans (hb.mono HB.out.size)); clear hb) | (go_at_call 17; (with_reducible refine Calls.mono (Q3.out _ (HT.out.next HB.out)) ?_); rintro e w1 ⟨rfl, hb⟩; replace HB := Lib.hid (HB.out.trans (hb.mono HB.out.size)); clear hb) | (go_at_call 19; (with_reducible refine Calls.mono (V1.out _ (HT.out.next HB.out)) ?_); rintro e w1 ⟨rfl, hb⟩; replace HB := Lib.hid (HB.out.trans (hb.mono HB.out.size)); clear hb))
      go_ret
      exact ⟨rfl, HB.out⟩
end Go.Proofs.YtcfgndbljnjheaaDoor
