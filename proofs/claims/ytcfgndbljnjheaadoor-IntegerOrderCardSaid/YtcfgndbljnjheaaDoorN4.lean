/- The walk of IntegerOrder. -/
import Derived.Test.YtcfgndbljnjheaaDoorKf
namespace Go.Proofs.YtcfgndbljnjheaaDoor
open Go.RowKit

set_option maxRecDepth 100000 in
set_option maxHeartbeats 40000000 in
theorem order_walk (a b c : ByteArray) (w : World) (ht : TabP w) : Calls Tryd.prog 9 #[.string a, .string b, .string c] w fun e w' => e = .returned (.bool true) ∧ Below w.heap.size w w' := by
  have hx := made_B a 60; have hy := made_B b 60; have hz := made_B c 60
  have M1 : Hid (CallT 20 #[.string a, .int .i64 60] (strOf (Lib.itoa (madeZ a 60)))) := Lib.hid (made_c a 60 (by decide))
  have M2 : Hid (CallT 20 #[.string b, .int .i64 60] (strOf (Lib.itoa (madeZ b 60)))) := Lib.hid (made_c b 60 (by decide))
  have M3 : Hid (CallT 20 #[.string c, .int .i64 60] (strOf (Lib.itoa (madeZ c 60)))) := Lib.hid (made_c c 60 (by decide))
  have S0 : Hid (CallT 11 #[] (.bool true)) := Lib.hid (sane_c)
  generalize madeZ a 60 = x at *
  generalize madeZ b 60 = y at *
  generalize madeZ c 60 = z at *
  have bd := hx.sub hy; have b1 := hx.add hz; have b2 := hy.add hz
  have teq := txt_eqb x y
  rcases Int.lt_trichotomy x y with h | h | h
  · rcases Int.lt_trichotomy y z with h2 | h2 | h2
    · obtain ⟨g3, hg3⟩ : ∃ g, sg x z = g := ⟨_, rfl⟩
      have t3 : decide (g3 ≤ 0) = true := by
        rw [← hg3]; refine decide_eq_true ?_
        unfold sg; split
        · omega
        · split <;> omega
      rw [decide_eq_false (show ¬ x = y by omega)] at teq
      have Q1 : Hid (CallT 17 #[strOf (Lib.itoa x), strOf (Lib.itoa y)] (.int .i64 (-1))) := Lib.hid (cmp_c (x) (y) _ (sg_lt (by omega)) (hx.ok (by decide)) (hy.ok (by decide)))
      have P1 : Hid (CallT 15 #[strOf (Lib.itoa x), strOf (Lib.itoa y)] (.tuple #[strOf (Lib.itoa (x - y)), .int .i64 0])) := Lib.hid (sub_c (x) (y) (x - y) (rfl) (hx.ok (by decide)) (hy.ok (by decide)) (bd.ok (by decide)))
      have P2 : Hid (CallT 14 #[strOf (Lib.itoa x), strOf (Lib.itoa z)] (.tuple #[strOf (Lib.itoa (x + z)), .int .i64 0])) := Lib.hid (add_c (x) (z) (x + z) (rfl) (hx.ok (by decide)) (hz.ok (by decide)) (b1.ok (by decide)))
      have P3 : Hid (CallT 14 #[strOf (Lib.itoa y), strOf (Lib.itoa z)] (.tuple #[strOf (Lib.itoa (y + z)), .int .i64 0])) := Lib.hid (add_c (y) (z) (y + z) (rfl) (hy.ok (by decide)) (hz.ok (by decide)) (b2.ok (by decide)))
      have Q2 : Hid (CallT 17 #[strOf (Lib.itoa y), strOf (Lib.itoa x)] (.int .i64 (1))) := Lib.hid (cmp_c (y) (x) _ (sg_gt (by omega)) (hy.ok (by decide)) (hx.ok (by decide)))
      have Q3 : Hid (CallT 17 #[strOf (Lib.itoa (x - y)), .string ⟨#[48]⟩] (.int .i64 (-1))) := Lib.hid (by rw [← lit0]; exact cmp_c (x - y) (0) _ (sg_lt (by omega)) (bd.ok (by decide)) ok0)
      have Q4 : Hid (CallT 17 #[strOf (Lib.itoa (x + z)), strOf (Lib.itoa (y + z))] (.int .i64 (-1))) := Lib.hid (cmp_c (x + z) (y + z) _ (sg_lt (by omega)) (b1.ok (by decide)) (b2.ok (by decide)))
      have Q5 : Hid (CallT 17 #[strOf (Lib.itoa y), strOf (Lib.itoa z)] (.int .i64 (-1))) := Lib.hid (cmp_c (y) (z) _ (sg_lt (by omega)) (hy.ok (by decide)) (hz.ok (by decide)))
      have Q6 : Hid (CallT 17 #[strOf (Lib.itoa x), strOf (Lib.itoa z)] (.int .i64 (g3))) := Lib.hid (cmp_c (x) (z) _ (hg3) (hx.ok (by decide)) (hz.ok (by decide)))
      have HT := Lib.hid ht
      have HB := Lib.hid (Below.refl w.heap.size w)
      clear ht hx hy hz bd b1 b2 h h2 hg3
      go_enter Tryd.func9, Tryd.ntmps9
      go_wp2_with (first | (go_at_call 20; (with_reducible refine Calls.mono (M1.out _ (HT.out.next HB.out)) ?_); rintro e w1 ⟨rfl, hb⟩; replace HB := Lib.hid (HB.out.trans (hb.mono HB.out.size)); clear hb) | (go_at_call 20; (with_reducible refine Calls.mono (M2.out _ (HT.out.next HB.out)) ?_); rintro e w1 ⟨rfl, hb⟩; replace HB := Lib.hid (HB.out.trans (hb.mono HB.out.size)); clear hb) | (go_at_call 20; (with_reducible refine Calls.mono (M3.out _ (HT.out.next HB.out)) ?_); rintro e w1 ⟨rfl, hb⟩; replace HB := Lib.hid (HB.out.trans (hb.mono HB.out.size)); clear hb) | (go_at_call 11; (with_reducible refine Calls.mono (S0.out _ (HT.out.next HB.out)) ?_); rintro e w1 ⟨rfl, hb⟩; replace HB := Lib.hid (HB.out.trans (hb.mono HB.out.size)); clear hb) | (go_at_call 17; (with_reducible refine Calls.mono (Q1.out _ (HT.out.next HB.out)) ?_); rintro e w1 ⟨rfl, hb⟩; replace HB := Lib.hid (HB.out.trans (hb.mono HB.out.size)); clear hb) | (go_at_call 15; (with_reducible refine Calls.mono (P1.out _ (HT.out.next HB.out)) ?_); rintro e w1 ⟨rfl, hb⟩; replace HB := Lib.hid (HB.out.trans (hb.mono HB.out.size)); clear hb) | (go_at_call 14; (with_reducible refine Calls.mono (P2.out _ (HT.out.next HB.out)) ?_); rintro e w1 ⟨rfl, hb⟩; replace HB := Lib.hid (HB.out.trans (hb.mono HB.out.size)); clear hb) | (go_at_call 14; (with_reducible refine Calls.mono (P3.out _ (HT.out.next HB.out)) ?_); rintro e w1 ⟨rfl, hb⟩; replace HB := Lib.hid (HB.out.trans (hb.mono HB.out.size)); clear hb) | (go_at_call 17; (with_reducible refine Calls.mono (Q2.out _ (HT.out.next HB.out)) ?_); rintro e w1 ⟨rfl, hb⟩; replace HB := Lib.hid (HB.out.trans (hb.mono HB.out.size)); clear hb) | (go_at_call 17; (with_reducible refine Calls.mono (Q3.out _ (HT.out.next HB.out)) ?_); rintro e w1 ⟨rfl, hb⟩; replace HB := Lib.hid (HB.out.trans (hb.mono HB.out.size)); clear hb) | (go_at_call 17; (with_reducible refine Calls.mono (Q4.out _ (HT.out.next HB.out)) ?_); rintro e w1 ⟨rfl, hb⟩; replace HB := Lib.hid (HB.out.trans (hb.mono HB.out.size)); clear hb) | (go_at_call 17; (with_reducible refine Calls.mono (Q5.out _ (HT.out.next HB.out)) ?_); rintro e w1 ⟨rfl, hb⟩; replace HB := Lib.hid (HB.out.trans (hb.mono HB.out.size)); clear hb) | (go_at_call 17; (with_reducible refine Calls.mono (Q6.out _ (HT.out.next HB.out)) ?_); rintro e w1 ⟨rfl, hb⟩; replace HB := Lib.hid (HB.out.trans (hb.mono HB.out.size)); clear hb))
      go_ret
      exact ⟨rfl, HB.out⟩
    · obtain ⟨g3, hg3⟩ : ∃ g, sg x z = g := ⟨_, rfl⟩
      have t3 : decide (g3 ≤ 0) = true := by
        rw [← hg3]; refine decide_eq_true ?_
        unfold sg; split
        · omega
        · split <;> omega
      rw [decide_eq_false (show ¬ x = y by omega)] at teq
      have Q1 : Hid (CallT 17 #[strOf (Lib.itoa x), strOf (Lib.itoa y)] (.int .i64 (-1))) := Lib.hid (cmp_c (x) (y) _ (sg_lt (by omega)) (hx.ok (by decide)) (hy.ok (by decide)))
      have P1 : Hid (CallT 15 #[strOf (Lib.itoa x), strOf (Lib.itoa y)] (.tuple #[strOf (Lib.itoa (x - y)), .int .i64 0])) := Lib.hid (sub_c (x) (y) (x - y) (rfl) (hx.ok (by decide)) (hy.ok (by decide)) (bd.ok (by decide)))
      have P2 : Hid (CallT 14 #[strOf (Lib.itoa x), strOf (Lib.itoa z)] (.tuple #[strOf (Lib.itoa (x + z)), .int .i64 0])) := Lib.hid (add_c (x) (z) (x + z) (rfl) (hx.ok (by decide)) (hz.ok (by decide)) (b1.ok (by decide)))
      have P3 : Hid (CallT 14 #[strOf (Lib.itoa y), strOf (Lib.itoa z)] (.tuple #[strOf (Lib.itoa (y + z)), .int .i64 0])) := Lib.hid (add_c (y) (z) (y + z) (rfl) (hy.ok (by decide)) (hz.ok (by decide)) (b2.ok (by decide)))
      have Q2 : Hid (CallT 17 #[strOf (Lib.itoa y), strOf (Lib.itoa x)] (.int .i64 (1))) := Lib.hid (cmp_c (y) (x) _ (sg_gt (by omega)) (hy.ok (by decide)) (hx.ok (by decide)))
      have Q3 : Hid (CallT 17 #[strOf (Lib.itoa (x - y)), .string ⟨#[48]⟩] (.int .i64 (-1))) := Lib.hid (by rw [← lit0]; exact cmp_c (x - y) (0) _ (sg_lt (by omega)) (bd.ok (by decide)) ok0)
      have Q4 : Hid (CallT 17 #[strOf (Lib.itoa (x + z)), strOf (Lib.itoa (y + z))] (.int .i64 (-1))) := Lib.hid (cmp_c (x + z) (y + z) _ (sg_lt (by omega)) (b1.ok (by decide)) (b2.ok (by decide)))
      have Q5 : Hid (CallT 17 #[strOf (Lib.itoa y), strOf (Lib.itoa z)] (.int .i64 (0))) := Lib.hid (cmp_c (y) (z) _ (sg_eq (by omega)) (hy.ok (by decide)) (hz.ok (by decide)))
      have Q6 : Hid (CallT 17 #[strOf (Lib.itoa x), strOf (Lib.itoa z)] (.int .i64 (g3))) := Lib.hid (cmp_c (x) (z) _ (hg3) (hx.ok (by decide)) (hz.ok (by decide)))
      have HT := Lib.hid ht
      have HB := Lib.hid (Below.refl w.heap.size w)
      clear ht hx hy hz bd b1 b2 h h2 hg3
      go_enter Tryd.func9, Tryd.ntmps9
      go_wp2_with (first | (go_at_call 20; (with_reducible refine Calls.mono (M1.out _ (HT.out.next HB.out)) ?_); rintro e w1 ⟨rfl, hb⟩; replace HB := Lib.hid (HB.out.trans (hb.mono HB.out.size)); clear hb) | (go_at_call 20; (with_reducible refine Calls.mono (M2.out _ (HT.out.next HB.out)) ?_); rintro e w1 ⟨rfl, hb⟩; replace HB := Lib.hid (HB.out.trans (hb.mono HB.out.size)); clear hb) | (go_at_call 20; (with_reducible refine Calls.mono (M3.out _ (HT.out.next HB.out)) ?_); rintro e w1 ⟨rfl, hb⟩; replace HB := Lib.hid (HB.out.trans (hb.mono HB.out.size)); clear hb) | (go_at_call 11; (with_reducible refine Calls.mono (S0.out _ (HT.out.next HB.out)) ?_); rintro e w1 ⟨rfl, hb⟩; replace HB := Lib.hid (HB.out.trans (hb.mono HB.out.size)); clear hb) | (go_at_call 17; (with_reducible refine Calls.mono (Q1.out _ (HT.out.next HB.out)) ?_); rintro e w1 ⟨rfl, hb⟩; replace HB := Lib.hid (HB.out.trans (hb.mono HB.out.size)); clear hb) | (go_at_call 15; (with_reducible refine Calls.mono (P1.out _ (HT.out.next HB.out)) ?_); rintro e w1 ⟨rfl, hb⟩; replace HB := Lib.hid (HB.out.trans (hb.mono HB.out.size)); clear hb) | (go_at_call 14; (with_reducible refine Calls.mono (P2.out _ (HT.out.next HB.out)) ?_); rintro e w1 ⟨rfl, hb⟩; replace HB := Lib.hid (HB.out.trans (hb.mono HB.out.size)); clear hb) | (go_at_call 14; (with_reducible refine Calls.mono (P3.out _ (HT.out.next HB.out)) ?_); rintro e w1 ⟨rfl, hb⟩; replace HB := Lib.hid (HB.out.trans (hb.mono HB.out.size)); clear hb) | (go_at_call 17; (with_reducible refine Calls.mono (Q2.out _ (HT.out.next HB.out)) ?_); rintro e w1 ⟨rfl, hb⟩; replace HB := Lib.hid (HB.out.trans (hb.mono HB.out.size)); clear hb) | (go_at_call 17; (with_reducible refine Calls.mono (Q3.out _ (HT.out.next HB.out)) ?_); rintro e w1 ⟨rfl, hb⟩; replace HB := Lib.hid (HB.out.trans (hb.mono HB.out.size)); clear hb) | (go_at_call 17; (with_reducible refine Calls.mono (Q4.out _ (HT.out.next HB.out)) ?_); rintro e w1 ⟨rfl, hb⟩; replace HB := Lib.hid (HB.out.trans (hb.mono HB.out.size)); clear hb) | (go_at_call 17; (with_reducible refine Calls.mono (Q5.out _ (HT.out.next HB.out)) ?_); rintro e w1 ⟨rfl, hb⟩; replace HB := Lib.hid (HB.out.trans (hb.mono HB.out.size)); clear hb) | (go_at_call 17; (with_reducible refine Calls.mono (Q6.out _ (HT.out.next HB.out)) ?_); rintro e w1 ⟨rfl, hb⟩; replace HB := Lib.hid (HB.out.trans (hb.mono HB.out.size)); clear hb))
      go_ret
      exact ⟨rfl, HB.out⟩
    · rw [decide_eq_false (show ¬ x = y by omega)] at teq
      have Q1 : Hid (CallT 17 #[strOf (Lib.itoa x), strOf (Lib.itoa y)] (.int .i64 (-1))) := Lib.hid (cmp_c (x) (y) _ (sg_lt (by omega)) (hx.ok (by decide)) (hy.ok (by decide)))
      have P1 : Hid (CallT 15 #[strOf (Lib.itoa x), strOf (Lib.itoa y)] (.tuple #[strOf (Lib.itoa (x - y)), .int .i64 0])) := Lib.hid (sub_c (x) (y) (x - y) (rfl) (hx.ok (by decide)) (hy.ok (by decide)) (bd.ok (by decide)))
      have P2 : Hid (CallT 14 #[strOf (Lib.itoa x), strOf (Lib.itoa z)] (.tuple #[strOf (Lib.itoa (x + z)), .int .i64 0])) := Lib.hid (add_c (x) (z) (x + z) (rfl) (hx.ok (by decide)) (hz.ok (by decide)) (b1.ok (by decide)))
      have P3 : Hid (CallT 14 #[strOf (Lib.itoa y), strOf (Lib.itoa z)] (.tuple #[strOf (Lib.itoa (y + z)), .int .i64 0])) := Lib.hid (add_c (y) (z) (y + z) (rfl) (hy.ok (by decide)) (hz.ok (by decide)) (b2.ok (by decide)))
      have Q2 : Hid (CallT 17 #[strOf (Lib.itoa y), strOf (Lib.itoa x)] (.int .i64 (1))) := Lib.hid (cmp_c (y) (x) _ (sg_gt (by omega)) (hy.ok (by decide)) (hx.ok (by decide)))
      have Q3 : Hid (CallT 17 #[strOf (Lib.itoa (x - y)), .string ⟨#[48]⟩] (.int .i64 (-1))) := Lib.hid (by rw [← lit0]; exact cmp_c (x - y) (0) _ (sg_lt (by omega)) (bd.ok (by decide)) ok0)
      have Q4 : Hid (CallT 17 #[strOf (Lib.itoa (x + z)), strOf (Lib.itoa (y + z))] (.int .i64 (-1))) := Lib.hid (cmp_c (x + z) (y + z) _ (sg_lt (by omega)) (b1.ok (by decide)) (b2.ok (by decide)))
      have Q5 : Hid (CallT 17 #[strOf (Lib.itoa y), strOf (Lib.itoa z)] (.int .i64 (1))) := Lib.hid (cmp_c (y) (z) _ (sg_gt (by omega)) (hy.ok (by decide)) (hz.ok (by decide)))
      have HT := Lib.hid ht
      have HB := Lib.hid (Below.refl w.heap.size w)
      clear ht hx hy hz bd b1 b2 h h2
      go_enter Tryd.func9, Tryd.ntmps9
      go_wp2_with (first | (go_at_call 20; (with_reducible refine Calls.mono (M1.out _ (HT.out.next HB.out)) ?_); rintro e w1 ⟨rfl, hb⟩; replace HB := Lib.hid (HB.out.trans (hb.mono HB.out.size)); clear hb) | (go_at_call 20; (with_reducible refine Calls.mono (M2.out _ (HT.out.next HB.out)) ?_); rintro e w1 ⟨rfl, hb⟩; replace HB := Lib.hid (HB.out.trans (hb.mono HB.out.size)); clear hb) | (go_at_call 20; (with_reducible refine Calls.mono (M3.out _ (HT.out.next HB.out)) ?_); rintro e w1 ⟨rfl, hb⟩; replace HB := Lib.hid (HB.out.trans (hb.mono HB.out.size)); clear hb) | (go_at_call 11; (with_reducible refine Calls.mono (S0.out _ (HT.out.next HB.out)) ?_); rintro e w1 ⟨rfl, hb⟩; replace HB := Lib.hid (HB.out.trans (hb.mono HB.out.size)); clear hb) | (go_at_call 17; (with_reducible refine Calls.mono (Q1.out _ (HT.out.next HB.out)) ?_); rintro e w1 ⟨rfl, hb⟩; replace HB := Lib.hid (HB.out.trans (hb.mono HB.out.size)); clear hb) | (go_at_call 15; (with_reducible refine Calls.mono (P1.out _ (HT.out.next HB.out)) ?_); rintro e w1 ⟨rfl, hb⟩; replace HB := Lib.hid (HB.out.trans (hb.mono HB.out.size)); clear hb) | (go_at_call 14; (with_reducible refine Calls.mono (P2.out _ (HT.out.next HB.out)) ?_); rintro e w1 ⟨rfl, hb⟩; replace HB := Lib.hid (HB.out.trans (hb.mono HB.out.size)); clear hb) | (go_at_call 14; (with_reducible refine Calls.mono (P3.out _ (HT.out.next HB.out)) ?_); rintro e w1 ⟨rfl, hb⟩; replace HB := Lib.hid (HB.out.trans (hb.mono HB.out.size)); clear hb) | (go_at_call 17; (with_reducible refine Calls.mono (Q2.out _ (HT.out.next HB.out)) ?_); rintro e w1 ⟨rfl, hb⟩; replace HB := Lib.hid (HB.out.trans (hb.mono HB.out.size)); clear hb) | (go_at_call 17; (with_reducible refine Calls.mono (Q3.out _ (HT.out.next HB.out)) ?_); rintro e w1 ⟨rfl, hb⟩; replace HB := Lib.hid (HB.out.trans (hb.mono HB.out.size)); clear hb) | (go_at_call 17; (with_reducible refine Calls.mono (Q4.out _ (HT.out.next HB.out)) ?_); rintro e w1 ⟨rfl, hb⟩; replace HB := Lib.hid (HB.out.trans (hb.mono HB.out.size)); clear hb) | (go_at_call 17; (with_reducible refine Calls.mono (Q5.out _ (HT.out.next HB.out)) ?_); rintro e w1 ⟨rfl, hb⟩; replace HB := Lib.hid (HB.out.trans (hb.mono HB.out.size)); clear hb))
      go_ret
      exact ⟨rfl, HB.out⟩
  · rcases Int.lt_trichotomy y z with h2 | h2 | h2
    · obtain ⟨g3, hg3⟩ : ∃ g, sg x z = g := ⟨_, rfl⟩
      have t3 : decide (g3 ≤ 0) = true := by
        rw [← hg3]; refine decide_eq_true ?_
        unfold sg; split
        · omega
        · split <;> omega
      rw [decide_eq_true h] at teq
      have Q1 : Hid (CallT 17 #[strOf (Lib.itoa x), strOf (Lib.itoa y)] (.int .i64 (0))) := Lib.hid (cmp_c (x) (y) _ (sg_eq (by omega)) (hx.ok (by decide)) (hy.ok (by decide)))
      have P1 : Hid (CallT 15 #[strOf (Lib.itoa x), strOf (Lib.itoa y)] (.tuple #[strOf (Lib.itoa (x - y)), .int .i64 0])) := Lib.hid (sub_c (x) (y) (x - y) (rfl) (hx.ok (by decide)) (hy.ok (by decide)) (bd.ok (by decide)))
      have P2 : Hid (CallT 14 #[strOf (Lib.itoa x), strOf (Lib.itoa z)] (.tuple #[strOf (Lib.itoa (x + z)), .int .i64 0])) := Lib.hid (add_c (x) (z) (x + z) (rfl) (hx.ok (by decide)) (hz.ok (by decide)) (b1.ok (by decide)))
      have P3 : Hid (CallT 14 #[strOf (Lib.itoa y), strOf (Lib.itoa z)] (.tuple #[strOf (Lib.itoa (y + z)), .int .i64 0])) := Lib.hid (add_c (y) (z) (y + z) (rfl) (hy.ok (by decide)) (hz.ok (by decide)) (b2.ok (by decide)))
      have Q2 : Hid (CallT 17 #[strOf (Lib.itoa y), strOf (Lib.itoa x)] (.int .i64 (0))) := Lib.hid (cmp_c (y) (x) _ (sg_eq (by omega)) (hy.ok (by decide)) (hx.ok (by decide)))
      have Q3 : Hid (CallT 17 #[strOf (Lib.itoa (x - y)), .string ⟨#[48]⟩] (.int .i64 (0))) := Lib.hid (by rw [← lit0]; exact cmp_c (x - y) (0) _ (sg_eq (by omega)) (bd.ok (by decide)) ok0)
      have Q4 : Hid (CallT 17 #[strOf (Lib.itoa (x + z)), strOf (Lib.itoa (y + z))] (.int .i64 (0))) := Lib.hid (cmp_c (x + z) (y + z) _ (sg_eq (by omega)) (b1.ok (by decide)) (b2.ok (by decide)))
      have Q5 : Hid (CallT 17 #[strOf (Lib.itoa y), strOf (Lib.itoa z)] (.int .i64 (-1))) := Lib.hid (cmp_c (y) (z) _ (sg_lt (by omega)) (hy.ok (by decide)) (hz.ok (by decide)))
      have Q6 : Hid (CallT 17 #[strOf (Lib.itoa x), strOf (Lib.itoa z)] (.int .i64 (g3))) := Lib.hid (cmp_c (x) (z) _ (hg3) (hx.ok (by decide)) (hz.ok (by decide)))
      have HT := Lib.hid ht
      have HB := Lib.hid (Below.refl w.heap.size w)
      clear ht hx hy hz bd b1 b2 h h2 hg3
      go_enter Tryd.func9, Tryd.ntmps9
      go_wp2_with (first | (go_at_call 20; (with_reducible refine Calls.mono (M1.out _ (HT.out.next HB.out)) ?_); rintro e w1 ⟨rfl, hb⟩; replace HB := Lib.hid (HB.out.trans (hb.mono HB.out.size)); clear hb) | (go_at_call 20; (with_reducible refine Calls.mono (M2.out _ (HT.out.next HB.out)) ?_); rintro e w1 ⟨rfl, hb⟩; replace HB := Lib.hid (HB.out.trans (hb.mono HB.out.size)); clear hb) | (go_at_call 20; (with_reducible refine Calls.mono (M3.out _ (HT.out.next HB.out)) ?_); rintro e w1 ⟨rfl, hb⟩; replace HB := Lib.hid (HB.out.trans (hb.mono HB.out.size)); clear hb) | (go_at_call 11; (with_reducible refine Calls.mono (S0.out _ (HT.out.next HB.out)) ?_); rintro e w1 ⟨rfl, hb⟩; replace HB := Lib.hid (HB.out.trans (hb.mono HB.out.size)); clear hb) | (go_at_call 17; (with_reducible refine Calls.mono (Q1.out _ (HT.out.next HB.out)) ?_); rintro e w1 ⟨rfl, hb⟩; replace HB := Lib.hid (HB.out.trans (hb.mono HB.out.size)); clear hb) | (go_at_call 15; (with_reducible refine Calls.mono (P1.out _ (HT.out.next HB.out)) ?_); rintro e w1 ⟨rfl, hb⟩; replace HB := Lib.hid (HB.out.trans (hb.mono HB.out.size)); clear hb) | (go_at_call 14; (with_reducible refine Calls.mono (P2.out _ (HT.out.next HB.out)) ?_); rintro e w1 ⟨rfl, hb⟩; replace HB := Lib.hid (HB.out.trans (hb.mono HB.out.size)); clear hb) | (go_at_call 14; (with_reducible refine Calls.mono (P3.out _ (HT.out.next HB.out)) ?_); rintro e w1 ⟨rfl, hb⟩; replace HB := Lib.hid (HB.out.trans (hb.mono HB.out.size)); clear hb) | (go_at_call 17; (with_reducible refine Calls.mono (Q2.out _ (HT.out.next HB.out)) ?_); rintro e w1 ⟨rfl, hb⟩; replace HB := Lib.hid (HB.out.trans (hb.mono HB.out.size)); clear hb) | (go_at_call 17; (with_reducible refine Calls.mono (Q3.out _ (HT.out.next HB.out)) ?_); rintro e w1 ⟨rfl, hb⟩; replace HB := Lib.hid (HB.out.trans (hb.mono HB.out.size)); clear hb) | (go_at_call 17; (with_reducible refine Calls.mono (Q4.out _ (HT.out.next HB.out)) ?_); rintro e w1 ⟨rfl, hb⟩; replace HB := Lib.hid (HB.out.trans (hb.mono HB.out.size)); clear hb) | (go_at_call 17; (with_reducible refine Calls.mono (Q5.out _ (HT.out.next HB.out)) ?_); rintro e w1 ⟨rfl, hb⟩; replace HB := Lib.hid (HB.out.trans (hb.mono HB.out.size)); clear hb) | (go_at_call 17; (with_reducible refine Calls.mono (Q6.out _ (HT.out.next HB.out)) ?_); rintro e w1 ⟨rfl, hb⟩; replace HB := Lib.hid (HB.out.trans (hb.mono HB.out.size)); clear hb))
      go_ret
      exact ⟨rfl, HB.out⟩
    · obtain ⟨g3, hg3⟩ : ∃ g, sg x z = g := ⟨_, rfl⟩
      have t3 : decide (g3 ≤ 0) = true := by
        rw [← hg3]; refine decide_eq_true ?_
        unfold sg; split
        · omega
        · split <;> omega
      rw [decide_eq_true h] at teq
      have Q1 : Hid (CallT 17 #[strOf (Lib.itoa x), strOf (Lib.itoa y)] (.int .i64 (0))) := Lib.hid (cmp_c (x) (y) _ (sg_eq (by omega)) (hx.ok (by decide)) (hy.ok (by decide)))
      have P1 : Hid (CallT 15 #[strOf (Lib.itoa x), strOf (Lib.itoa y)] (.tuple #[strOf (Lib.itoa (x - y)), .int .i64 0])) := Lib.hid (sub_c (x) (y) (x - y) (rfl) (hx.ok (by decide)) (hy.ok (by decide)) (bd.ok (by decide)))
      have P2 : Hid (CallT 14 #[strOf (Lib.itoa x), strOf (Lib.itoa z)] (.tuple #[strOf (Lib.itoa (x + z)), .int .i64 0])) := Lib.hid (add_c (x) (z) (x + z) (rfl) (hx.ok (by decide)) (hz.ok (by decide)) (b1.ok (by decide)))
      have P3 : Hid (CallT 14 #[strOf (Lib.itoa y), strOf (Lib.itoa z)] (.tuple #[strOf (Lib.itoa (y + z)), .int .i64 0])) := Lib.hid (add_c (y) (z) (y + z) (rfl) (hy.ok (by decide)) (hz.ok (by decide)) (b2.ok (by decide)))
      have Q2 : Hid (CallT 17 #[strOf (Lib.itoa y), strOf (Lib.itoa x)] (.int .i64 (0))) := Lib.hid (cmp_c (y) (x) _ (sg_eq (by omega)) (hy.ok (by decide)) (hx.ok (by decide)))
      have Q3 : Hid (CallT 17 #[strOf (Lib.itoa (x - y)), .string ⟨#[48]⟩] (.int .i64 (0))) := Lib.hid (by rw [← lit0]; exact cmp_c (x - y) (0) _ (sg_eq (by omega)) (bd.ok (by decide)) ok0)
      have Q4 : Hid (CallT 17 #[strOf (Lib.itoa (x + z)), strOf (Lib.itoa (y + z))] (.int .i64 (0))) := Lib.hid (cmp_c (x + z) (y + z) _ (sg_eq (by omega)) (b1.ok (by decide)) (b2.ok (by decide)))
      have Q5 : Hid (CallT 17 #[strOf (Lib.itoa y), strOf (Lib.itoa z)] (.int .i64 (0))) := Lib.hid (cmp_c (y) (z) _ (sg_eq (by omega)) (hy.ok (by decide)) (hz.ok (by decide)))
      have Q6 : Hid (CallT 17 #[strOf (Lib.itoa x), strOf (Lib.itoa z)] (.int .i64 (g3))) := Lib.hid (cmp_c (x) (z) _ (hg3) (hx.ok (by decide)) (hz.ok (by decide)))
      have HT := Lib.hid ht
      have HB := Lib.hid (Below.refl w.heap.size w)
      clear ht hx hy hz bd b1 b2 h h2 hg3
      go_enter Tryd.func9, Tryd.ntmps9
      go_wp2_with (first | (go_at_call 20; (with_reducible refine Calls.mono (M1.out _ (HT.out.next HB.out)) ?_); rintro e w1 ⟨rfl, hb⟩; replace HB := Lib.hid (HB.out.trans (hb.mono HB.out.size)); clear hb) | (go_at_call 20; (with_reducible refine Calls.mono (M2.out _ (HT.out.next HB.out)) ?_); rintro e w1 ⟨rfl, hb⟩; replace HB := Lib.hid (HB.out.trans (hb.mono HB.out.size)); clear hb) | (go_at_call 20; (with_reducible refine Calls.mono (M3.out _ (HT.out.next HB.out)) ?_); rintro e w1 ⟨rfl, hb⟩; replace HB := Lib.hid (HB.out.trans (hb.mono HB.out.size)); clear hb) | (go_at_call 11; (with_reducible refine Calls.mono (S0.out _ (HT.out.next HB.out)) ?_); rintro e w1 ⟨rfl, hb⟩; replace HB := Lib.hid (HB.out.trans (hb.mono HB.out.size)); clear hb) | (go_at_call 17; (with_reducible refine Calls.mono (Q1.out _ (HT.out.next HB.out)) ?_); rintro e w1 ⟨rfl, hb⟩; replace HB := Lib.hid (HB.out.trans (hb.mono HB.out.size)); clear hb) | (go_at_call 15; (with_reducible refine Calls.mono (P1.out _ (HT.out.next HB.out)) ?_); rintro e w1 ⟨rfl, hb⟩; replace HB := Lib.hid (HB.out.trans (hb.mono HB.out.size)); clear hb) | (go_at_call 14; (with_reducible refine Calls.mono (P2.out _ (HT.out.next HB.out)) ?_); rintro e w1 ⟨rfl, hb⟩; replace HB := Lib.hid (HB.out.trans (hb.mono HB.out.size)); clear hb) | (go_at_call 14; (with_reducible refine Calls.mono (P3.out _ (HT.out.next HB.out)) ?_); rintro e w1 ⟨rfl, hb⟩; replace HB := Lib.hid (HB.out.trans (hb.mono HB.out.size)); clear hb) | (go_at_call 17; (with_reducible refine Calls.mono (Q2.out _ (HT.out.next HB.out)) ?_); rintro e w1 ⟨rfl, hb⟩; replace HB := Lib.hid (HB.out.trans (hb.mono HB.out.size)); clear hb) | (go_at_call 17; (with_reducible refine Calls.mono (Q3.out _ (HT.out.next HB.out)) ?_); rintro e w1 ⟨rfl, hb⟩; replace HB := Lib.hid (HB.out.trans (hb.mono HB.out.size)); clear hb) | (go_at_call 17; (with_reducible refine Calls.mono (Q4.out _ (HT.out.next HB.out)) ?_); rintro e w1 ⟨rfl, hb⟩; replace HB := Lib.hid (HB.out.trans (hb.mono HB.out.size)); clear hb) | (go_at_call 17; (with_reducible refine Calls.mono (Q5.out _ (HT.out.next HB.out)) ?_); rintro e w1 ⟨rfl, hb⟩; replace HB := Lib.hid (HB.out.trans (hb.mono HB.out.size)); clear hb) | (go_at_call 17; (with_reducible refine Calls.mono (Q6.out _ (HT.out.next HB.out)) ?_); rintro e w1 ⟨rfl, hb⟩; replace HB := Lib.hid (HB.out.trans (hb.mono HB.out.size)); clear hb))
      go_ret
      exact ⟨rfl, HB.out⟩
    · rw [decide_eq_true h] at teq
      have Q1 : Hid (CallT 17 #[strOf (Lib.itoa x), strOf (Lib.itoa y)] (.int .i64 (0))) := Lib.hid (cmp_c (x) (y) _ (sg_eq (by omega)) (hx.ok (by decide)) (hy.ok (by decide)))
      have P1 : Hid (CallT 15 #[strOf (Lib.itoa x), strOf (Lib.itoa y)] (.tuple #[strOf (Lib.itoa (x - y)), .int .i64 0])) := Lib.hid (sub_c (x) (y) (x - y) (rfl) (hx.ok (by decide)) (hy.ok (by decide)) (bd.ok (by decide)))
      have P2 : Hid (CallT 14 #[strOf (Lib.itoa x), strOf (Lib.itoa z)] (.tuple #[strOf (Lib.itoa (x + z)), .int .i64 0])) := Lib.hid (add_c (x) (z) (x + z) (rfl) (hx.ok (by decide)) (hz.ok (by decide)) (b1.ok (by decide)))
      have P3 : Hid (CallT 14 #[strOf (Lib.itoa y), strOf (Lib.itoa z)] (.tuple #[strOf (Lib.itoa (y + z)), .int .i64 0])) := Lib.hid (add_c (y) (z) (y + z) (rfl) (hy.ok (by decide)) (hz.ok (by decide)) (b2.ok (by decide)))
      have Q2 : Hid (CallT 17 #[strOf (Lib.itoa y), strOf (Lib.itoa x)] (.int .i64 (0))) := Lib.hid (cmp_c (y) (x) _ (sg_eq (by omega)) (hy.ok (by decide)) (hx.ok (by decide)))
      have Q3 : Hid (CallT 17 #[strOf (Lib.itoa (x - y)), .string ⟨#[48]⟩] (.int .i64 (0))) := Lib.hid (by rw [← lit0]; exact cmp_c (x - y) (0) _ (sg_eq (by omega)) (bd.ok (by decide)) ok0)
      have Q4 : Hid (CallT 17 #[strOf (Lib.itoa (x + z)), strOf (Lib.itoa (y + z))] (.int .i64 (0))) := Lib.hid (cmp_c (x + z) (y + z) _ (sg_eq (by omega)) (b1.ok (by decide)) (b2.ok (by decide)))
      have Q5 : Hid (CallT 17 #[strOf (Lib.itoa y), strOf (Lib.itoa z)] (.int .i64 (1))) := Lib.hid (cmp_c (y) (z) _ (sg_gt (by omega)) (hy.ok (by decide)) (hz.ok (by decide)))
      have HT := Lib.hid ht
      have HB := Lib.hid (Below.refl w.heap.size w)
      clear ht hx hy hz bd b1 b2 h h2
      go_enter Tryd.func9, Tryd.ntmps9
      go_wp2_with (first | (go_at_call 20; (with_reducible refine Calls.mono (M1.out _ (HT.out.next HB.out)) ?_); rintro e w1 ⟨rfl, hb⟩; replace HB := Lib.hid (HB.out.trans (hb.mono HB.out.size)); clear hb) | (go_at_call 20; (with_reducible refine Calls.mono (M2.out _ (HT.out.next HB.out)) ?_); rintro e w1 ⟨rfl, hb⟩; replace HB := Lib.hid (HB.out.trans (hb.mono HB.out.size)); clear hb) | (go_at_call 20; (with_reducible refine Calls.mono (M3.out _ (HT.out.next HB.out)) ?_); rintro e w1 ⟨rfl, hb⟩; replace HB := Lib.hid (HB.out.trans (hb.mono HB.out.size)); clear hb) | (go_at_call 11; (with_reducible refine Calls.mono (S0.out _ (HT.out.next HB.out)) ?_); rintro e w1 ⟨rfl, hb⟩; replace HB := Lib.hid (HB.out.trans (hb.mono HB.out.size)); clear hb) | (go_at_call 17; (with_reducible refine Calls.mono (Q1.out _ (HT.out.next HB.out)) ?_); rintro e w1 ⟨rfl, hb⟩; replace HB := Lib.hid (HB.out.trans (hb.mono HB.out.size)); clear hb) | (go_at_call 15; (with_reducible refine Calls.mono (P1.out _ (HT.out.next HB.out)) ?_); rintro e w1 ⟨rfl, hb⟩; replace HB := Lib.hid (HB.out.trans (hb.mono HB.out.size)); clear hb) | (go_at_call 14; (with_reducible refine Calls.mono (P2.out _ (HT.out.next HB.out)) ?_); rintro e w1 ⟨rfl, hb⟩; replace HB := Lib.hid (HB.out.trans (hb.mono HB.out.size)); clear hb) | (go_at_call 14; (with_reducible refine Calls.mono (P3.out _ (HT.out.next HB.out)) ?_); rintro e w1 ⟨rfl, hb⟩; replace HB := Lib.hid (HB.out.trans (hb.mono HB.out.size)); clear hb) | (go_at_call 17; (with_reducible refine Calls.mono (Q2.out _ (HT.out.next HB.out)) ?_); rintro e w1 ⟨rfl, hb⟩; replace HB := Lib.hid (HB.out.trans (hb.mono HB.out.size)); clear hb) | (go_at_call 17; (with_reducible refine Calls.mono (Q3.out _ (HT.out.next HB.out)) ?_); rintro e w1 ⟨rfl, hb⟩; replace HB := Lib.hid (HB.out.trans (hb.mono HB.out.size)); clear hb) | (go_at_call 17; (with_reducible refine Calls.mono (Q4.out _ (HT.out.next HB.out)) ?_); rintro e w1 ⟨rfl, hb⟩; replace HB := Lib.hid (HB.out.trans (hb.mono HB.out.size)); clear hb) | (go_at_call 17; (with_reducible refine Calls.mono (Q5.out _ (HT.out.next HB.out)) ?_); rintro e w1 ⟨rfl, hb⟩; replace HB := Lib.hid (HB.out.trans (hb.mono HB.out.size)); clear hb))
      go_ret
      exact ⟨rfl, HB.out⟩
  · rw [decide_eq_false (show ¬ x = y by omega)] at teq
    have Q1 : Hid (CallT 17 #[strOf (Lib.itoa x), strOf (Lib.itoa y)] (.int .i64 (1))) := Lib.hid (cmp_c (x) (y) _ (sg_gt (by omega)) (hx.ok (by decide)) (hy.ok (by decide)))
    have P1 : Hid (CallT 15 #[strOf (Lib.itoa x), strOf (Lib.itoa y)] (.tuple #[strOf (Lib.itoa (x - y)), .int .i64 0])) := Lib.hid (sub_c (x) (y) (x - y) (rfl) (hx.ok (by decide)) (hy.ok (by decide)) (bd.ok (by decide)))
    have P2 : Hid (CallT 14 #[strOf (Lib.itoa x), strOf (Lib.itoa z)] (.tuple #[strOf (Lib.itoa (x + z)), .int .i64 0])) := Lib.hid (add_c (x) (z) (x + z) (rfl) (hx.ok (by decide)) (hz.ok (by decide)) (b1.ok (by decide)))
    have P3 : Hid (CallT 14 #[strOf (Lib.itoa y), strOf (Lib.itoa z)] (.tuple #[strOf (Lib.itoa (y + z)), .int .i64 0])) := Lib.hid (add_c (y) (z) (y + z) (rfl) (hy.ok (by decide)) (hz.ok (by decide)) (b2.ok (by decide)))
    have Q2 : Hid (CallT 17 #[strOf (Lib.itoa y), strOf (Lib.itoa x)] (.int .i64 (-1))) := Lib.hid (cmp_c (y) (x) _ (sg_lt (by omega)) (hy.ok (by decide)) (hx.ok (by decide)))
    have Q3 : Hid (CallT 17 #[strOf (Lib.itoa (x - y)), .string ⟨#[48]⟩] (.int .i64 (1))) := Lib.hid (by rw [← lit0]; exact cmp_c (x - y) (0) _ (sg_gt (by omega)) (bd.ok (by decide)) ok0)
    have Q4 : Hid (CallT 17 #[strOf (Lib.itoa (x + z)), strOf (Lib.itoa (y + z))] (.int .i64 (1))) := Lib.hid (cmp_c (x + z) (y + z) _ (sg_gt (by omega)) (b1.ok (by decide)) (b2.ok (by decide)))
    have HT := Lib.hid ht
    have HB := Lib.hid (Below.refl w.heap.size w)
    clear ht hx hy hz bd b1 b2 h
    go_enter Tryd.func9, Tryd.ntmps9
    go_wp2_with (first | (go_at_call 20; (with_reducible refine Calls.mono (M1.out _ (HT.out.next HB.out)) ?_); rintro e w1 ⟨rfl, hb⟩; replace HB := Lib.hid (HB.out.trans (hb.mono HB.out.size)); clear hb) | (go_at_call 20; (with_reducible refine Calls.mono (M2.out _ (HT.out.next HB.out)) ?_); rintro e w1 ⟨rfl, hb⟩; replace HB := Lib.hid (HB.out.trans (hb.mono HB.out.size)); clear hb) | (go_at_call 20; (with_reducible refine Calls.mono (M3.out _ (HT.out.next HB.out)) ?_); rintro e w1 ⟨rfl, hb⟩; replace HB := Lib.hid (HB.out.trans (hb.mono HB.out.size)); clear hb) | (go_at_call 11; (with_reducible refine Calls.mono (S0.out _ (HT.out.next HB.out)) ?_); rintro e w1 ⟨rfl, hb⟩; replace HB := Lib.hid (HB.out.trans (hb.mono HB.out.size)); clear hb) | (go_at_call 17; (with_reducible refine Calls.mono (Q1.out _ (HT.out.next HB.out)) ?_); rintro e w1 ⟨rfl, hb⟩; replace HB := Lib.hid (HB.out.trans (hb.mono HB.out.size)); clear hb) | (go_at_call 15; (with_reducible refine Calls.mono (P1.out _ (HT.out.next HB.out)) ?_); rintro e w1 ⟨rfl, hb⟩; replace HB := Lib.hid (HB.out.trans (hb.mono HB.out.size)); clear hb) | (go_at_call 14; (with_reducible refine Calls.mono (P2.out _ (HT.out.next HB.out)) ?_); rintro e w1 ⟨rfl, hb⟩; replace HB := Lib.hid (HB.out.trans (hb.mono HB.out.size)); clear hb) | (go_at_call 14; (with_reducible refine Calls.mono (P3.out _ (HT.out.next HB.out)) ?_); rintro e w1 ⟨rfl, hb⟩; replace HB := Lib.hid (HB.out.trans (hb.mono HB.out.size)); clear hb) | (go_at_call 17; (with_reducible refine Calls.mono (Q2.out _ (HT.out.next HB.out)) ?_); rintro e w1 ⟨rfl, hb⟩; replace HB := Lib.hid (HB.out.trans (hb.mono HB.out.size)); clear hb) | (go_at_call 17; (with_reducible refine Calls.mono (Q3.out _ (HT.out.next HB.out)) ?_); rintro e w1 ⟨rfl, hb⟩; replace HB := Lib.hid (HB.out.trans (hb.mono HB.out.size)); clear hb) | (go_at_call 17; (with_reducible refine Calls.mono (Q4.out _ (HT.out.next HB.out)) ?_); rintro e w1 ⟨rfl, hb⟩; replace HB := Lib.hid (HB.out.trans (hb.mono HB.out.size)); clear hb))
    go_ret
    exact ⟨rfl, HB.out⟩
end Go.Proofs.YtcfgndbljnjheaaDoor
