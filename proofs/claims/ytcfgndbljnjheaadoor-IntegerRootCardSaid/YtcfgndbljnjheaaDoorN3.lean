/- The walk of IntegerRoot. -/
import Derived.Test.YtcfgndbljnjheaaDoorKf
namespace Go.Proofs.YtcfgndbljnjheaaDoor
open Go.RowKit

theorem isqrt_sq (n : Nat) : Im.isqrt (n * n) = n := Im.isqrt_uniq _ n (Nat.le_refl _) (Nat.mul_lt_mul'' (by omega) (by omega))
set_option maxRecDepth 100000 in
set_option maxHeartbeats 4000000 in
theorem root_walk (a : ByteArray) (w : World) (ht : TabP w) : Calls Tryd.prog 8 #[.string a] w fun e w' => e = .returned (.bool true) ∧ Below w.heap.size w w' := by
  have hx := made_B a 80
  have M1 : Hid (CallT 20 #[.string a, .int .i64 80] (strOf (Lib.itoa (madeZ a 80)))) := Lib.hid (made_c a 80 (by decide))
  have S0 : Hid (CallT 11 #[] (.bool true)) := Lib.hid (sane_c)
  generalize madeZ a 80 = x at *
  have bsq := hx.mul hx
  by_cases hn : x < 0
  · have te : (bs []).toList.isEmpty = true := by rw [ByteArray.toList_eq, bs_list]; rfl
    have bn : B 80 (-x) := by unfold B at *; rw [Int.natAbs_neg]; exact hx
    have tx : ((bs (Lib.itoa (-x))).toList == (bs (Lib.itoa x)).toList) = false := by rw [txt_eqb]; exact decide_eq_false (by omega)
    have R1 : Hid (CallT 22 #[strOf (Lib.itoa x)] (.tuple #[strOf [], .int .i64 30])) := Lib.hid (rootn_c x hn (hx.ok (by decide)))
    have P1 : Hid (CallT 16 #[strOf (Lib.itoa x), strOf (Lib.itoa x)] (.tuple #[strOf (Lib.itoa (x * x)), .int .i64 0])) := Lib.hid (mul_c (x) (x) (x * x) (rfl) (hx.ok (by decide)) (hx.ok (by decide)) (bsq.ok (by decide)))
    have R2 : Hid (CallT 22 #[strOf (Lib.itoa (x * x))] (.tuple #[strOf (Lib.itoa (-x)), .int .i64 0])) := Lib.hid (root_c (x * x) (-x) (by rw [Int.natAbs_mul, isqrt_sq]; omega) (by have := Int.natAbs_mul_self (a := x); omega) (bsq.ok (by decide)) (bn.ok (by decide)))
    have P2 : Hid (CallT 14 #[strOf (Lib.itoa (-x)), strOf (Lib.itoa x)] (.tuple #[.string ⟨#[48]⟩, .int .i64 0])) := Lib.hid (by rw [← lit0]; exact add_c (-x) (x) (0) ((by omega)) (bn.ok (by decide)) (hx.ok (by decide)) ok0)
    have Q1 : Hid (CallT 17 #[strOf (Lib.itoa x), .string ⟨#[48]⟩] (.int .i64 (-1))) := Lib.hid (by rw [← lit0]; exact cmp_c (x) (0) _ (sg_lt hn) (hx.ok (by decide)) ok0)
    have HT := Lib.hid ht
    have HB := Lib.hid (Below.refl w.heap.size w)
    clear ht hx bsq hn bn
    go_enter Tryd.func8, Tryd.ntmps8
    go_wp2_with (first | (go_at_call 20; (with_reducible refine Calls.mono (M1.out _ (HT.out.next HB.out)) ?_); rintro e w1 ⟨rfl, hb⟩; replace HB := Lib.hid (HB.out.trans (hb.mono HB.out.size)); clear hb) | (go_at_call 11; (with_reducible refine Calls.mono (S0.out _ (HT.out.next HB.out)) ?_); rintro e w1 ⟨rfl, hb⟩; replace HB := Lib.hid (HB.out.trans (hb.mono HB.out.size)); clear hb) | (go_at_call 22; (with_reducible refine Calls.mono (R1.out _ (HT.out.next HB.out)) ?_); rintro e w1 ⟨rfl, hb⟩; replace HB := Lib.hid (HB.out.trans (hb.mono HB.out.size)); clear hb) | (go_at_call 16; (with_reducible refine Calls.mono (P1.out _ (HT.out.next HB.out)) ?_); rintro e w1 ⟨rfl, hb⟩; replace HB := Lib.hid (HB.out.trans (hb.mono HB.out.size)); clear hb) | (go_at_call 22; (with_reducible refine Calls.mono (R2.out _ (HT.out.next HB.out)) ?_); rintro e w1 ⟨rfl, hb⟩; replace HB := Lib.hid (HB.out.trans (hb.mono HB.out.size)); clear hb) | (go_at_call 14; (with_reducible refine Calls.mono (P2.out _ (HT.out.next HB.out)) ?_); rintro e w1 ⟨rfl, hb⟩; replace HB := Lib.hid (HB.out.trans (hb.mono HB.out.size)); clear hb) | (go_at_call 17; (with_reducible refine Calls.mono (Q1.out _ (HT.out.next HB.out)) ?_); rintro e w1 ⟨rfl, hb⟩; replace HB := Lib.hid (HB.out.trans (hb.mono HB.out.size)); clear hb))
    go_ret
    exact ⟨rfl, HB.out⟩
  · obtain ⟨r, hr⟩ : ∃ r : Int, ((Im.isqrt x.natAbs : Nat) : Int) = r := ⟨_, rfl⟩
    have hlo1 := Im.isqrt_lo x.natAbs
    have hhi1 := Im.isqrt_hi x.natAbs
    have hle := isqrt_le x.natAbs
    have br : B 80 r := by unfold B at *; omega
    have hlo : r * r ≤ x := by
      have : ((Im.isqrt x.natAbs * Im.isqrt x.natAbs : Nat) : Int) ≤ ((x.natAbs : Nat) : Int) := by exact_mod_cast hlo1
      rw [Int.natCast_mul, hr] at this; omega
    have hhi : x < (r + 1) * (r + 1) := by
      have : ((x.natAbs : Nat) : Int) < (((Im.isqrt x.natAbs + 1) * (Im.isqrt x.natAbs + 1) : Nat) : Int) := by exact_mod_cast hhi1
      rw [Int.natCast_mul, Int.natCast_add, hr] at this
      have e : ((1 : Nat) : Int) = 1 := rfl
      rw [e] at this; omega
    have bxx := hx.add hx
    have blow := br.mul br
    have bnx := br.add (B1 80 (by decide))
    have bhi := bnx.mul bnx
    obtain ⟨g0, hg0⟩ : ∃ g, sg x 0 = g := ⟨_, rfl⟩
    have t0 : decide (g0 < 0) = false := by
      rw [← hg0]; refine decide_eq_false ?_
      unfold sg; split
      · omega
      · split <;> omega
    obtain ⟨g1, hg1⟩ : ∃ g, sg (r * r) x = g := ⟨_, rfl⟩
    have t1 : decide (g1 ≤ 0) = true := by
      rw [← hg1]; refine decide_eq_true ?_
      unfold sg; split
      · omega
      · split <;> omega
    have R1 : Hid (CallT 22 #[strOf (Lib.itoa x)] (.tuple #[strOf (Lib.itoa r), .int .i64 0])) := Lib.hid (root_c x r hr hn (hx.ok (by decide)) (br.ok (by decide)))
    have P1 : Hid (CallT 16 #[strOf (Lib.itoa x), strOf (Lib.itoa x)] (.tuple #[strOf (Lib.itoa (x * x)), .int .i64 0])) := Lib.hid (mul_c (x) (x) (x * x) (rfl) (hx.ok (by decide)) (hx.ok (by decide)) (bsq.ok (by decide)))
    have R2 : Hid (CallT 22 #[strOf (Lib.itoa (x * x))] (.tuple #[strOf (Lib.itoa x), .int .i64 0])) := Lib.hid (root_c (x * x) x (by rw [Int.natAbs_mul, isqrt_sq]; omega) (by have := Int.natAbs_mul_self (a := x); omega) (bsq.ok (by decide)) (hx.ok (by decide)))
    have P2 : Hid (CallT 14 #[strOf (Lib.itoa x), strOf (Lib.itoa x)] (.tuple #[strOf (Lib.itoa (x + x)), .int .i64 0])) := Lib.hid (add_c (x) (x) (x + x) (rfl) (hx.ok (by decide)) (hx.ok (by decide)) (bxx.ok (by decide)))
    have Q1 : Hid (CallT 17 #[strOf (Lib.itoa x), .string ⟨#[48]⟩] (.int .i64 (g0))) := Lib.hid (by rw [← lit0]; exact cmp_c (x) (0) _ (hg0) (hx.ok (by decide)) ok0)
    have P3 : Hid (CallT 16 #[strOf (Lib.itoa r), strOf (Lib.itoa r)] (.tuple #[strOf (Lib.itoa (r * r)), .int .i64 0])) := Lib.hid (mul_c (r) (r) (r * r) (rfl) (br.ok (by decide)) (br.ok (by decide)) (blow.ok (by decide)))
    have P4 : Hid (CallT 14 #[strOf (Lib.itoa r), .string ⟨#[49]⟩] (.tuple #[strOf (Lib.itoa (r + 1)), .int .i64 0])) := Lib.hid (by rw [← lit1]; exact add_c (r) (1) (r + 1) (rfl) (br.ok (by decide)) ok1 (bnx.ok (by decide)))
    have P5 : Hid (CallT 16 #[strOf (Lib.itoa (r + 1)), strOf (Lib.itoa (r + 1))] (.tuple #[strOf (Lib.itoa ((r + 1) * (r + 1))), .int .i64 0])) := Lib.hid (mul_c (r + 1) (r + 1) ((r + 1) * (r + 1)) (rfl) (bnx.ok (by decide)) (bnx.ok (by decide)) (bhi.ok (by decide)))
    have Q2 : Hid (CallT 17 #[strOf (Lib.itoa (r * r)), strOf (Lib.itoa x)] (.int .i64 (g1))) := Lib.hid (cmp_c (r * r) (x) _ (hg1) (blow.ok (by decide)) (hx.ok (by decide)))
    have Q3 : Hid (CallT 17 #[strOf (Lib.itoa ((r + 1) * (r + 1))), strOf (Lib.itoa x)] (.int .i64 (1))) := Lib.hid (cmp_c ((r + 1) * (r + 1)) (x) _ (sg_gt hhi) (bhi.ok (by decide)) (hx.ok (by decide)))
    have HT := Lib.hid ht
    have HB := Lib.hid (Below.refl w.heap.size w)
    clear ht hx bsq hn hr hlo1 hhi1 hle br hlo hhi bxx blow bnx bhi hg0 hg1
    go_enter Tryd.func8, Tryd.ntmps8
    go_wp2_with (first | (go_at_call 20; (with_reducible refine Calls.mono (M1.out _ (HT.out.next HB.out)) ?_); rintro e w1 ⟨rfl, hb⟩; replace HB := Lib.hid (HB.out.trans (hb.mono HB.out.size)); clear hb) | (go_at_call 11; (with_reducible refine Calls.mono (S0.out _ (HT.out.next HB.out)) ?_); rintro e w1 ⟨rfl, hb⟩; replace HB := Lib.hid (HB.out.trans (hb.mono HB.out.size)); clear hb) | (go_at_call 22; (with_reducible refine Calls.mono (R1.out _ (HT.out.next HB.out)) ?_); rintro e w1 ⟨rfl, hb⟩; replace HB := Lib.hid (HB.out.trans (hb.mono HB.out.size)); clear hb) | (go_at_call 16; (with_reducible refine Calls.mono (P1.out _ (HT.out.next HB.out)) ?_); rintro e w1 ⟨rfl, hb⟩; replace HB := Lib.hid (HB.out.trans (hb.mono HB.out.size)); clear hb) | (go_at_call 22; (with_reducible refine Calls.mono (R2.out _ (HT.out.next HB.out)) ?_); rintro e w1 ⟨rfl, hb⟩; replace HB := Lib.hid (HB.out.trans (hb.mono HB.out.size)); clear hb) | (go_at_call 14; (with_reducible refine Calls.mono (P2.out _ (HT.out.next HB.out)) ?_); rintro e w1 ⟨rfl, hb⟩; replace HB := Lib.hid (HB.out.trans (hb.mono HB.out.size)); clear hb) | (go_at_call 17; (with_reducible refine Calls.mono (Q1.out _ (HT.out.next HB.out)) ?_); rintro e w1 ⟨rfl, hb⟩; replace HB := Lib.hid (HB.out.trans (hb.mono HB.out.size)); clear hb) | (go_at_call 16; (with_reducible refine Calls.mono (P3.out _ (HT.out.next HB.out)) ?_); rintro e w1 ⟨rfl, hb⟩; replace HB := Lib.hid (HB.out.trans (hb.mono HB.out.size)); clear hb) | (go_at_call 14; (with_reducible refine Calls.mono (P4.out _ (HT.out.next HB.out)) ?_); rintro e w1 ⟨rfl, hb⟩; replace HB := Lib.hid (HB.out.trans (hb.mono HB.out.size)); clear hb) | (go_at_call 16; (with_reducible refine Calls.mono (P5.out _ (HT.out.next HB.out)) ?_); rintro e w1 ⟨rfl, hb⟩; replace HB := Lib.hid (HB.out.trans (hb.mono HB.out.size)); clear hb) | (go_at_call 17; (with_reducible refine Calls.mono (Q2.out _ (HT.out.next HB.out)) ?_); rintro e w1 ⟨rfl, hb⟩; replace HB := Lib.hid (HB.out.trans (hb.mono HB.out.size)); clear hb) | (go_at_call 17; (with_reducible refine Calls.mono (Q3.out _ (HT.out.next HB.out)) ?_); rintro e w1 ⟨rfl, hb⟩; replace HB := Lib.hid (HB.out.trans (hb.mono HB.out.size)); clear hb))
    go_ret
    exact ⟨rfl, HB.out⟩
end Go.Proofs.YtcfgndbljnjheaaDoor
