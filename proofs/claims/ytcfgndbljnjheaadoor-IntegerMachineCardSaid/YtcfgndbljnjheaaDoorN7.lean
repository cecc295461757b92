/- The walk of IntegerMachine. -/
import Derived.Test.YtcfgndbljnjheaaDoorKi
namespace Go.Proofs.YtcfgndbljnjheaaDoor
open Go.RowKit

theorem tparts (x y : Int) : y * x.tdiv y + x.tmod y = x := Int.mul_tdiv_add_tmod x y
set_option maxRecDepth 100000 in
set_option maxHeartbeats 100000000 in
theorem machine_walk (x y : Int) (w : World) (ht : TabP w) (hx0 : -2147483648 ≤ x) (hx1 : x ≤ 2147483647) (hy0 : -2147483648 ≤ y) (hy1 : y ≤ 2147483647) : Calls Tryd.prog 3 #[.int .i32 x, .int .i32 y] w fun e w' => e = .returned (.bool true) ∧ Below w.heap.size w w' := by
  have okx := ok_int x (by omega) (by omega)
  have oky := ok_int y (by omega) (by omega)
  have hp : (x * y).natAbs ≤ 4611686018427387904 := by
    rw [Int.natAbs_mul]
    exact Nat.mul_le_mul (show x.natAbs ≤ 2147483648 by omega) (show y.natAbs ≤ 2147483648 by omega)
  obtain ⟨p, hpp⟩ : ∃ p, x * y = p := ⟨_, rfl⟩
  rw [hpp] at hp
  have ok1' := ok_int (x + y) (by omega) (by omega)
  have ok2' := ok_int (x - y) (by omega) (by omega)
  have ok3' := ok_int p (by omega) (by omega)
  have c1 : IntKind.i64.wrap x = x := IntWalk.i64_in _ (by omega)
  have c2 : IntKind.i64.wrap y = y := IntWalk.i64_in _ (by omega)
  have c3 : IntKind.i64.wrap (x + y) = x + y := IntWalk.i64_in _ (by omega)
  have c4 : IntKind.i64.wrap (x - y) = x - y := IntWalk.i64_in _ (by omega)
  have c5 : IntKind.i64.wrap p = p := IntWalk.i64_in _ (by omega)
  have te : (⟨#[]⟩ : ByteArray).toList.isEmpty = true := by rw [ByteArray.toList_eq]; rfl
  have S0 : Hid (CallT 11 #[] (.bool true)) := Lib.hid (sane_c)
  have F1 : Hid (CallT 12 #[.int .i64 x] (strOf (Lib.itoa x))) := Lib.hid (from_c x (by omega) (by omega))
  have F2 : Hid (CallT 12 #[.int .i64 y] (strOf (Lib.itoa y))) := Lib.hid (from_c y (by omega) (by omega))
  have T1 : Hid (CallT 13 #[strOf (Lib.itoa x)] (.tuple #[.int .i64 x, .int .i64 0])) := Lib.hid (toInt_c x okx (by omega) (by omega))
  have A1 : Hid (CallT 14 #[strOf (Lib.itoa x), strOf (Lib.itoa y)] (.tuple #[strOf (Lib.itoa (x + y)), .int .i64 0])) := Lib.hid (add_c (x) (y) (x + y) (rfl) okx oky ok1')
  have A2 : Hid (CallT 15 #[strOf (Lib.itoa x), strOf (Lib.itoa y)] (.tuple #[strOf (Lib.itoa (x - y)), .int .i64 0])) := Lib.hid (sub_c (x) (y) (x - y) (rfl) okx oky ok2')
  have A3 : Hid (CallT 16 #[strOf (Lib.itoa x), strOf (Lib.itoa y)] (.tuple #[strOf (Lib.itoa p), .int .i64 0])) := Lib.hid (mul_c (x) (y) (p) (hpp) okx oky ok3')
  have F3 : Hid (CallT 12 #[.int .i64 (x + y)] (strOf (Lib.itoa (x + y)))) := Lib.hid (from_c _ (by omega) (by omega))
  have F4 : Hid (CallT 12 #[.int .i64 (x - y)] (strOf (Lib.itoa (x - y)))) := Lib.hid (from_c _ (by omega) (by omega))
  have F5 : Hid (CallT 12 #[.int .i64 p] (strOf (Lib.itoa p))) := Lib.hid (from_c _ (by omega) (by omega))
  rcases Int.lt_trichotomy x y with h | h | h
  · have t1 : decide (x < y) = true := decide_eq_true h
    have t2 : decide (y < x) = false := decide_eq_false (by omega)
    have Q1 : Hid (CallT 17 #[strOf (Lib.itoa x), strOf (Lib.itoa y)] (.int .i64 (-1))) := Lib.hid (cmp_c (x) (y) _ (sg_lt (by omega)) okx oky)
    by_cases hyz : y = 0
    · have t5 : (y == 0) = true := by rw [hyz]; rfl
      have D0 : Hid (CallT 18 #[strOf (Lib.itoa x), strOf (Lib.itoa y)] (.tuple #[.string ⟨#[]⟩, .string ⟨#[]⟩, .int .i64 30])) := Lib.hid (by rw [hyz]; exact div0_c x okx)
      have HT := Lib.hid ht
      have HB := Lib.hid (Below.refl w.heap.size w)
      clear ht hx0 hx1 hy0 hy1 okx oky hp ok1' ok2' ok3' h hyz
      go_enter Tryd.func3, Tryd.ntmps3
      go_wp2_with (first | (go_at_call 11; (with_reducible refine Calls.mono (S0.out _ (HT.out.next HB.out)) ?_); rintro e w1 ⟨rfl, hb⟩; replace HB := Lib.hid (HB.out.trans (hb.mono HB.out.size)); clear hb) | (go_at_call 12; (with_reducible refine Calls.mono (F1.out _ (HT.out.next HB.out)) ?_); rintro e w1 ⟨rfl, hb⟩; replace HB := Lib.hid (HB.out.trans (hb.mono HB.out.size)); clear hb) | (go_at_call 12; (with_reducible refine Calls.mono (F2.out _ (HT.out.next HB.out)) ?_); rintro e w1 ⟨rfl, hb⟩; replace HB := Lib.hid (HB.out.trans (hb.mono HB.out.size)); clear hb) | (go_at_call 13; (with_reducible refine Calls.mono (T1.out _ (HT.out.next HB.out)) ?_); rintro e w1 ⟨rfl, hb⟩; replace HB := Lib.hid (HB.out.trans (hb.mono HB.out.size)); clear hb) | (go_at_call 14; (with_reducible refine Calls.mono (A1.out _ (HT.out.next HB.out)) ?_); rintro e w1 ⟨rfl, hb⟩; replace HB := Lib.hid (HB.out.trans (hb.mono HB.out.size)); clear hb) | (go_at_call 15; (with_reducible refine Calls.mono (A2.out _ (HT.out.next HB.out)) ?_); rintro e w1 ⟨rfl, hb⟩; replace HB := Lib.hid (HB.out.trans (hb.mono HB.out.size)); clear hb) | (go_at_call 16; (with_reducible refine Calls.mono (A3.out _ (HT.out.next HB.out)) ?_); rintro e w1 ⟨rfl, hb⟩; replace HB := Lib.hid (HB.out.trans (hb.mono HB.out.size)); clear hb) | (go_at_call 12; (with_reducible refine Calls.mono (F3.out _ (HT.out.next HB.out)) ?_); rintro e w1 ⟨rfl, hb⟩; replace HB := Lib.hid (HB.out.trans (hb.mono HB.out.size)); clear hb) | (go_at_call 12; (with_reducible refine Calls.mono (F4.out _ (HT.out.next HB.out)) ?_); rintro e w1 ⟨rfl, hb⟩; replace HB := Lib.hid (HB.out.trans (hb.mono HB.out.size)); clear hb) | (go_at_call 12; (with_reducible refine Calls.mono (F5.out _ (HT.out.next HB.out)) ?_); rintro e w1 ⟨rfl, hb⟩; replace HB := Lib.hid (HB.out.trans (hb.mono HB.out.size)); clear hb) | (go_at_call 17; (with_reducible refine Calls.mono (Q1.out _ (HT.out.next HB.out)) ?_); rintro e w1 ⟨rfl, hb⟩; replace HB := Lib.hid (HB.out.trans (hb.mono HB.out.size)); clear hb) | (go_at_call 18; (with_reducible refine Calls.mono (D0.out _ (HT.out.next HB.out)) ?_); rintro e w1 ⟨rfl, hb⟩; replace HB := Lib.hid (HB.out.trans (hb.mono HB.out.size)); clear hb))
      go_ret
      exact ⟨rfl, HB.out⟩
    · have t4 : (y == 0) = false := by rw [beq_eq_false_iff_ne]; exact hyz
      have hxy := tparts x y
      have hqb : (x.tdiv y).natAbs ≤ 2147483648 := by rw [Int.natAbs_tdiv]; exact Nat.le_trans (Nat.div_le_self _ _) (by omega)
      have hrb : (x.tmod y).natAbs < y.natAbs := by rw [Int.natAbs_tmod]; exact Nat.mod_lt _ (by omega)
      obtain ⟨q0, hq0⟩ : ∃ q, x.tdiv y = q := ⟨_, rfl⟩
      obtain ⟨r0, hr0⟩ : ∃ r, x.tmod y = r := ⟨_, rfl⟩
      rw [hq0, hr0] at hxy
      rw [hq0] at hqb
      rw [hr0] at hrb
      have w1 : IntKind.i64.wrap q0 = q0 := IntWalk.i64_in _ (by omega)
      have w2 : IntKind.i64.wrap r0 = r0 := IntWalk.i64_in _ (by omega)
      by_cases hneg : r0 < 0
      · by_cases hpos : 0 < y
        · have hd : q0 - 1 = x / y ∧ r0 + y = x % y := euc_uniq x y (q0 - 1) (r0 + y) hyz (by rw [Int.mul_sub, Int.mul_one]; omega) (by omega) (by omega)
          have okq := ok_int (q0 - 1) (by omega) (by omega)
          have okr := ok_int (r0 + y) (by omega) (by omega)
          have t5 : decide (r0 < 0) = true := decide_eq_true hneg
          have t6 : decide (0 < y) = true := decide_eq_true hpos
          have t7 : decide (r0 + y < 0) = false := decide_eq_false (by omega)
          have w5 : IntKind.i64.wrap (r0 + y) = r0 + y := IntWalk.i64_in _ (by omega)
          have w6 : IntKind.i64.wrap (q0 - 1) = q0 - 1 := IntWalk.i64_in _ (by omega)
          have D1 : Hid (CallT 18 #[strOf (Lib.itoa x), strOf (Lib.itoa y)] (.tuple #[strOf (Lib.itoa (q0 - 1)), strOf (Lib.itoa (r0 + y)), .int .i64 0])) := Lib.hid (div_c x y _ _ hd.1.symm hd.2.symm okx oky hyz okq okr)
          have F6 : Hid (CallT 12 #[.int .i64 (q0 - 1)] (strOf (Lib.itoa (q0 - 1)))) := Lib.hid (from_c _ (by omega) (by omega))
          have F7 : Hid (CallT 12 #[.int .i64 (r0 + y)] (strOf (Lib.itoa (r0 + y)))) := Lib.hid (from_c _ (by omega) (by omega))
          have HT := Lib.hid ht
          have HB := Lib.hid (Below.refl w.heap.size w)
          clear ht hx0 hx1 hy0 hy1 okx oky hp ok1' ok2' ok3' h hneg hpos hd okq okr hxy hqb hrb
          go_enter Tryd.func3, Tryd.ntmps3
          go_wp2_with (first | (go_at_call 11; (with_reducible refine Calls.mono (S0.out _ (HT.out.next HB.out)) ?_); rintro e w1 ⟨rfl, hb⟩; replace HB := Lib.hid (HB.out.trans (hb.mono HB.out.size)); clear hb) | (go_at_call 12; (with_reducible refine Calls.mono (F1.out _ (HT.out.next HB.out)) ?_); rintro e w1 ⟨rfl, hb⟩; replace HB := Lib.hid (HB.out.trans (hb.mono HB.out.size)); clear hb) | (go_at_call 12; (with_reducible refine Calls.mono (F2.out _ (HT.out.next HB.out)) ?_); rintro e w1 ⟨rfl, hb⟩; replace HB := Lib.hid (HB.out.trans (hb.mono HB.out.size)); clear hb) | (go_at_call 13; (with_reducible refine Calls.mono (T1.out _ (HT.out.next HB.out)) ?_); rintro e w1 ⟨rfl, hb⟩; replace HB := Lib.hid (HB.out.trans (hb.mono HB.out.size)); clear hb) | (go_at_call 14; (with_reducible refine Calls.mono (A1.out _ (HT.out.next HB.out)) ?_); rintro e w1 ⟨rfl, hb⟩; replace HB := Lib.hid (HB.out.trans (hb.mono HB.out.size)); clear hb) | (go_at_call 15; (with_reducible refine Calls.mono (A2.out _ (HT.out.next HB.out)) ?_); rintro e w1 ⟨rfl, hb⟩; replace HB := Lib.hid (HB.out.trans (hb.mono HB.out.size)); clear hb) | (go_at_call 16; (with_reducible refine Calls.mono (A3.out _ (HT.out.next HB.out)) ?_); rintro e w1 ⟨rfl, hb⟩; replace HB := Lib.hid (HB.out.trans (hb.mono HB.out.size)); clear hb) | (go_at_call 12; (with_reducible refine Calls.mono (F3.out _ (HT.out.next HB.out)) ?_); rintro e w1 ⟨rfl, hb⟩; replace HB := Lib.hid (HB.out.trans (hb.mono HB.out.size)); clear hb) | (go_at_call 12; (with_reducible refine Calls.mono (F4.out _ (HT.out.next HB.out)) ?_); rintro e w1 ⟨rfl, hb⟩; replace HB := Lib.hid (HB.out.trans (hb.mono HB.out.size)); clear hb) | (go_at_call 12; (with_reducible refine Calls.mono (F5.out _ (HT.out.next HB.out)) ?_); rintro e w1 ⟨rfl, hb⟩; replace HB := Lib.hid (HB.out.trans (hb.mono HB.out.size)); clear hb) | (go_at_call 17; (with_reducible refine Calls.mono (Q1.out _ (HT.out.next HB.out)) ?_); rintro e w1 ⟨rfl, hb⟩; replace HB := Lib.hid (HB.out.trans (hb.mono HB.out.size)); clear hb) | (go_at_call 18; (with_reducible refine Calls.mono (D1.out _ (HT.out.next HB.out)) ?_); rintro e w1 ⟨rfl, hb⟩; replace HB := Lib.hid (HB.out.trans (hb.mono HB.out.size)); clear hb) | (go_at_call 12; (with_reducible refine Calls.mono (F6.out _ (HT.out.next HB.out)) ?_); rintro e w1 ⟨rfl, hb⟩; replace HB := Lib.hid (HB.out.trans (hb.mono HB.out.size)); clear hb) | (go_at_call 12; (with_reducible refine Calls.mono (F7.out _ (HT.out.next HB.out)) ?_); rintro e w1 ⟨rfl, hb⟩; replace HB := Lib.hid (HB.out.trans (hb.mono HB.out.size)); clear hb))
          go_ret
          exact ⟨rfl, HB.out⟩
        · have hd : q0 + 1 = x / y ∧ r0 - y = x % y := euc_uniq x y (q0 + 1) (r0 - y) hyz (by rw [Int.mul_add, Int.mul_one]; omega) (by omega) (by omega)
          have okq := ok_int (q0 + 1) (by omega) (by omega)
          have okr := ok_int (r0 - y) (by omega) (by omega)
          have t5 : decide (r0 < 0) = true := decide_eq_true hneg
          have t6 : decide (0 < y) = false := decide_eq_false hpos
          have w5 : IntKind.i64.wrap (r0 - y) = r0 - y := IntWalk.i64_in _ (by omega)
          have w6 : IntKind.i64.wrap (q0 + 1) = q0 + 1 := IntWalk.i64_in _ (by omega)
          have D1 : Hid (CallT 18 #[strOf (Lib.itoa x), strOf (Lib.itoa y)] (.tuple #[strOf (Lib.itoa (q0 + 1)), strOf (Lib.itoa (r0 - y)), .int .i64 0])) := Lib.hid (div_c x y _ _ hd.1.symm hd.2.symm okx oky hyz okq okr)
          have F6 : Hid (CallT 12 #[.int .i64 (q0 + 1)] (strOf (Lib.itoa (q0 + 1)))) := Lib.hid (from_c _ (by omega) (by omega))
          have F7 : Hid (CallT 12 #[.int .i64 (r0 - y)] (strOf (Lib.itoa (r0 - y)))) := Lib.hid (from_c _ (by omega) (by omega))
          have HT := Lib.hid ht
          have HB := Lib.hid (Below.refl w.heap.size w)
          clear ht hx0 hx1 hy0 hy1 okx oky hp ok1' ok2' ok3' h hneg hpos hd okq okr hxy hqb hrb
          go_enter Tryd.func3, Tryd.ntmps3
          go_wp2_with (first | (go_at_call 11; (with_reducible refine Calls.mono (S0.out _ (HT.out.next HB.out)) ?_); rintro e w1 ⟨rfl, hb⟩; replace HB := Lib.hid (HB.out.trans (hb.mono HB.out.size)); clear hb) | (go_at_call 12; (with_reducible refine Calls.mono (F1.out _ (HT.out.next HB.out)) ?_); rintro e w1 ⟨rfl, hb⟩; replace HB := Lib.hid (HB.out.trans (hb.mono HB.out.size)); clear hb) | (go_at_call 12; (with_reducible refine Calls.mono (F2.out _ (HT.out.next HB.out)) ?_); rintro e w1 ⟨rfl, hb⟩; replace HB := Lib.hid (HB.out.trans (hb.mono HB.out.size)); clear hb) | (go_at_call 13; (with_reducible refine Calls.mono (T1.out _ (HT.out.next HB.out)) ?_); rintro e w1 ⟨rfl, hb⟩; replace HB := Lib.hid (HB.out.trans (hb.mono HB.out.size)); clear hb) | (go_at_call 14; (with_reducible refine Calls.mono (A1.out _ (HT.out.next HB.out)) ?_); rintro e w1 ⟨rfl, hb⟩; replace HB := Lib.hid (HB.out.trans (hb.mono HB.out.size)); clear hb) | (go_at_call 15; (with_reducible refine Calls.mono (A2.out _ (HT.out.next HB.out)) ?_); rintro e w1 ⟨rfl, hb⟩; replace HB := Lib.hid (HB.out.trans (hb.mono HB.out.size)); clear hb) | (go_at_call 16; (with_reducible refine Calls.mono (A3.out _ (HT.out.next HB.out)) ?_); rintro e w1 ⟨rfl, hb⟩; replace HB := Lib.hid (HB.out.trans (hb.mono HB.out.size)); clear hb) | (go_at_call 12; (with_reducible refine Calls.mono (F3.out _ (HT.out.next HB.out)) ?_); rintro e w1 ⟨rfl, hb⟩; replace HB := Lib.hid (HB.out.trans (hb.mono HB.out.size)); clear hb) | (go_at_call 12; (with_reducible refine Calls.mono (F4.out _ (HT.out.next HB.out)) ?_); rintro e w1 ⟨rfl, hb⟩; replace HB := Lib.hid (HB.out.trans (hb.mono HB.out.size)); clear hb) | (go_at_call 12; (with_reducible refine Calls.mono (F5.out _ (HT.out.next HB.out)) ?_); rintro e w1 ⟨rfl, hb⟩; replace HB := Lib.hid (HB.out.trans (hb.mono HB.out.size)); clear hb) | (go_at_call 17; (with_reducible refine Calls.mono (Q1.out _ (HT.out.next HB.out)) ?_); rintro e w1 ⟨rfl, hb⟩; replace HB := Lib.hid (HB.out.trans (hb.mono HB.out.size)); clear hb) | (go_at_call 18; (with_reducible refine Calls.mono (D1.out _ (HT.out.next HB.out)) ?_); rintro e w1 ⟨rfl, hb⟩; replace HB := Lib.hid (HB.out.trans (hb.mono HB.out.size)); clear hb) | (go_at_call 12; (with_reducible refine Calls.mono (F6.out _ (HT.out.next HB.out)) ?_); rintro e w1 ⟨rfl, hb⟩; replace HB := Lib.hid (HB.out.trans (hb.mono HB.out.size)); clear hb) | (go_at_call 12; (with_reducible refine Calls.mono (F7.out _ (HT.out.next HB.out)) ?_); rintro e w1 ⟨rfl, hb⟩; replace HB := Lib.hid (HB.out.trans (hb.mono HB.out.size)); clear hb))
          go_ret
          exact ⟨rfl, HB.out⟩
      · have hd : q0 = x / y ∧ r0 = x % y := euc_uniq x y (q0) (r0) hyz (by exact hxy) (by omega) (by omega)
        have okq := ok_int (q0) (by omega) (by omega)
        have okr := ok_int (r0) (by omega) (by omega)
        have t5 : decide (r0 < 0) = false := decide_eq_false hneg
        have D1 : Hid (CallT 18 #[strOf (Lib.itoa x), strOf (Lib.itoa y)] (.tuple #[strOf (Lib.itoa q0), strOf (Lib.itoa r0), .int .i64 0])) := Lib.hid (div_c x y _ _ hd.1.symm hd.2.symm okx oky hyz okq okr)
        have F6 : Hid (CallT 12 #[.int .i64 (q0)] (strOf (Lib.itoa q0))) := Lib.hid (from_c _ (by omega) (by omega))
        have F7 : Hid (CallT 12 #[.int .i64 (r0)] (strOf (Lib.itoa r0))) := Lib.hid (from_c _ (by omega) (by omega))
        have HT := Lib.hid ht
        have HB := Lib.hid (Below.refl w.heap.size w)
        clear ht hx0 hx1 hy0 hy1 okx oky hp ok1' ok2' ok3' h hneg hd okq okr hxy hqb hrb
        go_enter Tryd.func3, Tryd.ntmps3
        go_wp2_with (first | (go_at_call 11; (with_reducible refine Calls.mono (S0.out _ (HT.out.next HB.out)) ?_); rintro e w1 ⟨rfl, hb⟩; replace HB := Lib.hid (HB.out.trans (hb.mono HB.out.size)); clear hb) | (go_at_call 12; (with_reducible refine Calls.mono (F1.out _ (HT.out.next HB.out)) ?_); rintro e w1 ⟨rfl, hb⟩; replace HB := Lib.hid (HB.out.trans (hb.mono HB.out.size)); clear hb) | (go_at_call 12; (with_reducible refine Calls.mono (F2.out _ (HT.out.next HB.out)) ?_); rintro e w1 ⟨rfl, hb⟩; replace HB := Lib.hid (HB.out.trans (hb.mono HB.out.size)); clear hb) | (go_at_call 13; (with_reducible refine Calls.mono (T1.out _ (HT.out.next HB.out)) ?_); rintro e w1 ⟨rfl, hb⟩; replace HB := Lib.hid (HB.out.trans (hb.mono HB.out.size)); clear hb) | (go_at_call 14; (with_reducible refine Calls.mono (A1.out _ (HT.out.next HB.out)) ?_); rintro e w1 ⟨rfl, hb⟩; replace HB := Lib.hid (HB.out.trans (hb.mono HB.out.size)); clear hb) | (go_at_call 15; (with_reducible refine Calls.mono (A2.out _ (HT.out.next HB.out)) ?_); rintro e w1 ⟨rfl, hb⟩; replace HB := Lib.hid (HB.out.trans (hb.mono HB.out.size)); clear hb) | (go_at_call 16; (with_reducible refine Calls.mono (A3.out _ (HT.out.next HB.out)) ?_); rintro e w1 ⟨rfl, hb⟩; replace HB := Lib.hid (HB.out.trans (hb.mono HB.out.size)); clear hb) | (go_at_call 12; (with_reducible refine Calls.mono (F3.out _ (HT.out.next HB.out)) ?_); rintro e w1 ⟨rfl, hb⟩; replace HB := Lib.hid (HB.out.trans (hb.mono HB.out.size)); clear hb) | (go_at_call 12; (with_reducible refine Calls.mono (F4.out _ (HT.out.next HB.out)) ?_); rintro e w1 ⟨rfl, hb⟩; replace HB := Lib.hid (HB.out.trans (hb.mono HB.out.size)); clear hb) | (go_at_call 12; (with_reducible refine Calls.mono (F5.out _ (HT.out.next HB.out)) ?_); rintro e w1 ⟨rfl, hb⟩; replace HB := Lib.hid (HB.out.trans (hb.mono HB.out.size)); clear hb) | (go_at_call 17; (with_reducible refine Calls.mono (Q1.out _ (HT.out.next HB.out)) ?_); rintro e w1 ⟨rfl, hb⟩; replace HB := Lib.hid (HB.out.trans (hb.mono HB.out.size)); clear hb) | (go_at_call 18; (with_reducible refine Calls.mono (D1.out _ (HT.out.next HB.out)) ?_); rintro e w1 ⟨rfl, hb⟩; replace HB := Lib.hid (HB.out.trans (hb.mono HB.out.size)); clear hb) | (go_at_call 12; (with_reducible refine Calls.mono (F6.out _ (HT.out.next HB.out)) ?_); rintro e w1 ⟨rfl, hb⟩; replace HB := Lib.hid (HB.out.trans (hb.mono HB.out.size)); clear hb) | (go_at_call 12; (with_reducible refine Calls.mono (F7.out _ (HT.out.next HB.out)) ?_); rintro e w1 ⟨rfl, hb⟩; replace HB := Lib.hid (HB.out.trans (hb.mono HB.out.size)); clear hb))
        go_ret
        exact ⟨rfl, HB.out⟩
  · have t1 : decide (x < y) = false := decide_eq_false (by omega)
    have t2 : decide (y < x) = false := decide_eq_false (by omega)
    have Q1 : Hid (CallT 17 #[strOf (Lib.itoa x), strOf (Lib.itoa y)] (.int .i64 (0))) := Lib.hid (cmp_c (x) (y) _ (sg_eq (by omega)) okx oky)
    by_cases hyz : y = 0
    · have t5 : (y == 0) = true := by rw [hyz]; rfl
      have D0 : Hid (CallT 18 #[strOf (Lib.itoa x), strOf (Lib.itoa y)] (.tuple #[.string ⟨#[]⟩, .string ⟨#[]⟩, .int .i64 30])) := Lib.hid (by rw [hyz]; exact div0_c x okx)
      have HT := Lib.hid ht
      have HB := Lib.hid (Below.refl w.heap.size w)
      clear ht hx0 hx1 hy0 hy1 okx oky hp ok1' ok2' ok3' h hyz
      go_enter Tryd.func3, Tryd.ntmps3
      go_wp2_with (first | (go_at_call 11; (with_reducible refine Calls.mono (S0.out _ (HT.out.next HB.out)) ?_); rintro e w1 ⟨rfl, hb⟩; replace HB := Lib.hid (HB.out.trans (hb.mono HB.out.size)); clear hb) | (go_at_call 12; (with_reducible refine Calls.mono (F1.out _ (HT.out.next HB.out)) ?_); rintro e w1 ⟨rfl, hb⟩; replace HB := Lib.hid (HB.out.trans (hb.mono HB.out.size)); clear hb) | (go_at_call 12; (with_reducible refine Calls.mono (F2.out _ (HT.out.next HB.out)) ?_); rintro e w1 ⟨rfl, hb⟩; replace HB := Lib.hid (HB.out.trans (hb.mono HB.out.size)); clear hb) | (go_at_call 13; (with_reducible refine Calls.mono (T1.out _ (HT.out.next HB.out)) ?_); rintro e w1 ⟨rfl, hb⟩; replace HB := Lib.hid (HB.out.trans (hb.mono HB.out.size)); clear hb) | (go_at_call 14; (with_reducible refine Calls.mono (A1.out _ (HT.out.next HB.out)) ?_); rintro e w1 ⟨rfl, hb⟩; replace HB := Lib.hid (HB.out.trans (hb.mono HB.out.size)); clear hb) | (go_at_call 15; (with_reducible refine Calls.mono (A2.out _ (HT.out.next HB.out)) ?_); rintro e w1 ⟨rfl, hb⟩; replace HB := Lib.hid (HB.out.trans (hb.mono HB.out.size)); clear hb) | (go_at_call 16; (with_reducible refine Calls.mono (A3.out _ (HT.out.next HB.out)) ?_); rintro e w1 ⟨rfl, hb⟩; replace HB := Lib.hid (HB.out.trans (hb.mono HB.out.size)); clear hb) | (go_at_call 12; (with_reducible refine Calls.mono (F3.out _ (HT.out.next HB.out)) ?_); rintro e w1 ⟨rfl, hb⟩; replace HB := Lib.hid (HB.out.trans (hb.mono HB.out.size)); clear hb) | (go_at_call 12; (with_reducible refine Calls.mono (F4.out _ (HT.out.next HB.out)) ?_); rintro e w1 ⟨rfl, hb⟩; replace HB := Lib.hid (HB.out.trans (hb.mono HB.out.size)); clear hb) | (go_at_call 12; (with_reducible refine Calls.mono (F5.out _ (HT.out.next HB.out)) ?_); rintro e w1 ⟨rfl, hb⟩; replace HB := Lib.hid (HB.out.trans (hb.mono HB.out.size)); clear hb) | (go_at_call 17; (with_reducible refine Calls.mono (Q1.out _ (HT.out.next HB.out)) ?_); rintro e w1 ⟨rfl, hb⟩; replace HB := Lib.hid (HB.out.trans (hb.mono HB.out.size)); clear hb) | (go_at_call 18; (with_reducible refine Calls.mono (D0.out _ (HT.out.next HB.out)) ?_); rintro e w1 ⟨rfl, hb⟩; replace HB := Lib.hid (HB.out.trans (hb.mono HB.out.size)); clear hb))
      go_ret
      exact ⟨rfl, HB.out⟩
    · have t4 : (y == 0) = false := by rw [beq_eq_false_iff_ne]; exact hyz
      have hxy := tparts x y
      have hqb : (x.tdiv y).natAbs ≤ 2147483648 := by rw [Int.natAbs_tdiv]; exact Nat.le_trans (Nat.div_le_self _ _) (by omega)
      have hrb : (x.tmod y).natAbs < y.natAbs := by rw [Int.natAbs_tmod]; exact Nat.mod_lt _ (by omega)
      obtain ⟨q0, hq0⟩ : ∃ q, x.tdiv y = q := ⟨_, rfl⟩
      obtain ⟨r0, hr0⟩ : ∃ r, x.tmod y = r := ⟨_, rfl⟩
      rw [hq0, hr0] at hxy
      rw [hq0] at hqb
      rw [hr0] at hrb
      have w1 : IntKind.i64.wrap q0 = q0 := IntWalk.i64_in _ (by omega)
      have w2 : IntKind.i64.wrap r0 = r0 := IntWalk.i64_in _ (by omega)
      by_cases hneg : r0 < 0
      · by_cases hpos : 0 < y
        · have hd : q0 - 1 = x / y ∧ r0 + y = x % y := euc_uniq x y (q0 - 1) (r0 + y) hyz (by rw [Int.mul_sub, Int.mul_one]; omega) (by omega) (by omega)
          have okq := ok_int (q0 - 1) (by omega) (by omega)
          have okr := ok_int (r0 + y) (by omega) (by omega)
          have t5 : decide (r0 < 0) = true := decide_eq_true hneg
          have t6 : decide (0 < y) = true := decide_eq_true hpos
          have t7 : decide (r0 + y < 0) = false := decide_eq_false (by omega)
          have w5 : IntKind.i64.wrap (r0 + y) = r0 + y := IntWalk.i64_in _ (by omega)
          have w6 : IntKind.i64.wrap (q0 - 1) = q0 - 1 := IntWalk.i64_in _ (by omega)
          have D1 : Hid (CallT 18 #[strOf (Lib.itoa x), strOf (Lib.itoa y)] (.tuple #[strOf (Lib.itoa (q0 - 1)), strOf (Lib.itoa (r0 + y)), .int .i64 0])) := Lib.hid (div_c x y _ _ hd.1.symm hd.2.symm okx oky hyz okq okr)
          have F6 : Hid (CallT 12 #[.int .i64 (q0 - 1)] (strOf (Lib.itoa (q0 - 1)))) := Lib.hid (from_c _ (by omega) (by omega))
          have F7 : Hid (CallT 12 #[.int .i64 (r0 + y)] (strOf (Lib.itoa (r0 + y)))) := Lib.hid (from_c _ (by omega) (by omega))
          have HT := Lib.hid ht
          have HB := Lib.hid (Below.refl w.heap.size w)
          clear ht hx0 hx1 hy0 hy1 okx oky hp ok1' ok2' ok3' h hneg hpos hd okq okr hxy hqb hrb
          go_enter Tryd.func3, Tryd.ntmps3
          go_wp2_with (first | (go_at_call 11; (with_reducible refine Calls.mono (S0.out _ (HT.out.next HB.out)) ?_); rintro e w1 ⟨rfl, hb⟩; replace HB := Lib.hid (HB.out.trans (hb.mono HB.out.size)); clear hb) | (go_at_call 12; (with_reducible refine Calls.mono (F1.out _ (HT.out.next HB.out)) ?_); rintro e w1 ⟨rfl, hb⟩; replace HB := Lib.hid (HB.out.trans (hb.mono HB.out.size)); clear hb) | (go_at_call 12; (with_reducible refine Calls.mono (F2.out _ (HT.out.next HB.out)) ?_); rintro e w1 ⟨rfl, hb⟩; replace HB := Lib.hid (HB.out.trans (hb.mono HB.out.size)); clear hb) | (go_at_call 13; (with_reducible refine Calls.mono (T1.out _ (HT.out.next HB.out)) ?_); rintro e w1 ⟨rfl, hb⟩; replace HB := Lib.hid (HB.out.trans (hb.mono HB.out.size)); clear hb) | (go_at_call 14; (with_reducible refine Calls.mono (A1.out _ (HT.out.next HB.out)) ?_); rintro e w1 ⟨rfl, hb⟩; replace HB := Lib.hid (HB.out.trans (hb.mono HB.out.size)); clear hb) | (go_at_call 15; (with_reducible refine Calls.mono (A2.out _ (HT.out.next HB.out)) ?_); rintro e w1 ⟨rfl, hb⟩; replace HB := Lib.hid (HB.out.trans (hb.mono HB.out.size)); clear hb) | (go_at_call 16; (with_reducible refine Calls.mono (A3.out _ (HT.out.next HB.out)) ?_); rintro e w1 ⟨rfl, hb⟩; replace HB := Lib.hid (HB.out.trans (hb.mono HB.out.size)); clear hb) | (go_at_call 12; (with_reducible refine Calls.mono (F3.out _ (HT.out.next HB.out)) ?_); rintro e w1 ⟨rfl, hb⟩; replace HB := Lib.hid (HB.out.trans (hb.mono HB.out.size)); clear hb) | (go_at_call 12; (with_reducible refine Calls.mono (F4.out _ (HT.out.next HB.out)) ?_); rintro e w1 ⟨rfl, hb⟩; replace HB := Lib.hid (HB.out.trans (hb.mono HB.out.size)); clear hb) | (go_at_call 12; (with_reducible refine Calls.mono (F5.out _ (HT.out.next HB.out)) ?_); rintro e w1 ⟨rfl, hb⟩; replace HB := Lib.hid (HB.out.trans (hb.mono HB.out.size)); clear hb) | (go_at_call 17; (with_reducible refine Calls.mono (Q1.out _ (HT.out.next HB.out)) ?_); rintro e w1 ⟨rfl, hb⟩; replace HB := Lib.hid (HB.out.trans (hb.mono HB.out.size)); clear hb) | (go_at_call 18; (with_reducible refine Calls.mono (D1.out _ (HT.out.next HB.out)) ?_); rintro e w1 ⟨rfl, hb⟩; replace HB := Lib.hid (HB.out.trans (hb.mono HB.out.size)); clear hb) | (go_at_call 12; (with_reducible refine Calls.mono (F6.out _ (HT.out.next HB.out)) ?_); rintro e w1 ⟨rfl, hb⟩; replace HB := Lib.hid (HB.out.trans (hb.mono HB.out.size)); clear hb) | (go_at_call 12; (with_reducible refine Calls.mono (F7.out _ (HT.out.next HB.out)) ?_); rintro e w1 ⟨rfl, hb⟩; replace HB := Lib.hid (HB.out.trans (hb.mono HB.out.size)); clear hb))
          go_ret
          exact ⟨rfl, HB.out⟩
        · have hd : q0 + 1 = x / y ∧ r0 - y = x % y := euc_uniq x y (q0 + 1) (r0 - y) hyz (by rw [Int.mul_add, Int.mul_one]; omega) (by omega) (by omega)
          have okq := ok_int (q0 + 1) (by omega) (by omega)
          have okr := ok_int (r0 - y) (by omega) (by omega)
          have t5 : decide (r0 < 0) = true := decide_eq_true hneg
          have t6 : decide (0 < y) = false := decide_eq_false hpos
          have w5 : IntKind.i64.wrap (r0 - y) = r0 - y := IntWalk.i64_in _ (by omega)
          have w6 : IntKind.i64.wrap (q0 + 1) = q0 + 1 := IntWalk.i64_in _ (by omega)
          have D1 : Hid (CallT 18 #[strOf (Lib.itoa x), strOf (Lib.itoa y)] (.tuple #[strOf (Lib.itoa (q0 + 1)), strOf (Lib.itoa (r0 - y)), .int .i64 0])) := Lib.hid (div_c x y _ _ hd.1.symm hd.2.symm okx oky hyz okq okr)
          have F6 : Hid (CallT 12 #[.int .i64 (q0 + 1)] (strOf (Lib.itoa (q0 + 1)))) := Lib.hid (from_c _ (by omega) (by omega))
          have F7 : Hid (CallT 12 #[.int .i64 (r0 - y)] (strOf (Lib.itoa (r0 - y)))) := Lib.hid (from_c _ (by omega) (by omega))
          have HT := Lib.hid ht
          have HB := Lib.hid (Below.refl w.heap.size w)
          clear ht hx0 hx1 hy0 hy1 okx oky hp ok1' ok2' ok3' h hneg hpos hd okq okr hxy hqb hrb
          go_enter Tryd.func3, Tryd.ntmps3
          go_wp2_with (first | (go_at_call 11; (with_reducible refine Calls.mono (S0.out _ (HT.out.next HB.out)) ?_); rintro e w1 ⟨rfl, hb⟩; replace HB := Lib.hid (HB.out.trans (hb.mono HB.out.size)); clear hb) | (go_at_call 12; (with_reducible refine Calls.mono (F1.out _ (HT.out.next HB.out)) ?_); rintro e w1 ⟨rfl, hb⟩; replace HB := Lib.hid (HB.out.trans (hb.mono HB.out.size)); clear hb) | (go_at_call 12; (with_reducible refine Calls.mono (F2.out _ (HT.out.next HB.out)) ?_); rintro e w1 ⟨rfl, hb⟩; replace HB := Lib.hid (HB.out.trans (hb.mono HB.out.size)); clear hb) | (go_at_call 13; (with_reducible refine Calls.mono (T1.out _ (HT.out.next HB.out)) ?_); rintro e w1 ⟨rfl, hb⟩; replace HB := Lib.hid (HB.out.trans (hb.mono HB.out.size)); clear hb) | (go_at_call 14; (with_reducible refine Calls.mono (A1.out _ (HT.out.next HB.out)) ?_); rintro e w1 ⟨rfl, hb⟩; replace HB := Lib.hid (HB.out.trans (hb.mono HB.out.size)); clear hb) | (go_at_call 15; (with_reducible refine Calls.mono (A2.out _ (HT.out.next HB.out)) ?_); rintro e w1 ⟨rfl, hb⟩; replace HB := Lib.hid (HB.out.trans (hb.mono HB.out.size)); clear hb) | (go_at_call 16; (with_reducible refine Calls.mono (A3.out _ (HT.out.next HB.out)) ?_); rintro e w1 ⟨rfl, hb⟩; replace HB := Lib.hid (HB.out.trans (hb.mono HB.out.size)); clear hb) | (go_at_call 12; (with_reducible refine Calls.mono (F3.out _ (HT.out.next HB.out)) ?_); rintro e w1 ⟨rfl, hb⟩; replace HB := Lib.hid (HB.out.trans (hb.mono HB.out.size)); clear hb) | (go_at_call 12; (with_reducible refine Calls.mono (F4.out _ (HT.out.next HB.out)) ?_); rintro e w1 ⟨rfl, hb⟩; replace HB := Lib.hid (HB.out.trans (hb.mono HB.out.size)); clear hb) | (go_at_call 12; (with_reducible refine Calls.mono (F5.out _ (HT.out.next HB.out)) ?_); rintro e w1 ⟨rfl, hb⟩; replace HB := Lib.hid (HB.out.trans (hb.mono HB.out.size)); clear hb) | (go_at_call 17; (with_reducible refine Calls.mono (Q1.out _ (HT.out.next HB.out)) ?_); rintro e w1 ⟨rfl, hb⟩; replace HB := Lib.hid (HB.out.trans (hb.mono HB.out.size)); clear hb) | (go_at_call 18; (with_reducible refine Calls.mono (D1.out _ (HT.out.next HB.out)) ?_); rintro e w1 ⟨rfl, hb⟩; replace HB := Lib.hid (HB.out.trans (hb.mono HB.out.size)); clear hb) | (go_at_call 12; (with_reducible refine Calls.mono (F6.out _ (HT.out.next HB.out)) ?_); rintro e w1 ⟨rfl, hb⟩; replace HB := Lib.hid (HB.out.trans (hb.mono HB.out.size)); clear hb) | (go_at_call 12; (with_reducible refine Calls.mono (F7.out _ (HT.out.next HB.out)) ?_); rintro e w1 ⟨rfl, hb⟩; replace HB := Lib.hid (HB.out.trans (hb.mono HB.out.size)); clear hb))
          go_ret
          exact ⟨rfl, HB.out⟩
      · have hd : q0 = x / y ∧ r0 = x % y := euc_uniq x y (q0) (r0) hyz (by exact hxy) (by omega) (by omega)
        have okq := ok_int (q0) (by omega) (by omega)
        have okr := ok_int (r0) (by omega) (by omega)
        have t5 : decide (r0 < 0) = false := decide_eq_false hneg
        have D1 : Hid (CallT 18 #[strOf (Lib.itoa x), strOf (Lib.itoa y)] (.tuple #[strOf (Lib.itoa q0), strOf (Lib.itoa r0), .int .i64 0])) := Lib.hid (div_c x y _ _ hd.1.symm hd.2.symm okx oky hyz okq okr)
        have F6 : Hid (CallT 12 #[.int .i64 (q0)] (strOf (Lib.itoa q0))) := Lib.hid (from_c _ (by omega) (by omega))
        have F7 : Hid (CallT 12 #[.int .i64 (r0)] (strOf (Lib.itoa r0))) := Lib.hid (from_c _ (by omega) (by omega))
        have HT := Lib.hid ht
        have HB := Lib.hid (Below.refl w.heap.size w)
        clear ht hx0 hx1 hy0 hy1 okx oky hp ok1' ok2' ok3' h hneg hd okq okr hxy hqb hrb
        go_enter Tryd.func3, Tryd.ntmps3
        go_wp2_with (first | (go_at_call 11; (with_reducible refine Calls.mono (S0.out _ (HT.out.next HB.out)) ?_); rintro e w1 ⟨rfl, hb⟩; replace HB := Lib.hid (HB.out.trans (hb.mono HB.out.size)); clear hb) | (go_at_call 12; (with_reducible refine Calls.mono (F1.out _ (HT.out.next HB.out)) ?_); rintro e w1 ⟨rfl, hb⟩; replace HB := Lib.hid (HB.out.trans (hb.mono HB.out.size)); clear hb) | (go_at_call 12; (with_reducible refine Calls.mono (F2.out _ (HT.out.next HB.out)) ?_); rintro e w1 ⟨rfl, hb⟩; replace HB := Lib.hid (HB.out.trans (hb.mono HB.out.size)); clear hb) | (go_at_call 13; (with_reducible refine Calls.mono (T1.out _ (HT.out.next HB.out)) ?_); rintro e w1 ⟨rfl, hb⟩; replace HB := Lib.hid (HB.out.trans (hb.mono HB.out.size)); clear hb) | (go_at_call 14; (with_reducible refine Calls.mono (A1.out _ (HT.out.next HB.out)) ?_); rintro e w1 ⟨rfl, hb⟩; replace HB := Lib.hid (HB.out.trans (hb.mono HB.out.size)); clear hb) | (go_at_call 15; (with_reducible refine Calls.mono (A2.out _ (HT.out.next HB.out)) ?_); rintro e w1 ⟨rfl, hb⟩; replace HB := Lib.hid (HB.out.trans (hb.mono HB.out.size)); clear hb) | (go_at_call 16; (with_reducible refine Calls.mono (A3.out _ (HT.out.next HB.out)) ?_); rintro e w1 ⟨rfl, hb⟩; replace HB := Lib.hid (HB.out.trans (hb.mono HB.out.size)); clear hb) | (go_at_call 12; (with_reducible refine Calls.mono (F3.out _ (HT.out.next HB.out)) ?_); rintro e w1 ⟨rfl, hb⟩; replace HB := Lib.hid (HB.out.trans (hb.mono HB.out.size)); clear hb) | (go_at_call 12; (with_reducible refine Calls.mono (F4.out _ (HT.out.next HB.out)) ?_); rintro e w1 ⟨rfl, hb⟩; replace HB := Lib.hid (HB.out.trans (hb.mono HB.out.size)); clear hb) | (go_at_call 12; (with_reducible refine Calls.mono (F5.out _ (HT.out.next HB.out)) ?_); rintro e w1 ⟨rfl, hb⟩; replace HB := Lib.hid (HB.out.trans (hb.mono HB.out.size)); clear hb) | (go_at_call 17; (with_reducible refine Calls.mono (Q1.out _ (HT.out.next HB.out)) ?_); rintro e w1 ⟨rfl, hb⟩; replace HB := Lib.hid (HB.out.trans (hb.mono HB.out.size)); clear hb) | (go_at_call 18; (with_reducible refine Calls.mono (D1.out _ (HT.out.next HB.out)) ?_); rintro e w1 ⟨rfl, hb⟩; replace HB := Lib.hid (HB.out.trans (hb.mono HB.out.size)); clear hb) | (go_at_call 12; (with_reducible refine Calls.mono (F6.out _ (HT.out.next HB.out)) ?_); rintro e w1 ⟨rfl, hb⟩; replace HB := Lib.hid (HB.out.trans (hb.mono HB.out.size)); clear hb) | (go_at_call 12; (with_reducible refine Calls.mono (F7.out _ (HT.out.next HB.out)) ?_); rintro e w1 ⟨rfl, hb⟩; replace HB := Lib.hid (HB.out.trans (hb.mono HB.out.size)); clear hb))
        go_ret
        exact ⟨rfl, HB.out⟩
  · have t1 : decide (x < y) = false := decide_eq_false (by omega)
    have t2 : decide (y < x) = true := decide_eq_true h
    have Q1 : Hid (CallT 17 #[strOf (Lib.itoa x), strOf (Lib.itoa y)] (.int .i64 (1))) := Lib.hid (cmp_c (x) (y) _ (sg_gt (by omega)) okx oky)
    by_cases hyz : y = 0
    · have t5 : (y == 0) = true := by rw [hyz]; rfl
      have D0 : Hid (CallT 18 #[strOf (Lib.itoa x), strOf (Lib.itoa y)] (.tuple #[.string ⟨#[]⟩, .string ⟨#[]⟩, .int .i64 30])) := Lib.hid (by rw [hyz]; exact div0_c x okx)
      have HT := Lib.hid ht
      have HB := Lib.hid (Below.refl w.heap.size w)
      clear ht hx0 hx1 hy0 hy1 okx oky hp ok1' ok2' ok3' h hyz
      go_enter Tryd.func3, Tryd.ntmps3
      go_wp2_with (first | (go_at_call 11; (with_reducible refine Calls.mono (S0.out _ (HT.out.next HB.out)) ?_); rintro e w1 ⟨rfl, hb⟩; replace HB := Lib.hid (HB.out.trans (hb.mono HB.out.size)); clear hb) | (go_at_call 12; (with_reducible refine Calls.mono (F1.out _ (HT.out.next HB.out)) ?_); rintro e w1 ⟨rfl, hb⟩; replace HB := Lib.hid (HB.out.trans (hb.mono HB.out.size)); clear hb) | (go_at_call 12; (with_reducible refine Calls.mono (F2.out _ (HT.out.next HB.out)) ?_); rintro e w1 ⟨rfl, hb⟩; replace HB := Lib.hid (HB.out.trans (hb.mono HB.out.size)); clear hb) | (go_at_call 13; (with_reducible refine Calls.mono (T1.out _ (HT.out.next HB.out)) ?_); rintro e w1 ⟨rfl, hb⟩; replace HB := Lib.hid (HB.out.trans (hb.mono HB.out.size)); clear hb) | (go_at_call 14; (with_reducible refine Calls.mono (A1.out _ (HT.out.next HB.out)) ?_); rintro e w1 ⟨rfl, hb⟩; replace HB := Lib.hid (HB.out.trans (hb.mono HB.out.size)); clear hb) | (go_at_call 15; (with_reducible refine Calls.mono (A2.out _ (HT.out.next HB.out)) ?_); rintro e w1 ⟨rfl, hb⟩; replace HB := Lib.hid (HB.out.trans (hb.mono HB.out.size)); clear hb) | (go_at_call 16; (with_reducible refine Calls.mono (A3.out _ (HT.out.next HB.out)) ?_); rintro e w1 ⟨rfl, hb⟩; replace HB := Lib.hid (HB.out.trans (hb.mono HB.out.size)); clear hb) | (go_at_call 12; (with_reducible refine Calls.mono (F3.out _ (HT.out.next HB.out)) ?_); rintro e w1 ⟨rfl, hb⟩; replace HB := Lib.hid (HB.out.trans (hb.mono HB.out.size)); clear hb) | (go_at_call 12; (with_reducible refine Calls.mono (F4.out _ (HT.out.next HB.out)) ?_); rintro e w1 ⟨rfl, hb⟩; replace HB := Lib.hid (HB.out.trans (hb.mono HB.out.size)); clear hb) | (go_at_call 12; (with_reducible refine Calls.mono (F5.out _ (HT.out.next HB.out)) ?_); rintro e w1 ⟨rfl, hb⟩; replace HB := Lib.hid (HB.out.trans (hb.mono HB.out.size)); clear hb) | (go_at_call 17; (with_reducible refine Calls.mono (Q1.out _ (HT.out.next HB.out)) ?_); rintro e w1 ⟨rfl, hb⟩; replace HB := Lib.hid (HB.out.trans (hb.mono HB.out.size)); clear hb) | (go_at_call 18; (with_reducible refine Calls.mono (D0.out _ (HT.out.next HB.out)) ?_); rintro e w1 ⟨rfl, hb⟩; replace HB := Lib.hid (HB.out.trans (hb.mono HB.out.size)); clear hb))
      go_ret
      exact ⟨rfl, HB.out⟩
    · have t4 : (y == 0) = false := by rw [beq_eq_false_iff_ne]; exact hyz
      have hxy := tparts x y
      have hqb : (x.tdiv y).natAbs ≤ 2147483648 := by rw [Int.natAbs_tdiv]; exact Nat.le_trans (Nat.div_le_self _ _) (by omega)
      have hrb : (x.tmod y).natAbs < y.natAbs := by rw [Int.natAbs_tmod]; exact Nat.mod_lt _ (by omega)
      obtain ⟨q0, hq0⟩ : ∃ q, x.tdiv y = q := ⟨_, rfl⟩
      obtain ⟨r0, hr0⟩ : ∃ r, x.tmod y = r := ⟨_, rfl⟩
      rw [hq0, hr0] at hxy
      rw [hq0] at hqb
      rw [hr0] at hrb
      have w1 : IntKind.i64.wrap q0 = q0 := IntWalk.i64_in _ (by omega)
      have w2 : IntKind.i64.wrap r0 = r0 := IntWalk.i64_in _ (by omega)
      by_cases hneg : r0 < 0
      · by_cases hpos : 0 < y
        · have hd : q0 - 1 = x / y ∧ r0 + y = x % y := euc_uniq x y (q0 - 1) (r0 + y) hyz (by rw [Int.mul_sub, Int.mul_one]; omega) (by omega) (by omega)
          have okq := ok_int (q0 - 1) (by omega) (by omega)
          have okr := ok_int (r0 + y) (by omega) (by omega)
          have t5 : decide (r0 < 0) = true := decide_eq_true hneg
          have t6 : decide (0 < y) = true := decide_eq_true hpos
          have t7 : decide (r0 + y < 0) = false := decide_eq_false (by omega)
          have w5 : IntKind.i64.wrap (r0 + y) = r0 + y := IntWalk.i64_in _ (by omega)
          have w6 : IntKind.i64.wrap (q0 - 1) = q0 - 1 := IntWalk.i64_in _ (by omega)
          have D1 : Hid (CallT 18 #[strOf (Lib.itoa x), strOf (Lib.itoa y)] (.tuple #[strOf (Lib.itoa (q0 - 1)), strOf (Lib.itoa (r0 + y)), .int .i64 0])) := Lib.hid (div_c x y _ _ hd.1.symm hd.2.symm okx oky hyz okq okr)
          have F6 : Hid (CallT 12 #[.int .i64 (q0 - 1)] (strOf (Lib.itoa (q0 - 1)))) := Lib.hid (from_c _ (by omega) (by omega))
          have F7 : Hid (CallT 12 #[.int .i64 (r0 + y)] (strOf (Lib.itoa (r0 + y)))) := Lib.hid (from_c _ (by omega) (by omega))
          have HT := Lib.hid ht
          have HB := Lib.hid (Below.refl w.heap.size w)
          clear ht hx0 hx1 hy0 hy1 okx oky hp ok1' ok2' ok3' h hneg hpos hd okq okr hxy hqb hrb
          go_enter Tryd.func3, Tryd.ntmps3
          go_wp2_with (first | (go_at_call 11; (with_reducible refine Calls.mono (S0.out _ (HT.out.next HB.out)) ?_); rintro e w1 ⟨rfl, hb⟩; replace HB := Lib.hid (HB.out.trans (hb.mono HB.out.size)); clear hb) | (go_at_call 12; (with_reducible refine Calls.mono (F1.out _ (HT.out.next HB.out)) ?_); rintro e w1 ⟨rfl, hb⟩; replace HB := Lib.hid (HB.out.trans (hb.mono HB.out.size)); clear hb) | (go_at_call 12; (with_reducible refine Calls.mono (F2.out _ (HT.out.next HB.out)) ?_); rintro e w1 ⟨rfl, hb⟩; replace HB := Lib.hid (HB.out.trans (hb.mono HB.out.size)); clear hb) | (go_at_call 13; (with_reducible refine Calls.mono (T1.out _ (HT.out.next HB.out)) ?_); rintro e w1 ⟨rfl, hb⟩; replace HB := Lib.hid (HB.out.trans (hb.mono HB.out.size)); clear hb) | (go_at_call 14; (with_reducible refine Calls.mono (A1.out _ (HT.out.next HB.out)) ?_); rintro e w1 ⟨rfl, hb⟩; replace HB := Lib.hid (HB.out.trans (hb.mono HB.out.size)); clear hb) | (go_at_call 15; (with_reducible refine Calls.mono (A2.out _ (HT.out.next HB.out)) ?_); rintro e w1 ⟨rfl, hb⟩; replace HB := Lib.hid (HB.out.trans (hb.mono HB.out.size)); clear hb) | (go_at_call 16; (with_reducible refine Calls.mono (A3.out _ (HT.out.next HB.out)) ?_); rintro e w1 ⟨rfl, hb⟩; replace HB := Lib.hid (HB.out.trans (hb.mono HB.out.size)); clear hb) | (go_at_call 12; (with_reducible refine Calls.mono (F3.out _ (HT.out.next HB.out)) ?_); rintro e w1 ⟨rfl, hb⟩; replace HB := Lib.hid (HB.out.trans (hb.mono HB.out.size)); clear hb) | (go_at_call 12; (with_reducible refine Calls.mono (F4.out _ (HT.out.next HB.out)) ?_); rintro e w1 ⟨rfl, hb⟩; replace HB := Lib.hid (HB.out.trans (hb.mono HB.out.size)); clear hb) | (go_at_call 12; (with_reducible refine Calls.mono (F5.out _ (HT.out.next HB.out)) ?_); rintro e w1 ⟨rfl, hb⟩; replace HB := Lib.hid (HB.out.trans (hb.mono HB.out.size)); clear hb) | (go_at_call 17; (with_reducible refine Calls.mono (Q1.out _ (HT.out.next HB.out)) ?_); rintro e w1 ⟨rfl, hb⟩; replace HB := Lib.hid (HB.out.trans (hb.mono HB.out.size)); clear hb) | (go_at_call 18; (with_reducible refine Calls.mono (D1.out _ (HT.out.next HB.out)) ?_); rintro e w1 ⟨rfl, hb⟩; replace HB := Lib.hid (HB.out.trans (hb.mono HB.out.size)); clear hb) | (go_at_call 12; (with_reducible refine Calls.mono (F6.out _ (HT.out.next HB.out)) ?_); rintro e w1 ⟨rfl, hb⟩; replace HB := Lib.hid (HB.out.trans (hb.mono HB.out.size)); clear hb) | (go_at_call 12; (with_reducible refine Calls.mono (F7.out _ (HT.out.next HB.out)) ?_); rintro e w1 ⟨rfl, hb⟩; replace HB := Lib.hid (HB.out.trans (hb.mono HB.out.size)); clear hb))
          go_ret
          exact ⟨rfl, HB.out⟩
        · have hd : q0 + 1 = x / y ∧ r0 - y = x % y := euc_uniq x y (q0 + 1) (r0 - y) hyz (by rw [Int.mul_add, Int.mul_one]; omega) (by omega) (by omega)
          have okq := ok_int (q0 + 1) (by omega) (by omega)
          have okr := ok_int (r0 - y) (by omega) (by omega)
          have t5 : decide (r0 < 0) = true := decide_eq_true hneg
          have t6 : decide (0 < y) = false := decide_eq_false hpos
          have w5 : IntKind.i64.wrap (r0 - y) = r0 - y := IntWalk.i64_in _ (by omega)
          have w6 : IntKind.i64.wrap (q0 + 1) = q0 + 1 := IntWalk.i64_in _ (by omega)
          have D1 : Hid (CallT 18 #[strOf (Lib.itoa x), strOf (Lib.itoa y)] (.tuple #[strOf (Lib.itoa (q0 + 1)), strOf (Lib.itoa (r0 - y)), .int .i64 0])) := Lib.hid (div_c x y _ _ hd.1.symm hd.2.symm okx oky hyz okq okr)
          have F6 : Hid (CallT 12 #[.int .i64 (q0 + 1)] (strOf (Lib.itoa (q0 + 1)))) := Lib.hid (from_c _ (by omega) (by omega))
          have F7 : Hid (CallT 12 #[.int .i64 (r0 - y)] (strOf (Lib.itoa (r0 - y)))) := Lib.hid (from_c _ (by omega) (by omega))
          have HT := Lib.hid ht
          have HB := Lib.hid (Below.refl w.heap.size w)
          clear ht hx0 hx1 hy0 hy1 okx oky hp ok1' ok2' ok3' h hneg hpos hd okq okr hxy hqb hrb
          go_enter Tryd.func3, Tryd.ntmps3
          go_wp2_with (first | (go_at_call 11; (with_reducible refine Calls.mono (S0.out _ (HT.out.next HB.out)) ?_); rintro e w1 ⟨rfl, hb⟩; replace HB := Lib.hid (HB.out.trans (hb.mono HB.out.size)); clear hb) | (go_at_call 12; (with_reducible refine Calls.mono (F1.out _ (HT.out.next HB.out)) ?_); rintro e w1 ⟨rfl, hb⟩; replace HB := Lib.hid (HB.out.trans (hb.mono HB.out.size)); clear hb) | (go_at_call 12; (with_reducible refine Calls.mono (F2.out _ (HT.out.next HB.out)) ?_); rintro e w1 ⟨rfl, hb⟩; replace HB := Lib.hid (HB.out.trans (hb.mono HB.out.size)); clear hb) | (go_at_call 13; (with_reducible refine Calls.mono (T1.out _ (HT.out.next HB.out)) ?_); rintro e w1 ⟨rfl, hb⟩; replace HB := Lib.hid (HB.out.trans (hb.mono HB.out.size)); clear hb) | (go_at_call 14; (with_reducible refine Calls.mono (A1.out _ (HT.out.next HB.out)) ?_); rintro e w1 ⟨rfl, hb⟩; replace HB := Lib.hid (HB.out.trans (hb.mono HB.out.size)); clear hb) | (go_at_call 15; (with_reducible refine Calls.mono (A2.out _ (HT.out.next HB.out)) ?_); rintro e w1 ⟨rfl, hb⟩; replace HB := Lib.hid (HB.out.trans (hb.mono HB.out.size)); clear hb) | (go_at_call 16; (with_reducible refine Calls.mono (A3.out _ (HT.out.next HB.out)) ?_); rintro e w1 ⟨rfl, hb⟩; replace HB := Lib.hid (HB.out.trans (hb.mono HB.out.size)); clear hb) | (go_at_call 12; (with_reducible refine Calls.mono (F3.out _ (HT.out.next HB.out)) ?_); rintro e w1 ⟨rfl, hb⟩; replace HB := Lib.hid (HB.out.trans (hb.mono HB.out.size)); clear hb) | (go_at_call 12; (with_reducible refine Calls.mono (F4.out _ (HT.out.next HB.out)) ?_); rintro e w1 ⟨rfl, hb⟩; replace HB := Lib.hid (HB.out.trans (hb.mono HB.out.size)); clear hb) | (go_at_call 12; (with_reducible refine Calls.mono (F5.out _ (HT.out.next HB.out)) ?_); rintro e w1 ⟨rfl, hb⟩; replace HB := Lib.hid (HB.out.trans (hb.mono HB.out.size)); clear hb) | (go_at_call 17; (with_reducible refine Calls.mono (Q1.out _ (HT.out.next HB.out)) ?_); rintro e w1 ⟨rfl, hb⟩; replace HB := Lib.hid (HB.out.trans (hb.mono HB.out.size)); clear hb) | (go_at_call 18; (with_reducible refine Calls.mono (D1.out _ (HT.out.next HB.out)) ?_); rintro e w1 ⟨rfl, hb⟩; replace HB := Lib.hid (HB.out.trans (hb.mono HB.out.size)); clear hb) | (go_at_call 12; (with_reducible refine Calls.mono (F6.out _ (HT.out.next HB.out)) ?_); rintro e w1 ⟨rfl, hb⟩; replace HB := Lib.hid (HB.out.trans (hb.mono HB.out.size)); clear hb) | (go_at_call 12; (with_reducible refine Calls.mono (F7.out _ (HT.out.next HB.out)) ?_); rintro e w1 ⟨rfl, hb⟩; replace HB := Lib.hid (HB.out.trans (hb.mono HB.out.size)); clear hb))
          go_ret
          exact ⟨rfl, HB.out⟩
      · have hd : q0 = x / y ∧ r0 = x % y := euc_uniq x y (q0) (r0) hyz (by exact hxy) (by omega) (by omega)
        have okq := ok_int (q0) (by omega) (by omega)
        have okr := ok_int (r0) (by omega) (by omega)
        have t5 : decide (r0 < 0) = false := decide_eq_false hneg
        have D1 : Hid (CallT 18 #[strOf (Lib.itoa x), strOf (Lib.itoa y)] (.tuple #[strOf (Lib.itoa q0), strOf (Lib.itoa r0), .int .i64 0])) := Lib.hid (div_c x y _ _ hd.1.symm hd.2.symm okx oky hyz okq okr)
        have F6 : Hid (CallT 12 #[.int .i64 (q0)] (strOf (Lib.itoa q0))) := Lib.hid (from_c _ (by omega) (by omega))
        have F7 : Hid (CallT 12 #[.int .i64 (r0)] (strOf (Lib.itoa r0))) := Lib.hid (from_c _ (by omega) (by omega))
        have HT := Lib.hid ht
        have HB := Lib.hid (Below.refl w.heap.size w)
        clear ht hx0 hx1 hy0 hy1 okx oky hp ok1' ok2' ok3' h hneg hd okq okr hxy hqb hrb
        go_enter Tryd.func3, Tryd.ntmps3
        go_wp2_with (first | (go_at_call 11; (with_reducible refine Calls.mono (S0.out _ (HT.out.next HB.out)) ?_); rintro e w1 ⟨rfl, hb⟩; replace HB := Lib.hid (HB.out.trans (hb.mono HB.out.size)); clear hb) | (go_at_call 12; (with_reducible refine Calls.mono (F1.out _ (HT.out.next HB.out)) ?_); rintro e w1 ⟨rfl, hb⟩; replace HB := Lib.hid (HB.out.trans (hb.mono HB.out.size)); clear hb) | (go_at_call 12; (with_reducible refine Calls.mono (F2.out _ (HT.out.next HB.out)) ?_); rintro e w1 ⟨rfl, hb⟩; replace HB := Lib.hid (HB.out.trans (hb.mono HB.out.size)); clear hb) | (go_at_call 13; (with_reducible refine Calls.mono (T1.out _ (HT.out.next HB.out)) ?_); rintro e w1 ⟨rfl, hb⟩; replace HB := Lib.hid (HB.out.trans (hb.mono HB.out.size)); clear hb) | (go_at_call 14; (with_reducible refine Calls.mono (A1.out _ (HT.out.next HB.out)) ?_); rintro e w1 ⟨rfl, hb⟩; replace HB := Lib.hid (HB.out.trans (hb.mono HB.out.size)); clear hb) | (go_at_call 15; (with_reducible refine Calls.mono (A2.out _ (HT.out.next HB.out)) ?_); rintro e w1 ⟨rfl, hb⟩; replace HB := Lib.hid (HB.out.trans (hb.mono HB.out.size)); clear hb) | (go_at_call 16; (with_reducible refine Calls.mono (A3.out _ (HT.out.next HB.out)) ?_); rintro e w1 ⟨rfl, hb⟩; replace HB := Lib.hid (HB.out.trans (hb.mono HB.out.size)); clear hb) | (go_at_call 12; (with_reducible refine Calls.mono (F3.out _ (HT.out.next HB.out)) ?_); rintro e w1 ⟨rfl, hb⟩; replace HB := Lib.hid (HB.out.trans (hb.mono HB.out.size)); clear hb) | (go_at_call 12; (with_reducible refine Calls.mono (F4.out _ (HT.out.next HB.out)) ?_); rintro e w1 ⟨rfl, hb⟩; replace HB := Lib.hid (HB.out.trans (hb.mono HB.out.size)); clear hb) | (go_at_call 12; (with_reducible refine Calls.mono (F5.out _ (HT.out.next HB.out)) ?_); rintro e w1 ⟨rfl, hb⟩; replace HB := Lib.hid (HB.out.trans (hb.mono HB.out.size)); clear hb) | (go_at_call 17; (with_reducible refine Calls.mono (Q1.out _ (HT.out.next HB.out)) ?_); rintro e w1 ⟨rfl, hb⟩; replace HB := Lib.hid (HB.out.trans (hb.mono HB.out.size)); clear hb) | (go_at_call 18; (with_reducible refine Calls.mono (D1.out _ (HT.out.next HB.out)) ?_); rintro e w1 ⟨rfl, hb⟩; replace HB := Lib.hid (HB.out.trans (hb.mono HB.out.size)); clear hb) | (go_at_call 12; (with_reducible refine Calls.mono (F6.out _ (HT.out.next HB.out)) ?_); rintro e w1 ⟨rfl, hb⟩; replace HB := Lib.hid (HB.out.trans (hb.mono HB.out.size)); clear hb) | (go_at_call 12; (with_reducible refine Calls.mono (F7.out _ (HT.out.next HB.out)) ?_); rintro e w1 ⟨rfl, hb⟩; replace HB := Lib.hid (HB.out.trans (hb.mono HB.out.size)); clear hb))
        go_ret
        exact ⟨rfl, HB.out⟩
end Go.Proofs.YtcfgndbljnjheaaDoor
