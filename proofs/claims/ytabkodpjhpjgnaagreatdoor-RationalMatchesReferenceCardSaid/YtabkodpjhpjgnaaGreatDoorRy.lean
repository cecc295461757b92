/- The reference's Valid and Print. -/
import Derived.Test.YtabkodpjhpjgnaaGreatDoorQw
namespace Go.Proofs.YtabkodpjhpjgnaaGreatDoor
open Go.RowKit Go.Shelf

theorem vldR_bad {l r : List UInt8} (h : (Im.vld l && Im.vld r) = false) : vldR l r = false := by
  cases hv : vldR l r with
  | false => rfl
  | true =>
    obtain ⟨q, hq, rfl, rfl⟩ := vldR_of hv
    obtain ⟨q1, q2⟩ := okq_iff.1 hq
    rw [vld_ok q1, vld_ok q2] at h; cases h
theorem vldR_low {a b : Int} (hb : b ≤ 0) : vldR (Lib.itoa a) (Lib.itoa b) = false := by
  cases hv : vldR (Lib.itoa a) (Lib.itoa b) with
  | false => rfl
  | true =>
    obtain ⟨q, -, -, h2⟩ := vldR_of hv
    have := Im.itoa_inj h2
    have := Qm.den_pos q
    omega
theorem vldR_gcd {a b : Int} (ha : okz a = true) (hb : okz b = true) (h0 : 0 < b) : vldR (Lib.itoa a) (Lib.itoa b) = decide (((Nat.gcd a.natAbs b.natAbs : Nat) : Int) = 1) := by
  by_cases hg : Nat.gcd a.natAbs b.natAbs = 1
  · rw [vldR_ints ha hb h0 hg, hg]; rfl
  · rw [decide_eq_false (by omega)]
    cases hv : vldR (Lib.itoa a) (Lib.itoa b) with
    | false => rfl
    | true =>
      obtain ⟨q, -, h1, h2⟩ := vldR_of hv
      have e1 := Im.itoa_inj h1
      have e2 := Im.itoa_inj h2
      refine absurd ?_ hg
      rw [e1, e2, Int.natAbs_natCast]
      exact Qm.qgcd q

set_option maxRecDepth 100000 in
set_option maxHeartbeats 2000000 in
theorem rvalid_bad (l r : List UInt8) (hl : l.length ≤ 1000000) (hr : r.length ≤ 1000000) (h : (Im.vld l && Im.vld r) = false) : CallT 30 #[rv l r] (.bool false) := fun w hw => by
  have V1 := Lib.hid (rvalT l (by omega))
  have V2 := Lib.hid (rvalT r (by omega))
  have HT := Lib.hid hw
  have ho := Row.new w 23 #[strOf l, strOf r]
  unfold rv strOf at *
  generalize Im.vld l = v1 at *
  generalize Im.vld r = v2 at *
  generalize bs l = L at *
  generalize bs r = R at *
  have HO := Lib.hid ho
  have HB := Lib.hid (new_below w (.cells #[.string L, .string R] 23))
  obtain ⟨o0, o1, -, -⟩ := rat_facts ho
  clear ho hw hl hr
  go_enter Tryz.func30, Tryz.ntmps30
  go_upto_region 3 with (first | (go_at_call 60; (with_reducible refine Calls.mono (V1.out _ (HT.out.next HB.out)) ?_); rintro e w1 ⟨rfl, hb⟩; replace HO := Lib.hid (HO.out.below hb HO.out.lt); clear o0 o1; obtain ⟨o0, o1, -, -⟩ := rat_facts HO.out; replace HB := Lib.hid (below_to HB.out hb); clear hb) | (go_at_call 60; (with_reducible refine Calls.mono (V2.out _ (HT.out.next HB.out)) ?_); rintro e w2 ⟨rfl, hb⟩; replace HO := Lib.hid (HO.out.below hb HO.out.lt); clear o0 o1; obtain ⟨o0, o1, -, -⟩ := rat_facts HO.out; replace HB := Lib.hid (below_to HB.out hb); clear hb))
  cases v1 with
  | false =>
    go_wp2_with fail
    go_ret
    exact ⟨rfl, HB.out⟩
  | true =>
    cases v2 with
    | true => cases h
    | false =>
      go_wp2_with fail
      go_ret
      exact ⟨rfl, HB.out⟩
set_option maxRecDepth 100000 in
set_option maxHeartbeats 2000000 in
theorem rvalid_ok (a b : Int) (ha : okz a = true) (hb : okz b = true) : CallT 30 #[rv (Lib.itoa a) (Lib.itoa b)] (.bool (vldR (Lib.itoa a) (Lib.itoa b))) := fun w hw => by
  have V1 := Lib.hid (rvalT (Lib.itoa a) (by have := itoa_len ha; omega))
  have V2 := Lib.hid (rvalT (Lib.itoa b) (by have := itoa_len hb; omega))
  rw [vld_ok ha] at V1
  rw [vld_ok hb] at V2
  have C1 : Hid (CallT 52 #[strOf (Lib.itoa b), .string ⟨#[48]⟩] (.int .i64 (sg b 0))) := Lib.hid (by rw [← lit0]; exact rcmpT b 0 _ rfl hb ok0)
  have G1 := Lib.hid (rgcdT a b _ rfl ha hb (ok_gcd ha hb))
  have tg := txt_one ((Nat.gcd a.natAbs b.natAbs : Nat) : Int)
  have HT := Lib.hid hw
  have ho := Row.new w 23 #[strOf (Lib.itoa a), strOf (Lib.itoa b)]
  by_cases h0 : 0 < b
  · have hv := vldR_gcd ha hb h0
    rw [← tg] at hv
    rw [sg_gt h0] at C1
    obtain ⟨V, hV⟩ : ∃ V, vldR (Lib.itoa a) (Lib.itoa b) = V := ⟨_, rfl⟩
    rw [hV] at hv ⊢
    clear hV tg
    unfold rv strOf at *
    generalize bs (Lib.itoa ((Nat.gcd a.natAbs b.natAbs : Nat) : Int)) = G at *
    generalize bs (Lib.itoa a) = L at *
    generalize bs (Lib.itoa b) = R at *
    have HV := Lib.hid hv
    have HO := Lib.hid ho
    have HB := Lib.hid (new_below w (.cells #[.string L, .string R] 23))
    obtain ⟨o0, o1, -, -⟩ := rat_facts ho
    clear ho hw ha hb hv
    go_enter Tryz.func30, Tryz.ntmps30
    go_wp2_with (first | (go_at_call 60; (with_reducible refine Calls.mono (V1.out _ (HT.out.next HB.out)) ?_); rintro e w1 ⟨rfl, hb⟩; replace HO := Lib.hid (HO.out.below hb HO.out.lt); clear o0 o1; obtain ⟨o0, o1, -, -⟩ := rat_facts HO.out; replace HB := Lib.hid (below_to HB.out hb); clear hb) | (go_at_call 60; (with_reducible refine Calls.mono (V2.out _ (HT.out.next HB.out)) ?_); rintro e w2 ⟨rfl, hb⟩; replace HO := Lib.hid (HO.out.below hb HO.out.lt); clear o0 o1; obtain ⟨o0, o1, -, -⟩ := rat_facts HO.out; replace HB := Lib.hid (below_to HB.out hb); clear hb) | (go_at_call 52; (with_reducible refine Calls.mono (C1.out _ (HT.out.next HB.out)) ?_); rintro e w3 ⟨rfl, hb⟩; replace HO := Lib.hid (HO.out.below hb HO.out.lt); clear o0 o1; obtain ⟨o0, o1, -, -⟩ := rat_facts HO.out; replace HB := Lib.hid (below_to HB.out hb); clear hb) | (go_at_call 61; (with_reducible refine Calls.mono (G1.out _ (HT.out.next HB.out)) ?_); rintro e w4 ⟨rfl, hb⟩; replace HB := Lib.hid (below_to HB.out hb); clear hb))
    go_ret
    exact ⟨by rw [HV.out]; rfl, HB.out⟩
  · rw [vldR_low (by omega)]
    have hsg : sg b 0 ≤ 0 := by unfold sg; split <;> (try split) <;> omega
    generalize sg b 0 = k at *
    unfold rv strOf at *
    generalize bs (Lib.itoa a) = L at *
    generalize bs (Lib.itoa b) = R at *
    have HO := Lib.hid ho
    have HB := Lib.hid (new_below w (.cells #[.string L, .string R] 23))
    obtain ⟨o0, o1, -, -⟩ := rat_facts ho
    clear ho hw ha hb G1 tg
    go_enter Tryz.func30, Tryz.ntmps30
    go_wp2_with (first | (go_at_call 60; (with_reducible refine Calls.mono (V1.out _ (HT.out.next HB.out)) ?_); rintro e w1 ⟨rfl, hb⟩; replace HO := Lib.hid (HO.out.below hb HO.out.lt); clear o0 o1; obtain ⟨o0, o1, -, -⟩ := rat_facts HO.out; replace HB := Lib.hid (below_to HB.out hb); clear hb) | (go_at_call 60; (with_reducible refine Calls.mono (V2.out _ (HT.out.next HB.out)) ?_); rintro e w2 ⟨rfl, hb⟩; replace HO := Lib.hid (HO.out.below hb HO.out.lt); clear o0 o1; obtain ⟨o0, o1, -, -⟩ := rat_facts HO.out; replace HB := Lib.hid (below_to HB.out hb); clear hb) | (go_at_call 52; (with_reducible refine Calls.mono (C1.out _ (HT.out.next HB.out)) ?_); rintro e w3 ⟨rfl, hb⟩; replace HO := Lib.hid (HO.out.below hb HO.out.lt); clear o0 o1; obtain ⟨o0, o1, -, -⟩ := rat_facts HO.out; replace HB := Lib.hid (below_to HB.out hb); clear hb))
    go_ret
    exact ⟨rfl, HB.out⟩
theorem rvalid4_c (l r : List UInt8) (hl : l.length ≤ 1000000) (hr : r.length ≤ 1000000) : CallT 30 #[rv l r] (.bool (vldR l r)) := by
  rcases split2 l r with h | ⟨a, b, rfl, rfl, ha, hb⟩
  · rw [vldR_bad h]; exact rvalid_bad l r hl hr h
  · exact rvalid_ok a b ha hb

/-- The reference prints as the program does. -/
theorem rprint_no (l r : List UInt8) (hl : l.length ≤ 1000000) (hr : r.length ≤ 1000000) (h : vldR l r = false) : CallT 35 #[rv l r] (.string ⟨#[]⟩) := fun w hw => by
  have V := Lib.hid (rvalid4_c l r hl hr)
  rw [h] at V
  have HT := Lib.hid hw
  have ho := Row.new w 23 #[strOf l, strOf r]
  unfold rv strOf at *
  generalize bs l = L at *
  generalize bs r = R at *
  have HB := Lib.hid (new_below w (.cells #[.string L, .string R] 23))
  obtain ⟨o0, o1, -, -⟩ := rat_facts ho
  clear ho hw h
  go_enter Tryz.func35, Tryz.ntmps35
  go_wp2_with (first | (go_at_call 30; (with_reducible refine Calls.mono (V.out _ (HT.out.next HB.out)) ?_); rintro e w1 ⟨rfl, hb⟩; replace HB := Lib.hid (below_to HB.out hb); clear hb))
  go_ret
  exact ⟨rfl, HB.out⟩
set_option maxRecDepth 100000 in
set_option maxHeartbeats 1000000 in
theorem rprint_q (q : Rat) (h : okq q = true) : CallT 35 #[qv q] (strOf (qtxt q)) := fun w hw => by
  have hv := rvalid4_c (Lib.itoa q.num) (Lib.itoa ((q.den : Nat) : Int)) (by have := itoa_len (okq_iff.1 h).1; omega) (by have := itoa_len (okq_iff.1 h).2; omega)
  rw [vldR_q h] at hv
  have HV := Lib.hid hv; have HT := Lib.hid hw
  have t1 : ((bs (Lib.itoa ((q.den : Nat) : Int))).toList == [49]) = decide (q.den = 1) := by rw [txt_one]; exact decide_eq_decide.2 (by omega)
  have l1 : (bs (Lib.itoa q.num)).size ≤ 300 := by rw [bs_size]; exact itoa_len (okq_iff.1 h).1
  have l2 : (bs (Lib.itoa ((q.den : Nat) : Int))).size ≤ 300 := by rw [bs_size]; exact itoa_len (okq_iff.1 h).2
  have HC : Hid (bs (Lib.itoa q.num) ++ (⟨#[47]⟩ : ByteArray) ++ bs (Lib.itoa ((q.den : Nat) : Int)) = bs (Lib.itoa q.num ++ 47 :: Lib.itoa ((q.den : Nat) : Int))) := Lib.hid (by
    rw [show (⟨#[47]⟩ : ByteArray) = bs [47] from rfl, bs_append, bs_append, List.append_assoc]; rfl)
  have hx := Row.new w 23 #[strOf (Lib.itoa q.num), strOf (Lib.itoa ((q.den : Nat) : Int))]
  have HX := Lib.hid hx
  have HB := Lib.hid (new_below w (.cells #[strOf (Lib.itoa q.num), strOf (Lib.itoa ((q.den : Nat) : Int))] 23))
  clear hv hw hx h
  unfold qtxt qv rv strOf at *
  by_cases hd : q.den = 1
  · rw [if_pos hd]
    rw [decide_eq_true hd] at t1
    clear HC l1 l2 hd
    generalize bs (Lib.itoa q.num) = L at *
    generalize bs (Lib.itoa ((q.den : Nat) : Int)) = R at *
    go_enter Tryz.func35, Tryz.ntmps35
    go_wp2_with (go_at_call 30; (with_reducible refine Calls.mono (HV.out _ (HT.out.next HB.out)) ?_); rintro e w1 ⟨rfl, hb1⟩; replace HX := Lib.hid (HX.out.below hb1 HX.out.lt); obtain ⟨x0, x1, -, -⟩ := rat_facts HX.out; replace HB := Lib.hid (below_to HB.out hb1); clear hb1)
    go_ret
    exact ⟨rfl, HB.out⟩
  · rw [if_neg hd]
    rw [decide_eq_false hd] at t1
    clear hd
    generalize bs (Lib.itoa q.num ++ 47 :: Lib.itoa ((q.den : Nat) : Int)) = C at *
    generalize bs (Lib.itoa q.num) = L at *
    generalize bs (Lib.itoa ((q.den : Nat) : Int)) = R at *
    have k1 : ¬ (L.size + (⟨#[47]⟩ : ByteArray).size > 9223372036854775807) := by show ¬ (_ + 1 > _); omega
    have k2 : ¬ (9223372036854775807 < L.size + 1) := by omega
    have k3 : (L ++ (⟨#[47]⟩ : ByteArray)).size = L.size + 1 := by rw [ByteArray.size_append]; rfl
    have k4 : ¬ ((L ++ (⟨#[47]⟩ : ByteArray)).size + R.size > 9223372036854775807) := by rw [k3]; omega
    have k5 : ¬ (9223372036854775807 < L.size + 1 + R.size) := by omega
    clear k3
    go_enter Tryz.func35, Tryz.ntmps35
    go_wp2_with (go_at_call 30; (with_reducible refine Calls.mono (HV.out _ (HT.out.next HB.out)) ?_); rintro e w1 ⟨rfl, hb1⟩; replace HX := Lib.hid (HX.out.below hb1 HX.out.lt); obtain ⟨x0, x1, -, -⟩ := rat_facts HX.out; replace HB := Lib.hid (below_to HB.out hb1); clear hb1)
    rw [HC.out]
    go_ret
    exact ⟨rfl, HB.out⟩
end Go.Proofs.YtabkodpjhpjgnaaGreatDoor
