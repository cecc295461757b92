/- The reference's Make, Of and pick. -/
import Derived.Test.YtabkodpjhpjgnaaGreatDoorQs
import Derived.Test.YtabkodpjhpjgnaaGreatDoorA7
namespace Go.Proofs.YtabkodpjhpjgnaaGreatDoor
open Go.RowKit Go.Shelf

def pickN (c : Int) (n : Nat) : Nat := ((if c < 0 then -(c + 1) else c) % (n : Int)).toNat
theorem pickN_lt (c : Int) (n : Nat) (hn : 0 < n) : pickN c n < n := by
  have h := Int.emod_lt_of_pos (if c < 0 then -(c + 1) else c) (show (0 : Int) < (n : Int) by omega)
  have h2 := Int.emod_nonneg (if c < 0 then -(c + 1) else c) (show (n : Int) ≠ 0 by omega)
  unfold pickN; omega
set_option maxHeartbeats 1000000 in
theorem pick04_any (c : Int) (n : Nat) (hn : 0 < n) (hn2 : n ≤ 9223372036854775807) (h0 : -9223372036854775808 ≤ c) (h1 : c ≤ 9223372036854775807) (w : World) :
    Calls Tryz.prog 46 #[.int .i64 c, .int .i64 (n : Int)] w fun e w' => e = .returned (.int .i64 ((pickN c n : Nat) : Int)) ∧ w = w' := by
  obtain ⟨q, hq⟩ : ∃ q : Int, (if c < 0 then -(c + 1) else c) = q := ⟨_, rfl⟩
  have hq0 : 0 ≤ q := by rw [← hq]; split <;> omega
  have hqm : q ≤ 9223372036854775807 := by rw [← hq]; split <;> omega
  have e1 : q.tmod (n : Int) = ((pickN c n : Nat) : Int) := by
    unfold pickN
    rw [hq, Int.tmod_eq_emod_of_nonneg hq0]
    have h2 := Int.emod_nonneg q (show (n : Int) ≠ 0 by omega)
    omega
  have hlt := pickN_lt c n hn
  obtain ⟨k, hk⟩ : ∃ k, pickN c n = k := ⟨_, rfl⟩
  rw [hk] at e1 hlt ⊢
  have e2 : IntKind.i64.wrap (k : Int) = (k : Int) := IntWalk.i64_in _ (by omega)
  have e3 : ((n : Int) == 0) = false := by rw [beq_eq_false_iff_ne]; omega
  clear hk
  by_cases hc : c < 0
  · rw [if_pos hc] at hq
    have t1 : decide (c < 0) = true := decide_eq_true hc
    have s1 : IntKind.i64.wrap (c + 1) = c + 1 := IntWalk.i64_in _ (by omega)
    have s2 : IntKind.i64.wrap (-(c + 1)) = -(c + 1) := IntWalk.i64_in _ (by omega)
    subst hq
    clear hq0 hqm h0 h1
    go_enter Tryz.func46, Tryz.ntmps46
    go_wp2
    go_ret
    exact ⟨rfl, rfl⟩
  · rw [if_neg hc] at hq
    have t1 : decide (c < 0) = false := decide_eq_false hc
    subst hq
    clear hq0 hqm h0 h1
    go_enter Tryz.func46, Tryz.ntmps46
    go_wp2
    go_ret
    exact ⟨rfl, rfl⟩
set_option maxHeartbeats 1000000 in
theorem pickL_any (c : Int) (n : Nat) (hn : 0 < n) (hn2 : n ≤ 9223372036854775807) (h0 : -9223372036854775808 ≤ c) (h1 : c ≤ 9223372036854775807) (w : World) :
    Calls Tryz.prog 22 #[.int .i64 c, .int .i64 (n : Int)] w fun e w' => e = .returned (.int .i64 ((pickN c n : Nat) : Int)) ∧ w = w' := by
  obtain ⟨q, hq⟩ : ∃ q : Int, (if c < 0 then -(c + 1) else c) = q := ⟨_, rfl⟩
  have hq0 : 0 ≤ q := by rw [← hq]; split <;> omega
  have hqm : q ≤ 9223372036854775807 := by rw [← hq]; split <;> omega
  have e1 : q.tmod (n : Int) = ((pickN c n : Nat) : Int) := by
    unfold pickN
    rw [hq, Int.tmod_eq_emod_of_nonneg hq0]
    have h2 := Int.emod_nonneg q (show (n : Int) ≠ 0 by omega)
    omega
  have hlt := pickN_lt c n hn
  obtain ⟨k, hk⟩ : ∃ k, pickN c n = k := ⟨_, rfl⟩
  rw [hk] at e1 hlt ⊢
  have e2 : IntKind.i64.wrap (k : Int) = (k : Int) := IntWalk.i64_in _ (by omega)
  have e3 : ((n : Int) == 0) = false := by rw [beq_eq_false_iff_ne]; omega
  clear hk
  by_cases hc : c < 0
  · rw [if_pos hc] at hq
    have t1 : decide (c < 0) = true := decide_eq_true hc
    have s1 : IntKind.i64.wrap (c + 1) = c + 1 := IntWalk.i64_in _ (by omega)
    have s2 : IntKind.i64.wrap (-(c + 1)) = -(c + 1) := IntWalk.i64_in _ (by omega)
    subst hq
    clear hq0 hqm h0 h1
    go_enter Tryz.func22, Tryz.ntmps22
    go_wp2
    go_ret
    exact ⟨rfl, rfl⟩
  · rw [if_neg hc] at hq
    have t1 : decide (c < 0) = false := decide_eq_false hc
    subst hq
    clear hq0 hqm h0 h1
    go_enter Tryz.func22, Tryz.ntmps22
    go_wp2
    go_ret
    exact ⟨rfl, rfl⟩

theorem rvalT (l : List UInt8) (hl : l.length ≤ 9223372036854775000) : CallT 60 #[strOf l] (.bool (Im.vld l)) := fun u _ => (rvalid_any l hl u).mono fun _ _ ⟨h1, h2⟩ => ⟨h1, h2 ▸ Below.refl _ _⟩
theorem rcmpT (a b z : Int) (hz : sg a b = z) (ha : okz a = true) (hb : okz b = true) : CallT 52 #[strOf (Lib.itoa a), strOf (Lib.itoa b)] (.int .i64 z) := fun u _ => hz ▸ rCompare_ok a b u ha hb
theorem rsubT (a b z : Int) (hz : a - b = z) (ha : okz a = true) (hb : okz b = true) (hc : okz z = true) : CallT 49 #[strOf (Lib.itoa a), strOf (Lib.itoa b)] (.tuple #[strOf (Lib.itoa z), .int .i64 0]) := fun u _ => by
  subst hz
  have h := rSub_ok a b u ha hb
  unfold TextP at h
  rw [outT_ok hc, errT_ok hc] at h; exact h
theorem rgcdT (a b z : Int) (hz : ((Nat.gcd a.natAbs b.natAbs : Nat) : Int) = z) (ha : okz a = true) (hb : okz b = true) (hc : okz z = true) : CallT 61 #[strOf (Lib.itoa a), strOf (Lib.itoa b)] (.tuple #[strOf (Lib.itoa z), .int .i64 0]) := fun u _ => by
  subst hz
  have h := rGcd_ok a b u ha hb
  unfold TextP at h
  rw [outT_ok hc, errT_ok hc] at h; exact h
theorem rdivT (a b q r : Int) (hq : a / b = q) (hr : a % b = r) (ha : okz a = true) (hb : okz b = true) (h0 : b ≠ 0) (hc : okz q = true) (hd : okz r = true) : CallT 51 #[strOf (Lib.itoa a), strOf (Lib.itoa b)] (.tuple #[strOf (Lib.itoa q), strOf (Lib.itoa r), .int .i64 0]) := fun u _ => by
  subst hq hr
  have h := rDiv_ok a b u ha hb h0
  rw [outT_ok hc, outT_ok hd] at h; exact h

set_option maxRecDepth 100000 in
set_option maxHeartbeats 2000000 in
theorem rmake_pos (a b : Int) (ha : okz a = true) (hb : okz b = true) (h0 : 0 < b) : CallT 28 #[strOf (Lib.itoa a), strOf (Lib.itoa b)] (.tuple #[qv (Rat.divInt a b), .int .i64 0]) := fun w hw => by
  obtain ⟨g, hgd⟩ : ∃ g, ((Nat.gcd a.natAbs b.natAbs : Nat) : Int) = g := ⟨_, rfl⟩
  have hgo : okz g = true := hgd ▸ ok_gcd ha hb
  have hgp : 0 < g := by have := Qm.gcd_pos a b (by omega); omega
  have hq := red_ok ha hb (by omega : b ≠ 0)
  have hgs : Qm.gs a b = g := by unfold Qm.gs; rw [if_neg (by omega), hgd]
  have hn := Qm.red_num a b (by omega)
  have hd := Qm.red_den a b (by omega)
  have z1 : a % g = 0 := by rw [← hgs]; exact Int.emod_eq_zero_of_dvd (Qm.gs_dvd_n a b)
  have z2 : b % g = 0 := by rw [← hgs]; exact Int.emod_eq_zero_of_dvd (Qm.gs_dvd_d a b)
  rw [hgs] at hn hd
  have V1 := Lib.hid (rvalT (Lib.itoa a) (by have := itoa_len ha; omega))
  have V2 := Lib.hid (rvalT (Lib.itoa b) (by have := itoa_len hb; omega))
  rw [vld_ok ha] at V1
  rw [vld_ok hb] at V2
  have tz : ((bs (Lib.itoa b)).toList == [48]) = false := by rw [txt_zero]; exact decide_eq_false (by omega)
  have C1 : Hid (CallT 52 #[strOf (Lib.itoa b), .string ⟨#[48]⟩] (.int .i64 1)) := Lib.hid (by rw [← lit0]; exact rcmpT b 0 _ (sg_gt h0) hb ok0)
  have G1 : Hid (CallT 61 #[strOf (Lib.itoa a), strOf (Lib.itoa b)] (.tuple #[strOf (Lib.itoa g), .int .i64 0])) := Lib.hid (rgcdT a b g hgd ha hb hgo)
  have D1 : Hid (CallT 51 #[strOf (Lib.itoa a), strOf (Lib.itoa g)] (.tuple #[strOf (Lib.itoa (Rat.divInt a b).num), strOf (Lib.itoa 0), .int .i64 0])) := Lib.hid (rdivT a g _ _ hn z1 ha hgo (by omega) (okq_iff.1 hq).1 ok0)
  have D2 : Hid (CallT 51 #[strOf (Lib.itoa b), strOf (Lib.itoa g)] (.tuple #[strOf (Lib.itoa (((Rat.divInt a b).den : Nat) : Int)), strOf (Lib.itoa 0), .int .i64 0])) := Lib.hid (rdivT b g _ _ hd z2 hb hgo (by omega) (okq_iff.1 hq).2 ok0)
  have HT := Lib.hid hw
  clear hw ha hb h0 hgd hgo hgp hq hgs hn hd z1 z2
  unfold qv rv strOf at *
  generalize bs (Lib.itoa (Rat.divInt a b).num) = S at *
  generalize bs (Lib.itoa (((Rat.divInt a b).den : Nat) : Int)) = T at *
  generalize bs (Lib.itoa 0) = Z at *
  generalize bs (Lib.itoa a) = A at *
  generalize bs (Lib.itoa b) = B at *
  generalize bs (Lib.itoa g) = G at *
  have ho := Row.new w 23 #[.string ⟨#[]⟩, .string ⟨#[]⟩]
  have HO := Lib.hid ho
  have HB := Lib.hid (new_below w (.cells #[.string ⟨#[]⟩, .string ⟨#[]⟩] 23))
  obtain ⟨o0, o1, f0, f1⟩ := rat_facts ho
  clear ho
  go_enter Tryz.func28, Tryz.ntmps28
  go_wp2_with (first | (go_at_call 60; (with_reducible refine Calls.mono (V1.out _ (HT.out.next HB.out)) ?_); rintro e w1 ⟨rfl, hb1⟩; replace HO := Lib.hid (HO.out.below hb1 HO.out.lt); clear o0 o1 f0 f1; obtain ⟨o0, o1, f0, f1⟩ := rat_facts HO.out; replace HB := Lib.hid (below_to HB.out hb1); clear hb1) | (go_at_call 60; (with_reducible refine Calls.mono (V2.out _ (HT.out.next HB.out)) ?_); rintro e w2 ⟨rfl, hb1⟩; replace HO := Lib.hid (HO.out.below hb1 HO.out.lt); clear o0 o1 f0 f1; obtain ⟨o0, o1, f0, f1⟩ := rat_facts HO.out; replace HB := Lib.hid (below_to HB.out hb1); clear hb1) | (go_at_call 52; (with_reducible refine Calls.mono (C1.out _ (HT.out.next HB.out)) ?_); rintro e w3 ⟨rfl, hb1⟩; replace HO := Lib.hid (HO.out.below hb1 HO.out.lt); clear o0 o1 f0 f1; obtain ⟨o0, o1, f0, f1⟩ := rat_facts HO.out; replace HB := Lib.hid (below_to HB.out hb1); clear hb1) | (go_at_call 61; (with_reducible refine Calls.mono (G1.out _ (HT.out.next HB.out)) ?_); rintro e w4 ⟨rfl, hb1⟩; replace HO := Lib.hid (HO.out.below hb1 HO.out.lt); clear o0 o1 f0 f1; obtain ⟨o0, o1, f0, f1⟩ := rat_facts HO.out; replace HB := Lib.hid (below_to HB.out hb1); clear hb1) | (go_at_call 51; (with_reducible refine Calls.mono (D1.out _ (HT.out.next HB.out)) ?_); rintro e w5 ⟨rfl, hb1⟩; replace HO := Lib.hid (HO.out.below hb1 HO.out.lt); clear o0 o1 f0 f1; obtain ⟨o0, o1, f0, f1⟩ := rat_facts HO.out; replace HB := Lib.hid (below_to HB.out hb1); clear hb1) | (go_at_call 51; (with_reducible refine Calls.mono (D2.out _ (HT.out.next HB.out)) ?_); rintro e w6 ⟨rfl, hb1⟩; replace HO := Lib.hid (HO.out.below hb1 HO.out.lt); clear o0 o1 f0 f1; obtain ⟨o0, o1, f0, f1⟩ := rat_facts HO.out; replace HB := Lib.hid (below_to HB.out hb1); clear hb1))
  refine bodyPost_ret (results_rat_tmp rfl _ _ w.heap.size _ _ rfl (rat_row HO.out)) rfl ?_
  exact ⟨rfl, (HB.out.setCell (by dsimp only; omega) _).setCell (by dsimp only; omega) _⟩
set_option maxRecDepth 100000 in
set_option maxHeartbeats 2000000 in
theorem rmake_neg (a b : Int) (ha : okz a = true) (hb : okz b = true) (h0 : b < 0) : CallT 28 #[strOf (Lib.itoa a), strOf (Lib.itoa b)] (.tuple #[qv (Rat.divInt a b), .int .i64 0]) := fun w hw => by
  rw [← Rat.neg_divInt_neg a b]
  have ha' := ok_neg ha
  have hb' := ok_neg hb
  obtain ⟨c, hc⟩ : ∃ c, -a = c := ⟨_, rfl⟩
  obtain ⟨d, hd⟩ : ∃ d, -b = d := ⟨_, rfl⟩
  rw [hc] at ha' ⊢
  rw [hd] at hb' ⊢
  obtain ⟨g, hgd⟩ : ∃ g, ((Nat.gcd c.natAbs d.natAbs : Nat) : Int) = g := ⟨_, rfl⟩
  have hgo : okz g = true := hgd ▸ ok_gcd ha' hb'
  have hgp : 0 < g := by have := Qm.gcd_pos c d (by omega); omega
  have hq := red_ok ha' hb' (by omega : d ≠ 0)
  have hgs : Qm.gs c d = g := by unfold Qm.gs; rw [if_neg (by omega), hgd]
  have hn := Qm.red_num c d (by omega)
  have hd2 := Qm.red_den c d (by omega)
  have z1 : c % g = 0 := by rw [← hgs]; exact Int.emod_eq_zero_of_dvd (Qm.gs_dvd_n c d)
  have z2 : d % g = 0 := by rw [← hgs]; exact Int.emod_eq_zero_of_dvd (Qm.gs_dvd_d c d)
  rw [hgs] at hn hd2
  have V1 := Lib.hid (rvalT (Lib.itoa a) (by have := itoa_len ha; omega))
  have V2 := Lib.hid (rvalT (Lib.itoa b) (by have := itoa_len hb; omega))
  rw [vld_ok ha] at V1
  rw [vld_ok hb] at V2
  have tz : ((bs (Lib.itoa b)).toList == [48]) = false := by rw [txt_zero]; exact decide_eq_false (by omega)
  have C1 : Hid (CallT 52 #[strOf (Lib.itoa b), .string ⟨#[48]⟩] (.int .i64 (-1))) := Lib.hid (by rw [← lit0]; exact rcmpT b 0 _ (sg_lt h0) hb ok0)
  have S1 : Hid (CallT 49 #[.string ⟨#[48]⟩, strOf (Lib.itoa a)] (.tuple #[strOf (Lib.itoa c), .int .i64 0])) := Lib.hid (by rw [← lit0]; exact rsubT 0 a c (by omega) ok0 ha ha')
  have S2 : Hid (CallT 49 #[.string ⟨#[48]⟩, strOf (Lib.itoa b)] (.tuple #[strOf (Lib.itoa d), .int .i64 0])) := Lib.hid (by rw [← lit0]; exact rsubT 0 b d (by omega) ok0 hb hb')
  have G1 : Hid (CallT 61 #[strOf (Lib.itoa c), strOf (Lib.itoa d)] (.tuple #[strOf (Lib.itoa g), .int .i64 0])) := Lib.hid (rgcdT c d g hgd ha' hb' hgo)
  have D1 : Hid (CallT 51 #[strOf (Lib.itoa c), strOf (Lib.itoa g)] (.tuple #[strOf (Lib.itoa (Rat.divInt c d).num), strOf (Lib.itoa 0), .int .i64 0])) := Lib.hid (rdivT c g _ _ hn z1 ha' hgo (by omega) (okq_iff.1 hq).1 ok0)
  have D2 : Hid (CallT 51 #[strOf (Lib.itoa d), strOf (Lib.itoa g)] (.tuple #[strOf (Lib.itoa (((Rat.divInt c d).den : Nat) : Int)), strOf (Lib.itoa 0), .int .i64 0])) := Lib.hid (rdivT d g _ _ hd2 z2 hb' hgo (by omega) (okq_iff.1 hq).2 ok0)
  have HT := Lib.hid hw
  clear hw ha hb h0 hgd hgo hgp hq hgs hn hd2 z1 z2 ha' hb' hc hd
  unfold qv rv strOf at *
  generalize bs (Lib.itoa (Rat.divInt c d).num) = S at *
  generalize bs (Lib.itoa (((Rat.divInt c d).den : Nat) : Int)) = T at *
  generalize bs (Lib.itoa 0) = Z at *
  generalize bs (Lib.itoa a) = A at *
  generalize bs (Lib.itoa b) = B at *
  generalize bs (Lib.itoa c) = C at *
  generalize bs (Lib.itoa d) = D at *
  generalize bs (Lib.itoa g) = G at *
  have ho := Row.new w 23 #[.string ⟨#[]⟩, .string ⟨#[]⟩]
  have HO := Lib.hid ho
  have HB := Lib.hid (new_below w (.cells #[.string ⟨#[]⟩, .string ⟨#[]⟩] 23))
  obtain ⟨o0, o1, f0, f1⟩ := rat_facts ho
  clear ho
  go_enter Tryz.func28, Tryz.ntmps28
  go_wp2_with (first | (go_at_call 60; (with_reducible refine Calls.mono (V1.out _ (HT.out.next HB.out)) ?_); rintro e w1 ⟨rfl, hb1⟩; replace HO := Lib.hid (HO.out.below hb1 HO.out.lt); clear o0 o1 f0 f1; obtain ⟨o0, o1, f0, f1⟩ := rat_facts HO.out; replace HB := Lib.hid (below_to HB.out hb1); clear hb1) | (go_at_call 60; (with_reducible refine Calls.mono (V2.out _ (HT.out.next HB.out)) ?_); rintro e w2 ⟨rfl, hb1⟩; replace HO := Lib.hid (HO.out.below hb1 HO.out.lt); clear o0 o1 f0 f1; obtain ⟨o0, o1, f0, f1⟩ := rat_facts HO.out; replace HB := Lib.hid (below_to HB.out hb1); clear hb1) | (go_at_call 52; (with_reducible refine Calls.mono (C1.out _ (HT.out.next HB.out)) ?_); rintro e w3 ⟨rfl, hb1⟩; replace HO := Lib.hid (HO.out.below hb1 HO.out.lt); clear o0 o1 f0 f1; obtain ⟨o0, o1, f0, f1⟩ := rat_facts HO.out; replace HB := Lib.hid (below_to HB.out hb1); clear hb1) | (go_at_call 49; (with_reducible refine Calls.mono (S1.out _ (HT.out.next HB.out)) ?_); rintro e w7 ⟨rfl, hb1⟩; replace HO := Lib.hid (HO.out.below hb1 HO.out.lt); clear o0 o1 f0 f1; obtain ⟨o0, o1, f0, f1⟩ := rat_facts HO.out; replace HB := Lib.hid (below_to HB.out hb1); clear hb1) | (go_at_call 49; (with_reducible refine Calls.mono (S2.out _ (HT.out.next HB.out)) ?_); rintro e w8 ⟨rfl, hb1⟩; replace HO := Lib.hid (HO.out.below hb1 HO.out.lt); clear o0 o1 f0 f1; obtain ⟨o0, o1, f0, f1⟩ := rat_facts HO.out; replace HB := Lib.hid (below_to HB.out hb1); clear hb1) | (go_at_call 61; (with_reducible refine Calls.mono (G1.out _ (HT.out.next HB.out)) ?_); rintro e w4 ⟨rfl, hb1⟩; replace HO := Lib.hid (HO.out.below hb1 HO.out.lt); clear o0 o1 f0 f1; obtain ⟨o0, o1, f0, f1⟩ := rat_facts HO.out; replace HB := Lib.hid (below_to HB.out hb1); clear hb1) | (go_at_call 51; (with_reducible refine Calls.mono (D1.out _ (HT.out.next HB.out)) ?_); rintro e w5 ⟨rfl, hb1⟩; replace HO := Lib.hid (HO.out.below hb1 HO.out.lt); clear o0 o1 f0 f1; obtain ⟨o0, o1, f0, f1⟩ := rat_facts HO.out; replace HB := Lib.hid (below_to HB.out hb1); clear hb1) | (go_at_call 51; (with_reducible refine Calls.mono (D2.out _ (HT.out.next HB.out)) ?_); rintro e w6 ⟨rfl, hb1⟩; replace HO := Lib.hid (HO.out.below hb1 HO.out.lt); clear o0 o1 f0 f1; obtain ⟨o0, o1, f0, f1⟩ := rat_facts HO.out; replace HB := Lib.hid (below_to HB.out hb1); clear hb1))
  refine bodyPost_ret (results_rat_tmp rfl _ _ w.heap.size _ _ rfl (rat_row HO.out)) rfl ?_
  exact ⟨rfl, (HB.out.setCell (by dsimp only; omega) _).setCell (by dsimp only; omega) _⟩
theorem rmake_ok (a b : Int) (ha : okz a = true) (hb : okz b = true) (h0 : b ≠ 0) : CallT 28 #[strOf (Lib.itoa a), strOf (Lib.itoa b)] (.tuple #[qv (Rat.divInt a b), .int .i64 0]) := by
  rcases Int.lt_or_gt_of_ne h0 with h | h
  · exact rmake_neg a b ha hb h
  · exact rmake_pos a b ha hb h
set_option maxRecDepth 100000 in
set_option maxHeartbeats 2000000 in
theorem rmake_bad (l r : List UInt8) (hl : l.length ≤ 1000000) (hr : r.length ≤ 1000000) (h : (Im.vld l && Im.vld r) = false ∨ r = Lib.itoa 0) : CallT 28 #[strOf l, strOf r] (.tuple #[rvB ⟨#[]⟩ ⟨#[]⟩, .int .i64 40]) := fun w hw => by
  have V1 := Lib.hid (rvalT l (by omega))
  have V2 := Lib.hid (rvalT r (by omega))
  obtain ⟨x, hx⟩ : ∃ x, Im.vld l = x := ⟨_, rfl⟩
  obtain ⟨y, hy⟩ : ∃ x, Im.vld r = x := ⟨_, rfl⟩
  have hz : x = true → y = true → ((bs r).toList == [48]) = true := by
    intro h1 h2
    rcases h with h | h
    · rw [hx, hy, h1, h2] at h; cases h
    · rw [h, txt_zero]; rfl
  rw [hx] at V1
  rw [hy] at V2
  have HT := Lib.hid hw
  clear hw hl hr h hx hy
  unfold strOf at *
  generalize bs l = A at *
  generalize bs r = B at *
  have ho := Row.new w 23 #[.string ⟨#[]⟩, .string ⟨#[]⟩]
  have HO := Lib.hid ho
  have HB := Lib.hid (new_below w (.cells #[.string ⟨#[]⟩, .string ⟨#[]⟩] 23))
  obtain ⟨o0, o1, f0, f1⟩ := rat_facts ho
  clear ho
  cases x with
  | false =>
    clear hz
    go_enter Tryz.func28, Tryz.ntmps28
    go_wp2_with (first | (go_at_call 60; (with_reducible refine Calls.mono (V1.out _ (HT.out.next HB.out)) ?_); rintro e w1 ⟨rfl, hb1⟩; replace HO := Lib.hid (HO.out.below hb1 HO.out.lt); clear o0 o1 f0 f1; obtain ⟨o0, o1, f0, f1⟩ := rat_facts HO.out; replace HB := Lib.hid (below_to HB.out hb1); clear hb1) | (go_at_call 60; (with_reducible refine Calls.mono (V2.out _ (HT.out.next HB.out)) ?_); rintro e w2 ⟨rfl, hb1⟩; replace HO := Lib.hid (HO.out.below hb1 HO.out.lt); clear o0 o1 f0 f1; obtain ⟨o0, o1, f0, f1⟩ := rat_facts HO.out; replace HB := Lib.hid (below_to HB.out hb1); clear hb1))
    refine bodyPost_ret (results_rat_tmp rfl _ _ w.heap.size _ _ rfl (rat_row HO.out)) rfl ?_
    exact ⟨rfl, (HB.out.setCell (by dsimp only; omega) _).setCell (by dsimp only; omega) _⟩
  | true =>
    cases y with
    | false =>
      clear hz
      go_enter Tryz.func28, Tryz.ntmps28
      go_wp2_with (first | (go_at_call 60; (with_reducible refine Calls.mono (V1.out _ (HT.out.next HB.out)) ?_); rintro e w1 ⟨rfl, hb1⟩; replace HO := Lib.hid (HO.out.below hb1 HO.out.lt); clear o0 o1 f0 f1; obtain ⟨o0, o1, f0, f1⟩ := rat_facts HO.out; replace HB := Lib.hid (below_to HB.out hb1); clear hb1) | (go_at_call 60; (with_reducible refine Calls.mono (V2.out _ (HT.out.next HB.out)) ?_); rintro e w2 ⟨rfl, hb1⟩; replace HO := Lib.hid (HO.out.below hb1 HO.out.lt); clear o0 o1 f0 f1; obtain ⟨o0, o1, f0, f1⟩ := rat_facts HO.out; replace HB := Lib.hid (below_to HB.out hb1); clear hb1))
      refine bodyPost_ret (results_rat_tmp rfl _ _ w.heap.size _ _ rfl (rat_row HO.out)) rfl ?_
      exact ⟨rfl, (HB.out.setCell (by dsimp only; omega) _).setCell (by dsimp only; omega) _⟩
    | true =>
      replace hz := hz rfl rfl
      go_enter Tryz.func28, Tryz.ntmps28
      go_wp2_with (first | (go_at_call 60; (with_reducible refine Calls.mono (V1.out _ (HT.out.next HB.out)) ?_); rintro e w1 ⟨rfl, hb1⟩; replace HO := Lib.hid (HO.out.below hb1 HO.out.lt); clear o0 o1 f0 f1; obtain ⟨o0, o1, f0, f1⟩ := rat_facts HO.out; replace HB := Lib.hid (below_to HB.out hb1); clear hb1) | (go_at_call 60; (with_reducible refine Calls.mono (V2.out _ (HT.out.next HB.out)) ?_); rintro e w2 ⟨rfl, hb1⟩; replace HO := Lib.hid (HO.out.below hb1 HO.out.lt); clear o0 o1 f0 f1; obtain ⟨o0, o1, f0, f1⟩ := rat_facts HO.out; replace HB := Lib.hid (below_to HB.out hb1); clear hb1))
      refine bodyPost_ret (results_rat_tmp rfl _ _ w.heap.size _ _ rfl (rat_row HO.out)) rfl ?_
      exact ⟨rfl, (HB.out.setCell (by dsimp only; omega) _).setCell (by dsimp only; omega) _⟩
end Go.Proofs.YtabkodpjhpjgnaaGreatDoor
