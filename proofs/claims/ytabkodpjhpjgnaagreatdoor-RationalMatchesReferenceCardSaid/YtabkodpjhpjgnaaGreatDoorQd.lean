/- The step that reduces a fraction, and those that round it to an integer. -/
import Derived.Test.YtabkodpjhpjgnaaGreatDoorQc
namespace Go.Proofs.YtabkodpjhpjgnaaGreatDoor
open Go.RowKit Go.Shelf

theorem minus_text {g : Int} (h : 0 < g) : (⟨#[45]⟩ : ByteArray) ++ bs (Lib.itoa g) = bs (Lib.itoa (-g)) := by
  rw [show (⟨#[45]⟩ : ByteArray) = bs [45] from rfl, bs_append, pos_itoa (by omega), neg_itoa (by omega), Int.natAbs_neg]; rfl
theorem itoa_len {z : Int} (h : okz z = true) : (Lib.itoa z).length ≤ 300 := by
  have h2 : (Lib.decDigits z.natAbs).length ≤ 200 := (Im.dd_len _ 200 (by decide)).2 (of_decide_eq_true h)
  by_cases hn : z < 0
  · rw [neg_itoa hn, List.length_cons]; omega
  · rw [pos_itoa hn]; omega
theorem ok_neg {z : Int} (h : okz z = true) : okz (-z) = true := by
  unfold okz at *; rw [Int.natAbs_neg]; exact h
theorem ok_le {a b : Int} (h : okz a = true) (hle : b.natAbs ≤ a.natAbs) : okz b = true := decide_eq_true (Nat.lt_of_le_of_lt hle (of_decide_eq_true h))
theorem red_ok {a b : Int} (ha : okz a = true) (hb : okz b = true) (h0 : b ≠ 0) : okq (Rat.divInt a b) = true :=
  okq_iff.2 ⟨ok_le ha (Qm.red_num_le a b h0), ok_le hb (by rw [Int.natAbs_natCast]; exact Qm.red_den_le a b h0)⟩

/-- A fraction's box and that of the result, behind the two allocations with which a step begins. -/
theorem boxes2 (u : World) (L R : ByteArray) : ∃ W, (u.alloc (.cells #[.string L, .string R] 23)).alloc (.cells #[.string ⟨#[]⟩, .string ⟨#[]⟩] 23) = W ∧ Below u.heap.size u W ∧
    Row W u.heap.size 23 #[.string L, .string R] ∧ Row W (u.heap.size + 1) 23 #[.string ⟨#[]⟩, .string ⟨#[]⟩] := by
  refine ⟨_, rfl, ((Below.refl _ _).alloc (Nat.le_refl _) _).alloc (by simp) _, (Row.new u _ _).alloc _, ?_⟩
  have := Row.new (u.alloc (.cells #[.string L, .string R] 23)) 23 #[.string ⟨#[]⟩, .string ⟨#[]⟩]
  rw [World.size_alloc] at this; exact this

set_option maxRecDepth 100000 in
set_option maxHeartbeats 1000000 in
theorem red_bad (l r : List UInt8) (y : Value) (w : World) (h : (Im.vld l && Im.vld r) = false ∨ r = Lib.itoa 0) : StepQ w 59 #[] (rv l r) y false := by
  intro u hu _
  obtain ⟨s, e, hg, hz⟩ : ∃ (s : ByteArray) (e : Int), CallT 62 #[strOf l, strOf r] (.tuple #[.string s, .int .i64 e]) ∧ ((e != 0) = true ∨ ((e != 0) = false ∧ ((bs r).toList == [48]) = true)) := by
    rcases split2 l r with hb | ⟨a, b, rfl, rfl, ha, hb⟩
    · exact ⟨bs [], 30, fun u _ => Gcd_bad l r u hb, .inl rfl⟩
    · rcases h with h | h
      · rw [vld_ok ha, vld_ok hb] at h; cases h
      · have := Im.itoa_inj h
        subst this
        exact ⟨_, 0, gcd_c a 0 _ rfl ha hb (ok_gcd ha hb), .inr ⟨rfl, by rw [txt_zero]; exact decide_eq_true rfl⟩⟩
  have HT := Lib.hid hu; have HG := Lib.hid hg
  clear h hu hg
  unfold rv strOf at *
  unfold StepP
  generalize bs l = L at *
  generalize bs r = R at *
  obtain ⟨W, hW, hb, hx, ho⟩ := boxes2 u L R
  have HW := Lib.hid hW; have HB := Lib.hid hb; have HX := Lib.hid hx; have HO := Lib.hid ho
  clear hW hb hx ho
  rcases hz with hz | ⟨hz, hz2⟩
  all_goals
    go_enter Tryz.func59, Tryz.ntmps59
    go_wp2_with (go_at_call 62; rw [HW.out]; (with_reducible refine Calls.mono (HG.out _ (HT.out.next HB.out)) ?_); rintro e w1 ⟨rfl, hb1⟩; have HX1 := Lib.hid (HX.out.below hb1 HX.out.lt); have HO1 := Lib.hid (HO.out.below hb1 HO.out.lt); obtain ⟨x0, x1, -, -⟩ := rat_facts HX1.out; obtain ⟨o0, o1, f0, f1⟩ := rat_facts HO1.out; have HB1 := Lib.hid (below_to HB.out hb1); clear hb1)
    refine bodyPost_ret (results_rat_tmp rfl _ _ (u.heap.size + 1) _ _ rfl (rat_row HO1.out)) rfl ?_
    exact ⟨L, R, 40, rfl, rfl, (fun h => by cases h), (HB1.out.setCell (by dsimp only; omega) _).setCell (by dsimp only; omega) _⟩

set_option maxRecDepth 100000 in
set_option maxHeartbeats 2000000 in
theorem red_step (a b : Int) (w : World) (ha : okz a = true) (hb : okz b = true) (h0 : b ≠ 0) : StepQ w 59 #[] (rv (Lib.itoa a) (Lib.itoa b)) (qv (Rat.divInt a b)) true := by
  intro u hu _
  obtain ⟨g, hgd⟩ : ∃ g, ((Nat.gcd a.natAbs b.natAbs : Nat) : Int) = g := ⟨_, rfl⟩
  have hgo : okz g = true := hgd ▸ ok_gcd ha hb
  have hgp : 0 < g := by have := Qm.gcd_pos a b h0; omega
  have hq := red_ok ha hb h0
  have hn := Qm.red_num a b h0
  have hd := Qm.red_den a b h0
  have hgs : Qm.gs a b = if b < 0 then -g else g := by unfold Qm.gs; rw [hgd]
  obtain ⟨k, hk⟩ : ∃ k, sg b 0 = k := ⟨_, rfl⟩
  have hkn : decide (k < 0) = decide (b < 0) := by
    rw [← hk]; unfold sg
    by_cases h : b < 0
    · rw [if_pos h, decide_eq_true h]; rfl
    · rw [if_neg h, if_pos (by omega), decide_eq_false h]; rfl
  have tz : ((bs (Lib.itoa b)).toList == [48]) = false := by rw [txt_zero]; exact decide_eq_false h0
  have G1 : Hid (CallT 62 #[strOf (Lib.itoa a), strOf (Lib.itoa b)] (.tuple #[strOf (Lib.itoa g), .int .i64 0])) := Lib.hid (gcd_c a b g hgd ha hb hgo)
  have C1 : Hid (CallT 63 #[strOf (Lib.itoa b), .string ⟨#[48]⟩] (.int .i64 k)) := Lib.hid (by rw [← lit0]; exact cmp_c b 0 _ hk hb ok0)
  obtain ⟨D, hD⟩ : ∃ D : Int, Qm.gs a b = D := ⟨_, rfl⟩
  rw [hD] at hn hd hgs
  obtain ⟨q1, hq1⟩ : ∃ q1 q2 q3 q4 : Int, (a / D = q1 ∧ a % D = q2) ∧ (b / D = q3 ∧ b % D = q4) := ⟨_, _, _, _, ⟨rfl, rfl⟩, ⟨rfl, rfl⟩⟩
  obtain ⟨q2, q3, q4, ⟨e1, e2⟩, ⟨e3, e4⟩⟩ := hq1
  have hD0 : D ≠ 0 := hD ▸ Qm.gs_ne a b h0
  have hDo : okz D = true := by
    rw [hgs]; split
    · exact ok_neg hgo
    · exact hgo
  have z2 : a % D = 0 := by rw [← hD]; exact Int.emod_eq_zero_of_dvd (Qm.gs_dvd_n a b)
  have z4 : b % D = 0 := by rw [← hD]; exact Int.emod_eq_zero_of_dvd (Qm.gs_dvd_d a b)
  have D1 : Hid (CallT 76 #[strOf (Lib.itoa a), strOf (Lib.itoa D)] (.tuple #[strOf (Lib.itoa (Rat.divInt a b).num), strOf (Lib.itoa 0), .int .i64 0])) := Lib.hid (div_c a D _ _ hn z2 ha hDo hD0 (okq_iff.1 hq).1 ok0)
  have D2 : Hid (CallT 76 #[strOf (Lib.itoa b), strOf (Lib.itoa D)] (.tuple #[strOf (Lib.itoa (((Rat.divInt a b).den : Nat) : Int)), strOf (Lib.itoa 0), .int .i64 0])) := Lib.hid (div_c b D _ _ hd z4 hb hDo hD0 (okq_iff.1 hq).2 ok0)
  have hm := minus_text hgp
  have hsz : (bs (Lib.itoa g)).size ≤ 300 := by rw [bs_size]; exact itoa_len hgo
  have HT := Lib.hid hu
  unfold StepP
  unfold qv rv strOf at *
  generalize bs (Lib.itoa (Rat.divInt a b).num) = S at *
  generalize bs (Lib.itoa (((Rat.divInt a b).den : Nat) : Int)) = T at *
  generalize bs (Lib.itoa 0) = Z at *
  obtain ⟨W, hW, hbw, hx, ho⟩ := boxes2 u (bs (Lib.itoa a)) (bs (Lib.itoa b))
  have HW := Lib.hid hW; have HB := Lib.hid hbw; have HX := Lib.hid hx; have HO := Lib.hid ho
  by_cases hneg : b < 0
  · rw [if_pos hneg] at hgs
    rw [decide_eq_true hneg] at hkn
    rw [← hgs] at hm
    have h1 : ¬ ((⟨#[45]⟩ : ByteArray).size + (bs (Lib.itoa g)).size > 9223372036854775807) := by show ¬ (1 + _ > _); omega
    have h2 : ¬ (9223372036854775807 < 1 + (bs (Lib.itoa g)).size) := by omega
    have HM := Lib.hid hm
    clear hu ha hb h0 hgd hgo hgp hq hn hd hgs hk hD e1 e2 e3 e4 hD0 hDo z2 z4 hm hsz hW hbw hx ho hneg
    generalize bs (Lib.itoa a) = L at *
    generalize bs (Lib.itoa b) = R at *
    generalize bs (Lib.itoa g) = G at *
    generalize bs (Lib.itoa D) = E at *
    go_enter Tryz.func59, Tryz.ntmps59
    go_wp2_with (first | (go_at_call 62; rw [HW.out]; (with_reducible refine Calls.mono (G1.out _ (HT.out.next HB.out)) ?_); rintro e w1 ⟨rfl, hb1⟩; replace HX := Lib.hid (HX.out.below hb1 HX.out.lt); replace HO := Lib.hid (HO.out.below hb1 HO.out.lt); obtain ⟨x0, x1, -, -⟩ := rat_facts HX.out; replace HB := Lib.hid (below_to HB.out hb1); clear hb1) | (go_at_call 63; (with_reducible refine Calls.mono (C1.out _ (HT.out.next HB.out)) ?_); rintro e w2 ⟨rfl, hb1⟩; replace HX := Lib.hid (HX.out.below hb1 HX.out.lt); replace HO := Lib.hid (HO.out.below hb1 HO.out.lt); clear x0 x1; obtain ⟨x0, x1, -, -⟩ := rat_facts HX.out; replace HB := Lib.hid (below_to HB.out hb1); clear hb1) | (go_at_call 76; (try rw [HM.out]); (with_reducible refine Calls.mono (D1.out _ (HT.out.next HB.out)) ?_); rintro e w3 ⟨rfl, hb1⟩; replace HX := Lib.hid (HX.out.below hb1 HX.out.lt); replace HO := Lib.hid (HO.out.below hb1 HO.out.lt); clear x0 x1; obtain ⟨x0, x1, -, -⟩ := rat_facts HX.out; replace HB := Lib.hid (below_to HB.out hb1); clear hb1) | (go_at_call 76; (try rw [HM.out]); (with_reducible refine Calls.mono (D2.out _ (HT.out.next HB.out)) ?_); rintro e w4 ⟨rfl, hb1⟩; replace HO := Lib.hid (HO.out.below hb1 HO.out.lt); obtain ⟨o0, o1, f0, f1⟩ := rat_facts HO.out; replace HB := Lib.hid (below_to HB.out hb1); clear hb1))
    refine bodyPost_ret (results_rat_tmp rfl _ _ (u.heap.size + 1) _ _ rfl (rat_row HO.out)) rfl ?_
    exact ⟨S, T, 0, rfl, rfl, fun _ => rfl, (HB.out.setCell (by dsimp only; omega) _).setCell (by dsimp only; omega) _⟩
  · rw [if_neg hneg] at hgs
    rw [decide_eq_false hneg] at hkn
    subst hgs
    clear hu ha hb h0 hgd hgp hq hn hd hk hD e1 e2 e3 e4 hD0 hDo z2 z4 hm hsz hW hbw hx ho hneg
    generalize bs (Lib.itoa a) = L at *
    generalize bs (Lib.itoa b) = R at *
    generalize bs (Lib.itoa D) = E at *
    go_enter Tryz.func59, Tryz.ntmps59
    go_wp2_with (first | (go_at_call 62; rw [HW.out]; (with_reducible refine Calls.mono (G1.out _ (HT.out.next HB.out)) ?_); rintro e w1 ⟨rfl, hb1⟩; replace HX := Lib.hid (HX.out.below hb1 HX.out.lt); replace HO := Lib.hid (HO.out.below hb1 HO.out.lt); obtain ⟨x0, x1, -, -⟩ := rat_facts HX.out; replace HB := Lib.hid (below_to HB.out hb1); clear hb1) | (go_at_call 63; (with_reducible refine Calls.mono (C1.out _ (HT.out.next HB.out)) ?_); rintro e w2 ⟨rfl, hb1⟩; replace HX := Lib.hid (HX.out.below hb1 HX.out.lt); replace HO := Lib.hid (HO.out.below hb1 HO.out.lt); clear x0 x1; obtain ⟨x0, x1, -, -⟩ := rat_facts HX.out; replace HB := Lib.hid (below_to HB.out hb1); clear hb1) | (go_at_call 76; (with_reducible refine Calls.mono (D1.out _ (HT.out.next HB.out)) ?_); rintro e w3 ⟨rfl, hb1⟩; replace HX := Lib.hid (HX.out.below hb1 HX.out.lt); replace HO := Lib.hid (HO.out.below hb1 HO.out.lt); clear x0 x1; obtain ⟨x0, x1, -, -⟩ := rat_facts HX.out; replace HB := Lib.hid (below_to HB.out hb1); clear hb1) | (go_at_call 76; (with_reducible refine Calls.mono (D2.out _ (HT.out.next HB.out)) ?_); rintro e w4 ⟨rfl, hb1⟩; replace HO := Lib.hid (HO.out.below hb1 HO.out.lt); obtain ⟨o0, o1, f0, f1⟩ := rat_facts HO.out; replace HB := Lib.hid (below_to HB.out hb1); clear hb1))
    refine bodyPost_ret (results_rat_tmp rfl _ _ (u.heap.size + 1) _ _ rfl (rat_row HO.out)) rfl ?_
    exact ⟨S, T, 0, rfl, rfl, fun _ => rfl, (HB.out.setCell (by dsimp only; omega) _).setCell (by dsimp only; omega) _⟩
end Go.Proofs.YtabkodpjhpjgnaaGreatDoor
