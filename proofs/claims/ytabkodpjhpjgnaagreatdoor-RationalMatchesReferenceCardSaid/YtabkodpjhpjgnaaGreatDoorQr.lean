/- order, and Compare. -/
import Derived.Test.YtabkodpjhpjgnaaGreatDoorQq
namespace Go.Proofs.YtabkodpjhpjgnaaGreatDoor
open Go.RowKit Go.Shelf

/-- What order's two boxes hold: fractions of one order. -/
def OrdF (K n d m c : Int) (N D M C : ByteArray) : Prop := N = bs (Lib.itoa n) ∧ D = bs (Lib.itoa d) ∧ M = bs (Lib.itoa m) ∧ C = bs (Lib.itoa c) ∧ okz n = true ∧ okz d = true ∧ okz m = true ∧ okz c = true ∧ 0 < d ∧ 0 < c ∧ Qm.cmp4 n d m c = K
def OrdP (w : World) (K : Int) (u : World) : Prop :=
  ∃ n d m c : Int, Hid (Row u w.heap.size 23 #[strOf (Lib.itoa n), strOf (Lib.itoa d)]) ∧ Hid (Row u (w.heap.size + 1) 23 #[strOf (Lib.itoa m), strOf (Lib.itoa c)]) ∧ Hid (Below w.heap.size w u) ∧
    okz n = true ∧ okz d = true ∧ okz m = true ∧ okz c = true ∧ 0 < d ∧ 0 < c ∧ Qm.cmp4 n d m c = K
/-- The denominator that a box holds. -/
noncomputable def denOf (u : World) (g : Nat) : Nat := @dite Nat (∃ d : Int, 0 < d ∧ u.cell? ⟨g, 1, none⟩ = some (strOf (Lib.itoa d))) (Classical.propDecidable _) (fun h => h.choose.toNat) (fun _ => 0)
theorem denOf_eq {u : World} {g : Nat} {d : Int} (h0 : 0 < d) (h : u.cell? ⟨g, 1, none⟩ = some (strOf (Lib.itoa d))) : (denOf u g : Int) = d := by
  have hx : ∃ d : Int, 0 < d ∧ u.cell? ⟨g, 1, none⟩ = some (strOf (Lib.itoa d)) := ⟨d, h0, h⟩
  have e : denOf u g = hx.choose.toNat := by unfold denOf; exact @dif_pos _ (Classical.propDecidable _) hx _ _ _
  obtain ⟨k0, k1'⟩ := hx.choose_spec
  have k1 := h.symm.trans k1'
  have k2 : bs (Lib.itoa d) = bs (Lib.itoa hx.choose) := by injection (Option.some.inj k1)
  have k3 := Im.itoa_inj ((bs_inj _ _).1 k2)
  rw [e]; omega

set_option maxRecDepth 1000000 in
set_option maxHeartbeats 4000000 in
theorem qorder_any (n d m c : Int) (w : World) (ht : TabP w) (hn : okz n = true) (hd : okz d = true) (hm : okz m = true) (hc : okz c = true) (d0 : 0 < d) (c0 : 0 < c) (K : Int) (hK : Qm.cmp4 n d m c = K) :
    Calls Tryz.prog 50 #[rv (Lib.itoa n) (Lib.itoa d), rv (Lib.itoa m) (Lib.itoa c)] w fun e w' => e = .returned (.int .i64 K) ∧ Below w.heap.size w w' := by
  have HT := Lib.hid ht
  obtain ⟨W, hW⟩ : ∃ W, (w.alloc (.cells #[strOf (Lib.itoa n), strOf (Lib.itoa d)] 23)).alloc (.cells #[strOf (Lib.itoa m), strOf (Lib.itoa c)] 23) = W := ⟨_, rfl⟩
  have hJ : OrdP w K W := by
    refine ⟨n, d, m, c, Lib.hid ?_, Lib.hid ?_, Lib.hid ?_, hn, hd, hm, hc, d0, c0, hK⟩
    · rw [← hW]; exact (Row.new w _ _).alloc _
    · rw [← hW]
      have := Row.new (w.alloc (.cells #[strOf (Lib.itoa n), strOf (Lib.itoa d)] 23)) 23 #[strOf (Lib.itoa m), strOf (Lib.itoa c)]
      rw [World.size_alloc] at this; exact this
    · rw [← hW]; exact ((Below.refl _ _).alloc (Nat.le_refl _) _).alloc (by simp) _
  have HW := Lib.hid hW
  clear hW ht hn hd hm hc d0 c0 hK
  go_enter Tryz.func50, Tryz.ntmps50
  go_wp2
  rw [HW.out]
  refine wp_scope_jumps 0 (fun a' w' => ∃ (rv0 rv1 u5 u6 u7 u8 u9 u10 u11 u12 u13 u14 u15 u16 u17 u18 u19 u20 u21 u22 u23 u24 u25 u26 u27 u28 u29 u30 u31 u32 u33 u34 u35 u36 u37 u38 u39 u40 u41 u42 u43 u44 u45 u46 u47 u48 u49 u50 u51 u52 u53 : Value), a' = { tmps := #[rv0, rv1, .pointer (some ⟨w.heap.size, 0, none⟩), .pointer (some ⟨w.heap.size + 1, 0, none⟩), .int .i64 0, u5, u6, u7, u8, u9, u10, u11, u12, u13, u14, u15, u16, u17, u18, u19, u20, u21, u22, u23, u24, u25, u26, u27, u28, u29, u30, u31, u32, u33, u34, u35, u36, u37, u38, u39, u40, u41, u42, u43, u44, u45, u46, u47, u48, u49, u50, u51, u52, u53], defers := [] } ∧ OrdP w K w') (fun _ u => denOf u w.heap.size + denOf u (w.heap.size + 1)) rfl ?first ?pass
  case' first =>
    go_wp2
    go_step3
  case' pass =>
    rintro a' W ⟨rv0, rv1, u5, u6, u7, u8, u9, u10, u11, u12, u13, u14, u15, u16, u17, u18, u19, u20, u21, u22, u23, u24, u25, u26, u27, u28, u29, u30, u31, u32, u33, u34, u35, u36, u37, u38, u39, u40, u41, u42, u43, u44, u45, u46, u47, u48, u49, u50, u51, u52, u53, rfl, hJ⟩
  all_goals
    obtain ⟨n, d, m, c, HX, HY, HB, hn, hd, hm, hc, d0, c0, hK⟩ := hJ
    obtain ⟨x0, x1, xf0, xf1⟩ := rat_facts HX.out
    obtain ⟨y0, y1, yf0, yf1⟩ := rat_facts HY.out
    have hq1 := ok_le hn (@ediv_abs n d d0)
    have hq2 := ok_le hm (@ediv_abs m c c0)
    have ge1 := Int.emod_nonneg n (show d ≠ 0 by omega)
    have lt1 := Int.emod_lt_of_pos n d0
    have ge2 := Int.emod_nonneg m (show c ≠ 0 by omega)
    have lt2 := Int.emod_lt_of_pos m c0
    have hr1 : okz (n % d) = true := ok_le hd (by omega)
    have hr2 : okz (m % c) = true := ok_le hc (by omega)
    have D1 : Hid (CallT 76 #[strOf (Lib.itoa n), strOf (Lib.itoa d)] (.tuple #[strOf (Lib.itoa (n / d)), strOf (Lib.itoa (n % d)), .int .i64 0])) := Lib.hid (div_c n d _ _ rfl rfl hn hd (by omega) hq1 hr1)
    have D2 : Hid (CallT 76 #[strOf (Lib.itoa m), strOf (Lib.itoa c)] (.tuple #[strOf (Lib.itoa (m / c)), strOf (Lib.itoa (m % c)), .int .i64 0])) := Lib.hid (div_c m c _ _ rfl rfl hm hc (by omega) hq2 hr2)
    have te : ((bs (Lib.itoa (n / d))).toList == (bs (Lib.itoa (m / c))).toList) = decide (n / d = m / c) := txt_eqb _ _
    have tr : ((bs (Lib.itoa (n % d))).toList == [48]) = decide (n % d = 0) := txt_zero _
    have ts : ((bs (Lib.itoa (m % c))).toList == [48]) = decide (m % c = 0) := txt_zero _
    unfold strOf at *
    by_cases hq : n / d = m / c
    · rw [decide_eq_true hq] at te
      by_cases hz : n % d = 0 ∨ m % c = 0
      · obtain ⟨k, hk⟩ : ∃ k, sg (n % d) (m % c) = k := ⟨_, rfl⟩
        have hKe : K = k := by rw [← hK, Qm.cmp4_rest n d m c hq, Qm.cmp4_zero _ _ _ _ d0 c0 ge1 ge2 hz, ← hk]; rfl
        have C1 : Hid (CallT 63 #[.string (bs (Lib.itoa (n % d))), .string (bs (Lib.itoa (m % c)))] (.int .i64 k)) := Lib.hid (cmp_c _ _ _ hk hr1 hr2)
        by_cases hz1 : n % d = 0
        · rw [decide_eq_true hz1] at tr
          clear ts hK hn hd hm hc hq1 hq2 hr1 hr2 ge1 lt1 ge2 lt2 hq hz hz1 d0 c0 hk
          generalize bs (Lib.itoa n) = N at *
          generalize bs (Lib.itoa d) = D at *
          generalize bs (Lib.itoa m) = M at *
          generalize bs (Lib.itoa c) = C at *
          generalize bs (Lib.itoa (n / d)) = Q1 at *
          generalize bs (Lib.itoa (n % d)) = R1 at *
          generalize bs (Lib.itoa (m / c)) = Q2 at *
          generalize bs (Lib.itoa (m % c)) = R2 at *
          go_wp2_with (first | (go_at_call 76; (with_reducible refine Calls.mono (D1.out _ (HT.out.next HB.out)) ?_); rintro e w1 ⟨rfl, hb1⟩; replace HX := Lib.hid (HX.out.below hb1 HX.out.lt); replace HY := Lib.hid (HY.out.below hb1 HY.out.lt); clear x0 x1 y0 y1; obtain ⟨x0, x1, xf0, xf1⟩ := rat_facts HX.out; obtain ⟨y0, y1, yf0, yf1⟩ := rat_facts HY.out; replace HB := Lib.hid (below_to HB.out hb1); clear hb1) | (go_at_call 76; (with_reducible refine Calls.mono (D2.out _ (HT.out.next HB.out)) ?_); rintro e w2 ⟨rfl, hb1⟩; replace HX := Lib.hid (HX.out.below hb1 HX.out.lt); replace HY := Lib.hid (HY.out.below hb1 HY.out.lt); clear x0 x1 y0 y1; obtain ⟨x0, x1, xf0, xf1⟩ := rat_facts HX.out; obtain ⟨y0, y1, yf0, yf1⟩ := rat_facts HY.out; replace HB := Lib.hid (below_to HB.out hb1); clear hb1) | (go_at_call 63; (with_reducible refine Calls.mono (C1.out _ (HT.out.next HB.out)) ?_); rintro e w3 ⟨rfl, hb1⟩; replace HX := Lib.hid (HX.out.below hb1 HX.out.lt); replace HY := Lib.hid (HY.out.below hb1 HY.out.lt); clear x0 x1 y0 y1; obtain ⟨x0, x1, xf0, xf1⟩ := rat_facts HX.out; obtain ⟨y0, y1, yf0, yf1⟩ := rat_facts HY.out; replace HB := Lib.hid (below_to HB.out hb1); clear hb1))
          simp only [Exit.jump]
          go_ret
          rw [hKe]
          exact ⟨rfl, HB.out⟩
        · rw [decide_eq_false hz1] at tr
          rw [decide_eq_true (hz.resolve_left hz1)] at ts
          clear hK hn hd hm hc hq1 hq2 hr1 hr2 ge1 lt1 ge2 lt2 hq hz hz1 d0 c0 hk
          generalize bs (Lib.itoa n) = N at *
          generalize bs (Lib.itoa d) = D at *
          generalize bs (Lib.itoa m) = M at *
          generalize bs (Lib.itoa c) = C at *
          generalize bs (Lib.itoa (n / d)) = Q1 at *
          generalize bs (Lib.itoa (n % d)) = R1 at *
          generalize bs (Lib.itoa (m / c)) = Q2 at *
          generalize bs (Lib.itoa (m % c)) = R2 at *
          go_wp2_with (first | (go_at_call 76; (with_reducible refine Calls.mono (D1.out _ (HT.out.next HB.out)) ?_); rintro e w1 ⟨rfl, hb1⟩; replace HX := Lib.hid (HX.out.below hb1 HX.out.lt); replace HY := Lib.hid (HY.out.below hb1 HY.out.lt); clear x0 x1 y0 y1; obtain ⟨x0, x1, xf0, xf1⟩ := rat_facts HX.out; obtain ⟨y0, y1, yf0, yf1⟩ := rat_facts HY.out; replace HB := Lib.hid (below_to HB.out hb1); clear hb1) | (go_at_call 76; (with_reducible refine Calls.mono (D2.out _ (HT.out.next HB.out)) ?_); rintro e w2 ⟨rfl, hb1⟩; replace HX := Lib.hid (HX.out.below hb1 HX.out.lt); replace HY := Lib.hid (HY.out.below hb1 HY.out.lt); clear x0 x1 y0 y1; obtain ⟨x0, x1, xf0, xf1⟩ := rat_facts HX.out; obtain ⟨y0, y1, yf0, yf1⟩ := rat_facts HY.out; replace HB := Lib.hid (below_to HB.out hb1); clear hb1) | (go_at_call 63; (with_reducible refine Calls.mono (C1.out _ (HT.out.next HB.out)) ?_); rintro e w3 ⟨rfl, hb1⟩; replace HX := Lib.hid (HX.out.below hb1 HX.out.lt); replace HY := Lib.hid (HY.out.below hb1 HY.out.lt); clear x0 x1 y0 y1; obtain ⟨x0, x1, xf0, xf1⟩ := rat_facts HX.out; obtain ⟨y0, y1, yf0, yf1⟩ := rat_facts HY.out; replace HB := Lib.hid (below_to HB.out hb1); clear hb1))
          simp only [Exit.jump]
          go_ret
          rw [hKe]
          exact ⟨rfl, HB.out⟩
      · rw [not_or] at hz
        rw [decide_eq_false hz.1] at tr
        rw [decide_eq_false hz.2] at ts
        have hKs : Qm.cmp4 c (m % c) d (n % d) = K := by rw [← hK, Qm.cmp4_rest n d m c hq, Qm.cmp4_swap (n % d)]
        have HN := Lib.hid (show OrdF K c (m % c) d (n % d) (bs (Lib.itoa c)) (bs (Lib.itoa (m % c))) (bs (Lib.itoa d)) (bs (Lib.itoa (n % d))) from ⟨rfl, rfl, rfl, rfl, hc, hr2, hd, hr1, by omega, by omega, hKs⟩)
        have HD := Lib.hid (And.intro (denOf_eq d0 x1) (denOf_eq c0 y1))
        have HLT := Lib.hid (And.intro (And.intro lt1 lt2) (And.intro (show 0 < n % d by omega) (show 0 < m % c by omega)))
        clear hK hn hd hm hc hq1 hq2 hr1 hr2 ge1 lt1 ge2 lt2 hq hz d0 c0 hKs
        generalize bs (Lib.itoa n) = N at *
        generalize bs (Lib.itoa d) = D at *
        generalize bs (Lib.itoa m) = M at *
        generalize bs (Lib.itoa c) = C at *
        generalize bs (Lib.itoa (n / d)) = Q1 at *
        generalize bs (Lib.itoa (n % d)) = R1 at *
        generalize bs (Lib.itoa (m / c)) = Q2 at *
        generalize bs (Lib.itoa (m % c)) = R2 at *
        go_wp2_with (first | (go_at_call 76; (with_reducible refine Calls.mono (D1.out _ (HT.out.next HB.out)) ?_); rintro e w1 ⟨rfl, hb1⟩; replace HX := Lib.hid (HX.out.below hb1 HX.out.lt); replace HY := Lib.hid (HY.out.below hb1 HY.out.lt); clear x0 x1 y0 y1; obtain ⟨x0, x1, xf0, xf1⟩ := rat_facts HX.out; obtain ⟨y0, y1, yf0, yf1⟩ := rat_facts HY.out; replace HB := Lib.hid (below_to HB.out hb1); clear hb1) | (go_at_call 76; (with_reducible refine Calls.mono (D2.out _ (HT.out.next HB.out)) ?_); rintro e w2 ⟨rfl, hb1⟩; replace HX := Lib.hid (HX.out.below hb1 HX.out.lt); replace HY := Lib.hid (HY.out.below hb1 HY.out.lt); clear x0 x1 y0 y1; obtain ⟨x0, x1, xf0, xf1⟩ := rat_facts HX.out; obtain ⟨y0, y1, yf0, yf1⟩ := rat_facts HY.out; replace HB := Lib.hid (below_to HB.out hb1); clear hb1))
        go_step3
        obtain ⟨k1, k2, k3, k4, k5, k6, k7, k8, k9, k10, k11⟩ := HN.out
        have hra := ((rat_row (x' := .string C) (y' := .string R2) HX.out).far (p := ⟨w.heap.size + 1, 0, none⟩) (by dsimp only; omega) (.string D)).far (p := ⟨w.heap.size + 1, 1, none⟩) (by dsimp only; omega) (.string R1)
        have hrb := rat_row (x' := .string D) (y' := .string R1) ((HY.out.far (p := ⟨w.heap.size, 0, none⟩) (by dsimp only; omega) (.string C)).far (p := ⟨w.heap.size, 1, none⟩) (by dsimp only; omega) (.string R2))
        have ea : #[Value.string C, Value.string R2] = #[strOf (Lib.itoa c), strOf (Lib.itoa (m % c))] := by rw [k1, k2]
        have eb : #[Value.string D, Value.string R1] = #[strOf (Lib.itoa d), strOf (Lib.itoa (n % d))] := by rw [k3, k4]
        rw [ea] at hra
        rw [eb] at hrb
        clear ea eb
        have hJ2 : OrdP w K _ := ⟨c, m % c, d, n % d, Lib.hid hra, Lib.hid hrb, Lib.hid ((((HB.out.setCell (by dsimp only; omega) _).setCell (by dsimp only; omega) _).setCell (by dsimp only; omega) _).setCell (by dsimp only; omega) _), k5, k6, k7, k8, k9, k10, k11⟩
        have m1 := denOf_eq k9 (rat_facts hra).2.1
        have m2 := denOf_eq k10 (rat_facts hrb).2.1
        have HM := Lib.hid (And.intro m1 m2)
        clear m1 m2 k1 k2 k3 k4 k11
        first
        | exact ⟨rfl, _, _, _, _, _, _, _, _, _, _, _, _, _, _, _, _, _, _, _, _, _, _, _, _, _, _, _, _, _, _, _, _, _, _, _, _, _, _, _, _, _, _, _, _, _, _, _, _, _, _, _, rfl, hJ2⟩
        | (refine ⟨rfl, ⟨_, _, _, _, _, _, _, _, _, _, _, _, _, _, _, _, _, _, _, _, _, _, _, _, _, _, _, _, _, _, _, _, _, _, _, _, _, _, _, _, _, _, _, _, _, _, _, _, _, _, _, rfl, hJ2⟩, ?_⟩
           have h1 := HM.out.1
           have h2 := HM.out.2
           have h3 := HD.out.1
           have h4 := HD.out.2
           have h5 := HLT.out.1.1
           have h6 := HLT.out.1.2
           omega)
    · rw [decide_eq_false hq] at te
      obtain ⟨k, hk⟩ : ∃ k, sg (n / d) (m / c) = k := ⟨_, rfl⟩
      have hKe : K = k := by
        rw [← hK, ← hk]
        rcases Int.lt_or_gt_of_ne hq with h | h
        · rw [Qm.cmp4_whole n d m c d0 c0 h, sg_lt h]
        · rw [Qm.cmp4_gt n d m c d0 c0 h, sg_gt h]
      have C1 : Hid (CallT 63 #[.string (bs (Lib.itoa (n / d))), .string (bs (Lib.itoa (m / c)))] (.int .i64 k)) := Lib.hid (cmp_c _ _ _ hk hq1 hq2)
      clear tr ts hK hn hd hm hc hq1 hq2 hr1 hr2 ge1 lt1 ge2 lt2 hq d0 c0 hk
      generalize bs (Lib.itoa n) = N at *
      generalize bs (Lib.itoa d) = D at *
      generalize bs (Lib.itoa m) = M at *
      generalize bs (Lib.itoa c) = C at *
      generalize bs (Lib.itoa (n / d)) = Q1 at *
      generalize bs (Lib.itoa (n % d)) = R1 at *
      generalize bs (Lib.itoa (m / c)) = Q2 at *
      generalize bs (Lib.itoa (m % c)) = R2 at *
      go_wp2_with (first | (go_at_call 76; (with_reducible refine Calls.mono (D1.out _ (HT.out.next HB.out)) ?_); rintro e w1 ⟨rfl, hb1⟩; replace HX := Lib.hid (HX.out.below hb1 HX.out.lt); replace HY := Lib.hid (HY.out.below hb1 HY.out.lt); clear x0 x1 y0 y1; obtain ⟨x0, x1, xf0, xf1⟩ := rat_facts HX.out; obtain ⟨y0, y1, yf0, yf1⟩ := rat_facts HY.out; replace HB := Lib.hid (below_to HB.out hb1); clear hb1) | (go_at_call 76; (with_reducible refine Calls.mono (D2.out _ (HT.out.next HB.out)) ?_); rintro e w2 ⟨rfl, hb1⟩; replace HX := Lib.hid (HX.out.below hb1 HX.out.lt); replace HY := Lib.hid (HY.out.below hb1 HY.out.lt); clear x0 x1 y0 y1; obtain ⟨x0, x1, xf0, xf1⟩ := rat_facts HX.out; obtain ⟨y0, y1, yf0, yf1⟩ := rat_facts HY.out; replace HB := Lib.hid (below_to HB.out hb1); clear hb1) | (go_at_call 63; (with_reducible refine Calls.mono (C1.out _ (HT.out.next HB.out)) ?_); rintro e w3 ⟨rfl, hb1⟩; replace HX := Lib.hid (HX.out.below hb1 HX.out.lt); replace HY := Lib.hid (HY.out.below hb1 HY.out.lt); clear x0 x1 y0 y1; obtain ⟨x0, x1, xf0, xf1⟩ := rat_facts HX.out; obtain ⟨y0, y1, yf0, yf1⟩ := rat_facts HY.out; replace HB := Lib.hid (below_to HB.out hb1); clear hb1))
      simp only [Exit.jump]
      go_ret
      rw [hKe]
      exact ⟨rfl, HB.out⟩
end Go.Proofs.YtabkodpjhpjgnaaGreatDoor
