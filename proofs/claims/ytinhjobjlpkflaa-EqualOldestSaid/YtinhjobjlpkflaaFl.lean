/- EqualOldest. -/
import Derived.Test.YtinhjobjlpkflaaFf
import Derived.BigQuiet
import Derived.Deep.CutBlock
import Derived.StillTailTactics
namespace Go.Proofs.Ytinhjobjlpkflaa
open Go.RowKit Go.Shelf

theorem cl_prev {n : Nat} {l : List Ap} {now : Int} {c : List Cl} (h : ClOk n l now c) {k k1 : Nat} {x y : Cl} (hx : c[k]? = some x) (hy : c[k1]? = some y) (hk : k1 + 1 = k) : y.of_ < x.of_ ∨ y.of_ = x.of_ ∧ y.cand < x.cand := by
  obtain ⟨h1, rfl⟩ := List.getElem?_eq_some_iff.1 hx
  obtain ⟨h2, rfl⟩ := List.getElem?_eq_some_iff.1 hy
  exact (List.pairwise_iff_getElem.1 h.srt) k1 k h2 h1 (by omega)
theorem sums_bd {n : Nat} {l : List Ap} {now : Int} (hn : 2 ≤ n) (hn8 : n ≤ 8) (h : apsK (n : Int) l l.length = true) (hl : l.length ≤ 60) (j k : Nat) (hj : j < n) : 0 ≤ owedL (((clV n l now).take k).filter (ofC j)) ∧ owedL (((clV n l now).take k).filter (ofC j)) ≤ 100000000 := by
  have hc := cl_ok (now := now) hn hn8 h
  obtain ⟨M, hM, hb⟩ := (acc_ok (now := now) hn hn8 h l.length (Nat.le_refl _)).lev
  have h1 : owedL ((clV n l now).filter (ofC j)) = owedL (((clV n l now).take k).filter (ofC j)) + owedL (((clV n l now).drop k).filter (ofC j)) := by
    rw [← owedL_append, ← List.filter_append, List.take_append_drop]
  have h2 := owedL_nonneg (l := ((clV n l now).take k).filter (ofC j)) fun c hc' => (hc.mem c (List.mem_of_mem_take (List.mem_filter.1 hc').1)).1
  have h3 := owedL_nonneg (l := ((clV n l now).drop k).filter (ofC j)) fun c hc' => (hc.mem c (List.mem_of_mem_drop (List.mem_filter.1 hc').1)).1
  rw [hc.per] at h1
  have h4 := hM.sum j hj
  have h5 := hM.nn j
  have h6 : owedL ((accV n l now).op.getD j []) = owedL ((accK n l now l.length).op.getD j []) := rfl
  omega
theorem ow_nn {n : Nat} {l : List Ap} {now : Int} (hn : 2 ≤ n) (hn8 : n ≤ 8) (h : apsK (n : Int) l l.length = true) {i : Nat} {x : Int} (hx : (owV n l now)[i]? = some x) : 0 ≤ x := by
  obtain ⟨M, hM, _⟩ := (acc_ok (now := now) hn hn8 h l.length (Nat.le_refl _)).lev
  have hi : i < n := by have := (List.getElem?_eq_some_iff.1 hx).1; rwa [owV_len] at this
  rw [owV_get hi] at hx
  rw [← Option.some.inj hx]
  exact owedL_nonneg (hM.pos i)
theorem ow_nnD {n : Nat} {l : List Ap} {now : Int} (hn : 2 ≤ n) (hn8 : n ≤ 8) (h : apsK (n : Int) l l.length = true) (i : Nat) : 0 ≤ (owV n l now).getD i 0 := by
  rw [List.getD_eq_getElem?_getD]
  rcases hx : (owV n l now)[i]? with _ | x
  · exact Int.le_refl _
  · exact ow_nn hn hn8 h hx
theorem hv_le {p : Nat} {wq x v : Int} (h : v = if p = 0 then wq else wq - min wq x) (hw : 1 ≤ wq ∧ wq ≤ 36000) (hx : 0 ≤ x) : v ≤ 36000 := by
  rw [h]
  split <;> omega
set_option maxRecDepth 100000 in
set_option maxHeartbeats 16000000 in
theorem oldest_true (x0 : Int) (v1 : Value) (xs : List I4) (x2 : Int) (w : World) (h0 : -9223372036854775808 ≤ x0 ∧ x0 ≤ 9223372036854775807) (hr1 : Recs enc4 4 w w.heap.size v1 xs) (hx : ∀ x ∈ xs, OkI4 x) (h2 : -9223372036854775808 ≤ x2 ∧ x2 ≤ 9223372036854775807) :
    Calls Try.prog 6 #[.int .i64 x0, v1, .int .i64 x2] w fun e w' => e = .returned (.bool true) ∧ Below w.heap.size w w' := by
  obtain ⟨A1, c1, rfl, -⟩ := recs_form hr1
  obtain ⟨L, hL⟩ : ∃ L, madeA x0 xs = L := ⟨_, rfl⟩
  have HM := Lib.hid (fun u (h : Below w.heap.size w u) => made_at2 x0 h0 xs hx hL A1 _ c1 u (hr1.next h))
  have hva := made_valid x0 xs
  have hml := made_len x0 xs
  have hat : ∀ x ∈ L, 1 ≤ x.at_ ∧ x.at_ ≤ 1728000 := fun x hx => by
    rw [← hL] at hx
    have := made_at x0 xs hx
    omega
  obtain ⟨m, hm, m2, m5⟩ := count_nat x0
  rw [hL] at hml
  rw [hL, hm] at hva
  have HCT := Lib.hid (fun u => count_any x0 h0.1 h0.2 u)
  rw [hm] at HCT
  have P1 := Lib.hid (fun u => pick_any x2 3000000 (by decide) (by decide) h2.1 h2.2 u)
  have b1 := pickI_lt x2 3000000 (by decide)
  obtain ⟨s, hs⟩ : ∃ s, pickI x2 3000000 = s := ⟨_, rfl⟩
  rw [hs] at P1 b1
  have HLN := Lib.hid (show L.length ≤ 60 by omega)
  have l9 : L.length ≤ 9223372036854775807 := by omega
  have HVA := Lib.hid hva
  have HAT := Lib.hid hat
  have HAPS := Lib.hid (validA_parts hva).2.2.2
  have HNB := Lib.hid (show nowB s = true by unfold nowB; simp; omega)
  have m8 : m ≤ 8 := by omega
  have HCO := Lib.hid (cl_ok (now := s) m2 m8 HAPS.out)
  have HSA := Lib.hid (sumsK_all HCO.out)
  obtain ⟨C, hC⟩ : ∃ C, clV m L s = C := ⟨_, rfl⟩
  obtain ⟨O, hO⟩ : ∃ O, owV m L s = O := ⟨_, rfl⟩
  rw [hC] at HCO HSA
  rw [hO] at HSA
  have HC0 := Lib.hid hC; have HO0 := Lib.hid hO
  have m0 : (m == m) = true := by simp
  have mk1 := fun w : World => make_rep (t := 28) Try.underlying28 infoInt rfl (by decide) m (by omega) w
  clear hr1 hx h0 h2 hL hva hm hs hC hO b1 hml hat
  go_enter Try.func6, Try.ntmps6
  go_wp2_with (first | (go_at_call 10; (with_reducible refine Calls.mono (sane_any _) ?_); rintro r u1 ⟨rfl, hb⟩; have B1 := Lib.hid hb; clear hb) | (go_at_call 11; (with_reducible refine Calls.mono (HM.out _ B1.out) ?_); rintro r u2 ⟨A2, c2, rfl, ho, hr2, hb⟩; have B2 := Lib.hid (below_to B1.out hb); have HL := Lib.hid hr2; clear hr2 ho; clear hb) | (go_at_call 16; (with_reducible refine Calls.mono (claims_at m s L _ _ _ _ HL.out HVA.out HNB.out HC0.out) ?_); rintro r u3 ⟨A3, c3, rfl, h3, hb⟩; have B3 := Lib.hid (below_to B2.out hb); have HL := Lib.hid (HL.out.next hb); have HC := Lib.hid h3; clear h3; clear hb) | (go_at_call 21; (with_reducible refine Calls.mono (owed_at m s L _ _ _ _ HL.out HVA.out HNB.out HO0.out) ?_); rintro r u4 ⟨A4, c4, rfl, h4, hb⟩; have B4 := Lib.hid (below_to B3.out hb); have HL := Lib.hid (HL.out.next hb); have HC := Lib.hid (HC.out.next hb); have HO := Lib.hid h4; clear h4; clear hb) | (go_at_call 12; (first | (with_reducible refine Calls.mono (HCT.out _) ?_)); rintro r y1 ⟨rfl, rfl⟩) | (go_at_call 13; (first | (with_reducible refine Calls.mono (P1.out _) ?_)); rintro r y1 ⟨rfl, rfl⟩))
  have HRS := Lib.hid (show Row (u4.alloc (.cells (Array.replicate m (.int .i64 0)) 3)) u4.heap.size 3 (iv1 (sumsK m C 0)).toArray by
    have h := Row.new u4 3 (Array.replicate m (Value.int .i64 0))
    rw [sumsK_zero]
    simpa [iv1] using h)
  have HB5 := Lib.hid ((Below.refl u4.heap.size u4).alloc (Nat.le_refl _) (.cells (Array.replicate m (.int .i64 0)) 3))
  have HC9 := Lib.hid (recs_cap HC.out)
  have cl9 : C.length ≤ 9223372036854775807 := by have := HC9.out; omega
  obtain ⟨gS, hgS⟩ : ∃ gS, u4.heap.size = gS := ⟨_, rfl⟩
  have HGG := Lib.hid hgS
  rw [hgS] at HRS ⊢
  clear mk1
  go_loopw [16] (fun z wr => ∃ k : Nat, z = .int .i64 (k : Int) ∧ k ≤ C.length ∧ Hid (Row wr gS 3 (iv1 (sumsK m C k)).toArray) ∧ Hid (Below u4.heap.size u4 wr)) (fun z _ => C.length - (intOf z).toNat)
  case atStart => exact ⟨0, rfl, Nat.zero_le _, HRS, HB5⟩
  case round =>
    obtain ⟨k, rfl, hk, RS, HB⟩ := hrel
    have k0 : (0 : Int) ≤ (k : Int) := by omega
    by_cases hlt : k < C.length
    · have k1' : (k : Int) < (C.length : Int) := by omega
      have e7 : IntKind.i64.wrap ((k : Int) + 1) = (k : Int) + 1 := IntWalk.i64_in _ (by omega)
      obtain ⟨x, hxk⟩ : ∃ x, C[k]? = some x := ⟨_, List.getElem?_eq_getElem hlt⟩
      have HXK := Lib.hid hxk
      clear hxk
      have HXK0 := HXK
      rw [← HC0.out] at HXK
      have HFS := oldest (now := s) m2 m8 HAPS.out HXK.out
      rw [HC0.out] at HFS
      obtain ⟨j, p, q, hj, hjm, hp, hpl, hq, hr1, hqs, ht, hcq, v, hv, hrv, hsv⟩ := HFS
      obtain ⟨xc, xo, r, t⟩ := x
      dsimp only at hj hp hr1 ht hcq hrv hsv
      subst hj hp
      have hqk := okAp_parts (aps_at HAPS.out hq)
      have hqb := HAT.out q (List.mem_of_getElem? hq)
      have hw2 := worth_bound (aps_at HAPS.out hq)
      obtain ⟨bL, oL, hA2, hgL, hlcell⟩ := recs_at HL.out p hpl
      obtain ⟨bC, oC, hA3, hgC, hccell⟩ := recs_at HC.out k hlt
      subst hA2 hA3
      obtain ⟨q0, q1, q2, q3⟩ := q
      dsimp only at hqs ht hcq hv hqk hqb hw2
      have xl0 := Lib.hid ((HB.out.cell hgL).trans (hlcell p _ hq 0 _ rfl))
      have xl1 := Lib.hid ((HB.out.cell hgL).trans (hlcell p _ hq 1 _ rfl))
      have xl2 := Lib.hid ((HB.out.cell hgL).trans (hlcell p _ hq 2 _ rfl))
      have xl3 := Lib.hid ((HB.out.cell hgL).trans (hlcell p _ hq 3 _ rfl))
      have lw := HB.out.size
      have gL : bL < wr.heap.size := by omega
      have gC : bC < wr.heap.size := by omega
      have c0 : wr.cell? ⟨bC, oC + k * 4, none⟩ = some (.int .i64 (j : Int)) := (HB.out.cell hgC).trans (hccell k _ HXK0.out 0 _ rfl)
      have c1 : wr.cell? ⟨bC, oC + k * 4 + 1, none⟩ = some (.int .i64 (p : Int)) := (HB.out.cell hgC).trans (hccell k _ HXK0.out 1 _ rfl)
      have c2' : wr.cell? ⟨bC, oC + k * 4 + 2, none⟩ = some (.int .i64 r) := (HB.out.cell hgC).trans (hccell k _ HXK0.out 2 _ rfl)
      have c3' : wr.cell? ⟨bC, oC + k * 4 + 3, none⟩ = some (.int .i64 t) := (HB.out.cell hgC).trans (hccell k _ HXK0.out 3 _ rfl)
      have HPV := Lib.hid (fun k1 (hk1 : k1 + 1 = k) (y : Cl) (hy : C[k1]? = some y) => And.intro (cl_prev HCO.out HXK0.out hy hk1) (And.intro (show wr.cell? ⟨bC, oC + k1 * 4, none⟩ = some (.int .i64 y.cand) from (HB.out.cell hgC).trans (hccell k1 y hy 0 _ rfl)) (show wr.cell? ⟨bC, oC + k1 * 4 + 1, none⟩ = some (.int .i64 y.of_) from (HB.out.cell hgC).trans (hccell k1 y hy 1 _ rfl))))
      have HSB := Lib.hid (sums_bd m2 m8 HAPS.out HLN.out (now := s) j k hjm)
      have HSG := Lib.hid (sumsK_get (c := C) (i := k) hjm)
      have HSS := Lib.hid (sumsK_step (n := m) HXK0.out (j := j) rfl)
      rw [HC0.out] at HSB
      obtain ⟨S, hS⟩ : ∃ S, owedL ((C.take k).filter (ofC j)) = S := ⟨_, rfl⟩
      rw [hS] at hsv HSB HSG HSS
      have hwq : worth ⟨q0, q1, q2, q3⟩ = q2 * q3 := rfl
      rw [hwq] at hv hw2
      obtain ⟨wq, hwe⟩ : ∃ wq, q2 * q3 = wq := ⟨_, rfl⟩
      rw [hwe] at hv hw2
      have hv3 := hv_le hv hw2 (ow_nnD m2 m8 HAPS.out _)
      have HV := Lib.hid hv
      have e1 : IntKind.i64.wrap (q1 + 604800) = t := by rw [ht]; exact IntWalk.i64_in _ (by omega)
      have e2 : IntKind.i64.wrap (q2 * q3) = wq := by rw [hwe]; exact IntWalk.i64_in _ (by omega)
      have e3 : IntKind.i64.wrap (S + r) = S + r := IntWalk.i64_in _ (by have := HSB.out; omega)
      have z1 : decide (s < q1) = false := by rw [decide_eq_false_iff_not]; omega
      have z2 : ((j : Int) == q0) = false := by rw [beq_eq_false_iff_ne]; exact hcq
      have z3 : ¬ (j : Int) = q0 := hcq
      have j0 : (0 : Int) ≤ (j : Int) := by omega
      have j1 : (j : Int) < (m : Int) := by omega
      have p0 : (0 : Int) ≤ (p : Int) := by omega
      have p1 : (p : Int) < (L.length : Int) := by omega
      have n1 : ¬ (j : Int) < 0 := by omega
      have n2 : ¬ (m : Int) ≤ (j : Int) := by omega
      have n3 : ¬ (p : Int) < 0 := by omega
      have n4 : ¬ (L.length : Int) ≤ (p : Int) := by omega
      have n5 : ¬ r < 1 := by omega
      have HQB := Lib.hid hqb
      have HQ0 := Lib.hid (show 0 ≤ q0 ∧ q0 < (m : Int) from ⟨hqk.1, hqk.2.1⟩)
      have HRV := Lib.hid hrv
      have HSV := Lib.hid hsv
      have HPL := Lib.hid hpl
      have HJM := Lib.hid hjm
      have HWQ := Lib.hid hw2
      have HQX := Lib.hid hq
      have hb1 : Below wr.heap.size wr (wr.alloc (.cells #[.int .i64 (j : Int), .int .i64 (p : Int), .int .i64 r, .int .i64 t] 39)) := (Below.refl _ wr).alloc (Nat.le_refl _) _
      obtain ⟨W1, hW1⟩ : ∃ W1, wr.alloc (.cells #[.int .i64 (j : Int), .int .i64 (p : Int), .int .i64 r, .int .i64 t] 39) = W1 := ⟨_, rfl⟩
      obtain ⟨gB, hgB⟩ : ∃ gB, wr.heap.size = gB := ⟨_, rfl⟩
      have RB1 := Lib.hid (show Row W1 gB 39 #[.int .i64 (j : Int), .int .i64 (p : Int), .int .i64 r, .int .i64 t] by rw [← hW1, ← hgB]; exact Row.new _ _ _)
      rw [hW1] at hb1
      have HB1 := Lib.hid hb1
      have HW1 := Lib.hid hW1
      have HGS := Lib.hid (show gS < wr.heap.size from RS.out.lt)
      have HNE := Lib.hid (show gS ≠ gB by have := RS.out.lt; omega)
      have gL2 : bL < gB := by omega
      have gC2 : bC < gB := by omega
      have HGL := Lib.hid gL; have HGC := Lib.hid gC
      clear hv3 HXK HXK0 hq hlcell hccell hS hv hrv hsv hwq hqk hqb hw2 hqs ht hcq hpl hjm hgL hgC lw hb1 hW1 hwe hr1
      go_upto_region 16 with fail
      rw [HW1.out]
      clear c0 c1 c2' c3' gL gC
      have gL := HGL.out; have gC := HGC.out
      have ba0 := RB1.out.cell 0
      have ba1 := RB1.out.cell 1
      have ba2 := RB1.out.cell 2
      have ba3 := RB1.out.cell 3
      simp only [List.getElem?_toArray, List.getElem?_cons_zero, List.getElem?_cons_succ] at ba0 ba1 ba2 ba3
      have lba := RB1.out.lt
      have al0 := (HB1.out.cell (p := ⟨bL, oL + p * 4, none⟩) gL).trans xl0.out
      have al1 := (HB1.out.cell (p := ⟨bL, oL + p * 4 + 1, none⟩) gL).trans xl1.out
      have al2 := (HB1.out.cell (p := ⟨bL, oL + p * 4 + 2, none⟩) gL).trans xl2.out
      have al3 := (HB1.out.cell (p := ⟨bL, oL + p * 4 + 3, none⟩) gL).trans xl3.out
      go_upto_region 18 with fail
      go_cut [162] from 95 to 161 (fun z wx => z = .bool false ∧ Hid (Row wx gB 39 #[.int .i64 (j : Int), .int .i64 (p : Int), .int .i64 r, .int .i64 t]) ∧ Hid (Below wr.heap.size wr wx))
      case first =>
        as_aux_lemma =>
          by_cases hk0 : k = 0
          · have y1 : decide ((0 : Int) < (k : Int)) = false := by rw [decide_eq_false_iff_not]; omega
            have y1' : decide (0 < k) = false := by rw [decide_eq_false_iff_not]; omega
            clear HPV hk0
            simp only [List.append_eq, List.cons_append, List.nil_append]
            go_quiet (fail)
            go_wp2_with fail
            go_meet
            exact ⟨rfl, Lib.hid (RB1.out.drewN _), Lib.hid (belowN HB1.out _)⟩
          · have y1 : decide ((0 : Int) < (k : Int)) = true := by rw [decide_eq_true_eq]; omega
            have y1' : decide (0 < k) = true := by rw [decide_eq_true_eq]; omega
            obtain ⟨k1, hk1⟩ : ∃ k1, k1 + 1 = k := ⟨k - 1, by omega⟩
            obtain ⟨y, hy⟩ : ∃ y, C[k1]? = some y := ⟨_, List.getElem?_eq_getElem (by omega)⟩
            obtain ⟨f1, f2, f3⟩ := HPV.out k1 hk1 y hy
            have d0 := (HB1.out.cell (p := ⟨bC, oC + k1 * 4, none⟩) gC).trans f2
            have d1 := (HB1.out.cell (p := ⟨bC, oC + k1 * 4 + 1, none⟩) gC).trans f3
            have k10 : (0 : Int) ≤ (k1 : Int) := by omega
            have k11 : (k1 : Int) < (C.length : Int) := by omega
            have ek : IntKind.i64.wrap ((k : Int) - 1) = (k1 : Int) := by rw [show (k : Int) - 1 = (k1 : Int) by omega]; exact IntWalk.i64_in _ (by omega)
            obtain ⟨ya, yb, yc, yd⟩ := y
            dsimp only at f1 d0 d1
            clear f2 f3 hy hk1 HPV hk0
            by_cases hyo : yb = (p : Int)
            · subst hyo
              have y2 : decide ((p : Int) < (p : Int)) = false := by rw [decide_eq_false_iff_not]; omega
              have y3 : ((p : Int) == (p : Int)) = true := by simp
              have y4 : decide ((j : Int) ≤ ya) = false := by rw [decide_eq_false_iff_not]; omega
              clear f1
              simp only [List.append_eq, List.cons_append, List.nil_append]
              go_quiet (fail)
              go_wp2_with fail
              go_meet
              exact ⟨rfl, Lib.hid (RB1.out.drewN _), Lib.hid (belowN HB1.out _)⟩
            · have y2 : decide ((p : Int) < yb) = false := by rw [decide_eq_false_iff_not]; omega
              have y3 : ((p : Int) == yb) = false := by rw [beq_eq_false_iff_ne]; omega
              have y4 : ¬ (p : Int) = yb := by omega
              clear f1 hyo
              simp only [List.append_eq, List.cons_append, List.nil_append]
              go_quiet (fail)
              go_wp2_with fail
              go_meet
              exact ⟨rfl, Lib.hid (RB1.out.drewN _), Lib.hid (belowN HB1.out _)⟩
      case rest =>
        clear ba0 ba1 ba2 ba3 lba al0 al1 al2 al3
        obtain ⟨rfl, RB2, HB2⟩ := hcut
        have bb0 := RB2.out.cell 0
        have bb1 := RB2.out.cell 1
        have bb2 := RB2.out.cell 2
        have bb3 := RB2.out.cell 3
        simp only [List.getElem?_toArray, List.getElem?_cons_zero, List.getElem?_cons_succ] at bb0 bb1 bb2 bb3
        have lbb := RB2.out.lt
        have bl0 := (HB2.out.cell (p := ⟨bL, oL + p * 4, none⟩) gL).trans xl0.out
        have bl1 := (HB2.out.cell (p := ⟨bL, oL + p * 4 + 1, none⟩) gL).trans xl1.out
        have bl2 := (HB2.out.cell (p := ⟨bL, oL + p * 4 + 2, none⟩) gL).trans xl2.out
        have bl3 := (HB2.out.cell (p := ⟨bL, oL + p * 4 + 3, none⟩) gL).trans xl3.out
        go_upto_region 20 with fail
        go_cut [18] from 163 to 175 (fun z wx => z = .int .i64 wq ∧ Hid (Row wx gB 39 #[.int .i64 (j : Int), .int .i64 (p : Int), .int .i64 r, .int .i64 t]) ∧ Hid (Below wr.heap.size wr wx))
        case first =>
          as_aux_lemma =>
            go_quiet (fail)
            go_wp2_with fail
            go_meet
            exact ⟨rfl, Lib.hid (RB2.out.drewN _), Lib.hid (belowN HB2.out _)⟩
        case rest =>
          clear bb0 bb1 bb2 bb3 lbb bl0 bl1 bl2 bl3 RB2 HB2
          obtain ⟨rfl, RB3, HB3⟩ := hcut
          have bc0 := RB3.out.cell 0
          have bc1 := RB3.out.cell 1
          have bc2 := RB3.out.cell 2
          have bc3 := RB3.out.cell 3
          simp only [List.getElem?_toArray, List.getElem?_cons_zero, List.getElem?_cons_succ] at bc0 bc1 bc2 bc3
          have lbc := RB3.out.lt
          have cl0 := (HB3.out.cell (p := ⟨bL, oL + p * 4, none⟩) gL).trans xl0.out
          have cl1 := (HB3.out.cell (p := ⟨bL, oL + p * 4 + 1, none⟩) gL).trans xl1.out
          have cl2 := (HB3.out.cell (p := ⟨bL, oL + p * 4 + 2, none⟩) gL).trans xl2.out
          have cl3 := (HB3.out.cell (p := ⟨bL, oL + p * 4 + 3, none⟩) gL).trans xl3.out
          go_upto_if 178 with fail
          go_cut [18, 19, 20] from 178 to 212 (fun z _ _ wx => z = .int .i64 v ∧ Hid (Row wx gB 39 #[.int .i64 (j : Int), .int .i64 (p : Int), .int .i64 r, .int .i64 t]) ∧ Hid (Below wr.heap.size wr wx))
          case first =>
            as_aux_lemma =>
              by_cases hp0 : p = 0
              · have i1 : ¬ (0 : Int) < (p : Int) := by omega
                have HE := Lib.hid (show wq = v by rw [HV.out, if_pos hp0])
                clear hp0
                go_wp2_with fail
                go_meet
                exact ⟨by rw [HE.out], RB3, HB3⟩
              · have i1 : (0 : Int) < (p : Int) := by omega
                have hq1 := HQB.out
                have HNB2 := Lib.hid (show nowB (q1 - 1) = true by unfold nowB; simp; omega)
                obtain ⟨OB, hOB⟩ : ∃ OB, owV m L (q1 - 1) = OB := ⟨_, rfl⟩
                have HOB := Lib.hid hOB
                have HOL := Lib.hid (show OB.length = m by rw [← hOB]; exact owV_len _ _ _)
                have hq0 := HQ0.out
                obtain ⟨qn, hqn⟩ : ∃ qn : Nat, q0 = (qn : Int) := ⟨q0.toNat, by omega⟩
                obtain ⟨ob, hob⟩ : ∃ ob, OB[qn]? = some ob := ⟨_, List.getElem?_eq_getElem (by rw [HOL.out]; omega)⟩
                have HE := Lib.hid (show wq - min wq ob = v by rw [HV.out, if_neg hp0, hOB, hqn, Int.toNat_natCast, List.getD_eq_getElem?_getD, hob]; rfl)
                have HOBQ := Lib.hid hob
                subst hqn
                have e4 : IntKind.i64.wrap (q1 - 1) = q1 - 1 := IntWalk.i64_in _ (by omega)
                obtain ⟨mn, hmn⟩ : ∃ mn, min wq ob = mn := ⟨_, rfl⟩
                have MN := fun w : World => run_min2 (P := Try.prog) (w := w) #[3, 3] 3 .i64 .i64 wq ob mn hmn
                rw [hmn] at HE
                have hobb := ow_nn (now := q1 - 1) m2 m8 HAPS.out (by rw [hOB]; exact hob)
                have e5 : IntKind.i64.wrap (wq - mn) = v := by rw [HE.out]; have := HWQ.out; have := HE.out; exact IntWalk.i64_in _ (by omega)
                have q00 : (0 : Int) ≤ (qn : Int) := by omega
                have q01 : (qn : Int) < (m : Int) := by omega
                have HLW := Lib.hid (HL.out.next (below_to HB.out HB3.out))
                clear hp0 hOB hob hmn hobb hq1 hq0
                go_upto_region 25 with (go_at_call 21; (with_reducible refine Calls.mono (owed_at m (q1 - 1) L _ _ _ _ HLW.out HVA.out HNB2.out HOB.out) ?_); rintro r' u6 ⟨A6, c6, rfl, h6, hb⟩; have HO6 := Lib.hid h6; have RB4 := Lib.hid (RB3.out.below hb RB3.out.lt); have HB4 := Lib.hid (below_to HB3.out hb); clear h6 hb bc0 bc1 bc2 bc3 lbc cl0 cl1 cl2 cl3; have bd0 := RB4.out.cell 0; have bd1 := RB4.out.cell 1; have bd2 := RB4.out.cell 2; have bd3 := RB4.out.cell 3; simp only [List.getElem?_toArray, List.getElem?_cons_zero, List.getElem?_cons_succ] at bd0 bd1 bd2 bd3; have lbd := RB4.out.lt; have dl0 := (HB4.out.cell (p := ⟨bL, oL + p * 4, none⟩) gL).trans xl0.out; have dl1 := (HB4.out.cell (p := ⟨bL, oL + p * 4 + 1, none⟩) gL).trans xl1.out; have dl2 := (HB4.out.cell (p := ⟨bL, oL + p * 4 + 2, none⟩) gL).trans xl2.out; have dl3 := (HB4.out.cell (p := ⟨bL, oL + p * 4 + 3, none⟩) gL).trans xl3.out; obtain ⟨b6, o6, hA6, hg6, hcell6⟩ := recs_at HO6.out qn (by rw [HOL.out]; omega); subst hA6; have m6 : u6.cell? ⟨b6, o6 + qn, none⟩ = some (.int .i64 ob) := (by have := hcell6 qn ob HOBQ.out 0 _ rfl; rwa [Nat.mul_one, Nat.add_zero] at this); clear hcell6)
                go_wp2_with fail
                go_meet
                exact ⟨rfl, RB4, HB4⟩
          case rest =>
            clear bc0 bc1 bc2 bc3 lbc cl0 cl1 cl2 cl3 RB3 HB3
            obtain ⟨rfl, RB5, HB5'⟩ := hcut
            have be0 := RB5.out.cell 0
            have be1 := RB5.out.cell 1
            have be2 := RB5.out.cell 2
            have be3 := RB5.out.cell 3
            simp only [List.getElem?_toArray, List.getElem?_cons_zero, List.getElem?_cons_succ] at be0 be1 be2 be3
            have lbe := RB5.out.lt
            have RS5 := Lib.hid (RS.out.below HB5'.out RS.out.lt)
            have v5 := RS5.out.cell j
            rw [List.getElem?_toArray] at v5
            have HSG2 := Lib.hid (show (iv1 (sumsK m C k))[j]? = some (.int .i64 S) by unfold iv1; rw [List.getElem?_map, HSG.out]; rfl)
            rw [HSG2.out] at v5
            have w5 := RS5.out.free j
            have l5 := RS5.out.lt
            have i1 : ¬ v < r := by have := HRV.out; omega
            by_cases hrv : r < v
            · have i2 : ¬ (0 : Int) < S := fun h => by have := HSV.out h; omega
              go_upto_region 28 with fail
              go_still_tail 12, (by kernel_rfl)
              change wpList _ _ _ _ _ wc.drew
              go_wp2
              go_roundw
              case rel => exact ⟨k + 1, by go_num, by omega, Lib.hid (by rw [HSS.out]; have h := RS5.out.put j (.int .i64 (S + r)); rw [List.setIfInBounds_toArray, ← List.map_set] at h; exact h), Lib.hid ((below_to HB.out HB5'.out).setCell (p := ⟨gS, j, none⟩) (by have := HGG.out; dsimp only; omega) _).drew⟩
              case measure => simp [intOf]; omega
            · go_upto_region 28 with fail
              go_still_tail 12, (by kernel_rfl)
              change wpList _ _ _ _ _ wc.drew
              go_wp2
              go_roundw
              case rel => exact ⟨k + 1, by go_num, by omega, Lib.hid (by rw [HSS.out]; have h := RS5.out.put j (.int .i64 (S + r)); rw [List.setIfInBounds_toArray, ← List.map_set] at h; exact h), Lib.hid ((below_to HB.out HB5'.out).setCell (p := ⟨gS, j, none⟩) (by have := HGG.out; dsimp only; omega) _).drew⟩
              case measure => simp [intOf]; omega
    · have k1' : ¬ (k : Int) < (C.length : Int) := by omega
      have HE := Lib.hid (show sumsK m C k = O by rw [show k = C.length by omega]; exact HSA.out)
      have HS := Lib.hid (show Recs enc1 1 wr wr.heap.size (.slice (some ⟨gS, 0, none⟩) m m) O by
        have h := RS.out
        rw [HE.out] at h
        have hol : O.length = m := by rw [← HE.out]; exact sumsK_len _ _ _
        have h2 := recs_row (enc := enc1) (k := 1) h O (by omega) (fun j x hj i u hu => by
          have hi : i = 0 := by have := (List.getElem?_eq_some_iff.1 hu).1; simp [enc1] at this; exact this
          subst hi
          have hx : u = .int .i64 x := by simpa [enc1] using hu.symm
          rw [hx, show j * 1 + 0 = j by omega]
          simp [iv1, hj])
        rwa [hol] at h2)
      have HO2 := Lib.hid (HO.out.next HB.out)
      go_wp2_with (go_at_call 27; (with_reducible refine Calls.mono (rints_eq O _ _ _ _ _ _ _ HS.out HO2.out) ?_); rintro r u9 ⟨rfl, hb⟩; have B9 := Lib.hid hb; clear hb)
      go_ret
      exact ⟨rfl, below_to B4.out (below_to HB.out B9.out)⟩
end Go.Proofs.Ytinhjobjlpkflaa
