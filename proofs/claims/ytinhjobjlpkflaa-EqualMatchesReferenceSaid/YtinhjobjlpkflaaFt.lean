/- EqualMatchesReference. -/
import Derived.Test.YtinhjobjlpkflaaFs
import Derived.Deep.RegionHeld3
import Derived.Deep.CutBlock
namespace Go.Proofs.Ytinhjobjlpkflaa
open Go.RowKit Go.Shelf

set_option maxRecDepth 100000 in
set_option maxHeartbeats 16000000 in
theorem match_true (v0 : Value) (ra : List Ap) (n0 : Int) (v2 : Value) (xs : List I4) (t0 : Int) (w : World) (hra : Recs encP 4 w w.heap.size v0 ra) (h1 : -9223372036854775808 ≤ n0 ∧ n0 ≤ 9223372036854775807) (hr2 : Recs enc4 4 w w.heap.size v2 xs) (hx : ∀ x ∈ xs, OkI4 x) (h3 : -9223372036854775808 ≤ t0 ∧ t0 ≤ 9223372036854775807) :
    Calls Try.prog 3 #[v0, .int .i64 n0, v2, .int .i64 t0] w fun e w' => e = .returned (.bool true) ∧ Below w.heap.size w w' := by
  obtain ⟨Ag, cg, rfl, hcg1, hcg2⟩ := recs_form hra
  obtain ⟨A0, c0, rfl, -⟩ := recs_form hr2
  obtain ⟨lm, hlm⟩ : ∃ lm, madeA n0 xs = lm := ⟨_, rfl⟩
  have HM := Lib.hid (fun u (h : Below w.heap.size w u) => made_at2 n0 h1 xs hx hlm A0 _ c0 u (hr2.next h))
  have HCT := Lib.hid (fun u => count_any n0 h1.1 h1.2 u)
  have P1 := Lib.hid (fun u => pick_any t0 3000000 (by decide) (by decide) h3.1 h3.2 u)
  generalize countV n0 = n1 at *
  generalize pickI t0 3000000 = t1 at *
  obtain ⟨ng, hng⟩ : ∃ ng : Nat, min ra.length 61 = ng := ⟨_, rfl⟩
  have M1 := fun w : World => run_min2 (P := Try.prog) (w := w) #[3, 3] 3 .i64 .i64 (ra.length : Int) 61 (ng : Int) (by omega)
  have sl1 := fun w => slice_head w 22 49 Try.underlying22 infoApp Ag ra.length cg ng (by omega)
  have HRG := Lib.hid (recs_pre hra ng (by omega))
  have r9 : ra.length ≤ 9223372036854775807 := by omega
  clear hra hr2 hx h1 h3 hlm hng hcg1 hcg2
  generalize ra.take ng = lr at *
  go_enter Try.func3, Try.ntmps3
  go_upto_region 4 with (go_at_call 10; (with_reducible refine Calls.mono (sane_any _) ?_); rintro r u1 ⟨rfl, hb⟩; have B1 := Lib.hid hb; clear hb)
  go_cut [10] from 37 to 45 (fun v wx => ∃ gG Am nm cm, v = .slice (some ⟨gG, 0, none⟩) 2 2 ∧ Hid (Row wx gG 22 #[.slice Ag ng cg, .slice Am nm cm] ∧ Recs encP 4 wx wx.heap.size (.slice Am nm cm) lm ∧ Below w.heap.size w wx))
  case first =>
    go_region_held3 (fun y => Below u1.heap.size u1 y ∧ True) (first | assumption | (exact ⟨(Below.refl _ _).drew, trivial⟩) | (exact ⟨Below.alloc (‹Below u1.heap.size u1 _ ∧ _›).1 (Below.size (‹Below u1.heap.size u1 _ ∧ _›).1) _, trivial⟩)) (first | (go_at_call 11; ((with_reducible refine Calls.mono (HM.out _ (below_to B1.out (‹Below u1.heap.size u1 _ ∧ _›).1)) ?_); rintro r u5 ⟨A5, c5, rfl, -, hg, hb⟩; have hB5 := And.intro (below_to (‹Below u1.heap.size u1 _ ∧ _›).1 hb) trivial)))
    all_goals (
      go_wp2
      go_meet
      exact ⟨_, _, _, _, rfl, Lib.hid ⟨Row.new _ _ _, hg.next ((Below.refl _ u5).alloc (Nat.le_refl _) _), below_to B1.out (‹Below u1.heap.size u1 _ ∧ _›).1⟩⟩)
  case rest =>
    obtain ⟨gL, Am, nm, cm, rfl, HGG⟩ := hcut
    obtain ⟨W4, hW4⟩ : ∃ W, W = wc := ⟨_, rfl⟩
    subst hW4
    clear M1 sl1
    go_upto_region 7 with (first | (go_at_call 12; (with_reducible refine Calls.mono (HCT.out _) ?_); rintro r y1 ⟨rfl, rfl⟩) | (go_at_call 13; (with_reducible refine Calls.mono (P1.out _) ?_); rintro r y1 ⟨rfl, rfl⟩))
    have HS0 := Lib.hid (show LwS w gL W4.heap.size (W4.heap.size + 1) n0 n1 t0 t1 ((W4.alloc (.cells #[.int .i64 n0, .int .i64 n1] 3)).alloc (.cells #[.int .i64 t0, .int .i64 t1] 3)) from by
      obtain ⟨g1, g2, g3⟩ := HGG.out
      have ha : Below W4.heap.size W4 ((W4.alloc (.cells #[.int .i64 n0, .int .i64 n1] 3)).alloc (.cells #[.int .i64 t0, .int .i64 t1] 3)) := ((Below.refl _ _).alloc (Nat.le_refl _) _).alloc (by simp) _
      have hb := below_to g3 ha
      have rc := (Row.new W4 3 #[.int .i64 n0, .int .i64 n1]).alloc (.cells #[.int .i64 t0, .int .i64 t1] 3)
      have rt := Row.new (W4.alloc (.cells #[.int .i64 n0, .int .i64 n1] 3)) 3 #[.int .i64 t0, .int .i64 t1]
      simp only [World.size_alloc] at rt
      refine ⟨fun i hi => ?_, fun i hi => ?_, fun i hi => ?_, hb, (g1.below ha g1.lt).lt, rc.lt, rt.lt⟩
      · have h01 : i = 0 ∨ i = 1 := by omega
        rcases h01 with rfl | rfl
        · exact ⟨_, _, _, _, (g1.below ha g1.lt).cell 0, HRG.out.next hb⟩
        · exact ⟨_, _, _, _, (g1.below ha g1.lt).cell 1, g2.next ha⟩
      · have h01 : i = 0 ∨ i = 1 := by omega
        rcases h01 with rfl | rfl
        · exact rc.cell 0
        · exact rc.cell 1
      · have h01 : i = 0 ∨ i = 1 := by omega
        rcases h01 with rfl | rfl
        · exact rt.cell 0
        · exact rt.cell 1)
    obtain ⟨W6, hW6⟩ : ∃ W6, ((W4.alloc (.cells #[.int .i64 n0, .int .i64 n1] 3)).alloc (.cells #[.int .i64 t0, .int .i64 t1] 3)) = W6 := ⟨_, rfl⟩
    rw [hW6] at HS0 ⊢
    obtain ⟨gT, hgT⟩ : ∃ gT, W4.heap.size + 1 = gT := ⟨_, rfl⟩
    obtain ⟨gC, hgC⟩ : ∃ gC, W4.heap.size = gC := ⟨_, rfl⟩
    rw [hgT, hgC] at HS0
    have HGT := Lib.hid hgT; have HGC := Lib.hid hgC
    rw [hgC] at hgT ⊢
    try rw [hgT]
    clear HGG HRG HM HCT P1 B1 hgT hgC hW6
    go_wp2
    go_loopw [13] (fun z wr => ∃ i : Nat, z = .int .i64 (i : Int) ∧ i ≤ 2 ∧ Hid (LwS w gL gC gT n0 n1 t0 t1 wr)) (fun z _ => 2 - (intOf z).toNat)
    case atStart => exact ⟨0, rfl, Nat.zero_le _, HS0⟩
    case round =>
      clear HS0
      obtain ⟨i, rfl, hi, HS⟩ := hrel
      have i0 : (0 : Int) ≤ (i : Int) := by omega
      have e7 : IntKind.i64.wrap ((i : Int) + 1) = (i : Int) + 1 := IntWalk.i64_in _ (by omega)
      by_cases hil : i < 2
      · have i1 : (i : Int) < 2 := by omega
        go_wp2
        go_loopw [14] (fun z wr => ∃ k : Nat, z = .int .i64 (k : Int) ∧ k ≤ 2 ∧ Hid (LwS w gL gC gT n0 n1 t0 t1 wr)) (fun z _ => 2 - (intOf z).toNat)
        case atStart => exact ⟨0, rfl, Nat.zero_le _, HS⟩
        case round =>
          clear HS
          obtain ⟨k, rfl, hk, HS⟩ := hrel
          have k0 : (0 : Int) ≤ (k : Int) := by omega
          have e8 : IntKind.i64.wrap ((k : Int) + 1) = (k : Int) + 1 := IntWalk.i64_in _ (by omega)
          by_cases hkl : k < 2
          · have k1 : (k : Int) < 2 := by omega
            obtain ⟨A, n, c, l, xl, hl⟩ := HS.out.ls i hil
            have xc := HS.out.cs k hkl
            obtain ⟨cn, hcn⟩ : ∃ cn, (if k = 0 then n0 else n1) = cn := ⟨_, rfl⟩
            rw [hcn] at xc
            have HL := Lib.hid hl
            have lL := HS.out.lL
            have lC := HS.out.lC
            clear hl hcn
            go_upto_region 15 with fail
            clear xl xc lL lC
            go_upto_region 17 with (first | (go_at_call 14; (with_reducible refine Calls.mono (Valid_any cn l A n c _ HL.out) ?_); rintro r v1 ⟨rfl, hb⟩; have HS := Lib.hid (HS.out.next hb); have HL := Lib.hid (HL.out.next hb); clear hb) | (go_at_call 15; (with_reducible refine Calls.mono (rvalid_any cn l A n c _ HL.out) ?_); rintro r v2 ⟨rfl, hb⟩; have HS := Lib.hid (HS.out.next hb); have HL := Lib.hid (HL.out.next hb); clear hb))
            go_wp2
            go_loopw [17] (fun z wr => ∃ q : Nat, z = .int .i64 (q : Int) ∧ q ≤ 2 ∧ Hid (LwS w gL gC gT n0 n1 t0 t1 wr) ∧ Hid (Recs encP 4 wr wr.heap.size (.slice A n c) l)) (fun z _ => 2 - (intOf z).toNat)
            case atStart => exact ⟨0, rfl, Nat.zero_le _, HS, HL⟩
            case round =>
              clear HS HL
              obtain ⟨q, rfl, hq, HS, HL⟩ := hrel
              have q0 : (0 : Int) ≤ (q : Int) := by omega
              have e9 : IntKind.i64.wrap ((q : Int) + 1) = (q : Int) + 1 := IntWalk.i64_in _ (by omega)
              by_cases hql : q < 2
              · have q1 : (q : Int) < 2 := by omega
                have xT := HS.out.ts q hql
                obtain ⟨tv, htv⟩ : ∃ tv, (if q = 0 then t0 else t1) = tv := ⟨_, rfl⟩
                rw [htv] at xT
                have lT := HS.out.lT
                have lT2 := lT
                have HTV := Lib.hid (fun y (hy : Below wr.heap.size wr y) => (hy.cell (p := ⟨gT, q, none⟩) lT).trans xT)
                obtain ⟨⟨C1, E1⟩, hE1⟩ : ∃ r, claimsR cn l tv = r := ⟨_, rfl⟩
                obtain ⟨⟨C2, E2⟩, hE2⟩ : ∃ r, overR cn l tv = r := ⟨_, rfl⟩
                obtain ⟨⟨C3, E3⟩, hE3⟩ : ∃ r, owedR cn l tv = r := ⟨_, rfl⟩
                obtain ⟨⟨C4, E4⟩, hE4⟩ : ∃ r, totR cn l tv = r := ⟨_, rfl⟩
                obtain ⟨⟨⟨x0, x1, x2, x3⟩, bn⟩, hE5⟩ : ∃ r, nextR cn l tv = r := ⟨_, rfl⟩
                have HE1 := Lib.hid hE1; have HE2 := Lib.hid hE2; have HE3 := Lib.hid hE3; have HE4 := Lib.hid hE4; have HE5 := Lib.hid hE5
                have HNE := neq_claim x0 x1 x2 x3 x0 x1 x2 x3
                rw [decide_eq_true rfl] at HNE
                clear htv hE1 hE2 hE3 hE4 hE5
                go_wp2_with (first | (go_at_call 16; (with_reducible refine Calls.mono (p_claims cn tv l A n c _ HL.out HE1.out) ?_); rintro r u1 ⟨A1, k1, c1, rfl, h1, hb⟩; have Bc := Lib.hid (hb); have sz := Bc.out.size; have sc1 := Nat.le_trans (Nat.le_refl wr.heap.size) (hb).size; have HS := Lib.hid (HS.out.next hb); have HL := Lib.hid (HL.out.next hb); have HA1 := Lib.hid h1; clear h1; clear xT lT2; have xT := HTV.out _ Bc.out; have lT2 := Nat.lt_of_lt_of_le lT sz; clear hb) | (go_at_call 17; (with_reducible refine Calls.mono (r_claims cn tv l A n c _ HL.out HE1.out) ?_); rintro r u2 ⟨A2, k2, c2, rfl, h2, hb⟩; have Bc := Lib.hid (below_to Bc.out hb); have sz := Bc.out.size; have sc2 := Nat.le_trans (Nat.le_refl u1.heap.size) (hb).size; have HS := Lib.hid (HS.out.next hb); have HL := Lib.hid (HL.out.next hb); have HA1 := Lib.hid (HA1.out.next hb); have HA2 := Lib.hid h2; clear h2; clear xT lT2; have xT := HTV.out _ Bc.out; have lT2 := Nat.lt_of_lt_of_le lT sz; clear hb) | (go_at_call 18; (with_reducible refine Calls.mono (p_over cn tv l A n c _ HL.out HE2.out) ?_); rintro r u3 ⟨A3, k3, c3, rfl, h3, hb⟩; have Bc := Lib.hid (below_to Bc.out hb); have sz := Bc.out.size; have sc3 := Nat.le_trans (Nat.le_refl u2.heap.size) (hb).size; have HS := Lib.hid (HS.out.next hb); have HL := Lib.hid (HL.out.next hb); have HA1 := Lib.hid (HA1.out.next hb); have HA2 := Lib.hid (HA2.out.next hb); have HA3 := Lib.hid h3; clear h3; clear xT lT2; have xT := HTV.out _ Bc.out; have lT2 := Nat.lt_of_lt_of_le lT sz; clear hb) | (go_at_call 19; (with_reducible refine Calls.mono (r_over cn tv l A n c _ HL.out HE2.out) ?_); rintro r u4 ⟨A4, k4, c4, rfl, h4, hb⟩; have Bc := Lib.hid (below_to Bc.out hb); have sz := Bc.out.size; have sc4 := Nat.le_trans (Nat.le_refl u3.heap.size) (hb).size; have HS := Lib.hid (HS.out.next hb); have HL := Lib.hid (HL.out.next hb); have HA1 := Lib.hid (HA1.out.next hb); have HA2 := Lib.hid (HA2.out.next hb); have HA3 := Lib.hid (HA3.out.next hb); have HA4 := Lib.hid h4; clear h4; clear xT lT2; have xT := HTV.out _ Bc.out; have lT2 := Nat.lt_of_lt_of_le lT sz; clear hb) | (go_at_call 20; (with_reducible refine Calls.mono (rsame_eq C1 _ _ _ _ _ _ _ HA1.out HA2.out) ?_); rintro r u5 ⟨rfl, hb⟩; have Bc := Lib.hid (below_to Bc.out hb); have sz := Bc.out.size; have sc5 := Nat.le_trans (Nat.le_refl u4.heap.size) (hb).size; have HS := Lib.hid (HS.out.next hb); have HL := Lib.hid (HL.out.next hb); have HA1 := Lib.hid (HA1.out.next hb); have HA2 := Lib.hid (HA2.out.next hb); have HA3 := Lib.hid (HA3.out.next hb); have HA4 := Lib.hid (HA4.out.next hb); clear xT lT2; have xT := HTV.out _ Bc.out; have lT2 := Nat.lt_of_lt_of_le lT sz; clear hb) | (go_at_call 20; (with_reducible refine Calls.mono (rsame_eq C2 _ _ _ _ _ _ _ HA3.out HA4.out) ?_); rintro r u6 ⟨rfl, hb⟩; have Bc := Lib.hid (below_to Bc.out hb); have sz := Bc.out.size; have sc6 := Nat.le_trans (Nat.le_refl u5.heap.size) (hb).size; have HS := Lib.hid (HS.out.next hb); have HL := Lib.hid (HL.out.next hb); have HA1 := Lib.hid (HA1.out.next hb); have HA2 := Lib.hid (HA2.out.next hb); have HA3 := Lib.hid (HA3.out.next hb); have HA4 := Lib.hid (HA4.out.next hb); clear xT lT2; have xT := HTV.out _ Bc.out; have lT2 := Nat.lt_of_lt_of_le lT sz; clear hb) | (go_at_call 21; (with_reducible refine Calls.mono (p_owed cn tv l A n c _ HL.out HE3.out) ?_); rintro r u7 ⟨A5, k5, c5, rfl, h5, hb⟩; have Bc := Lib.hid (below_to Bc.out hb); have sz := Bc.out.size; have sc7 := Nat.le_trans (Nat.le_refl u6.heap.size) (hb).size; have HS := Lib.hid (HS.out.next hb); have HL := Lib.hid (HL.out.next hb); have HA5 := Lib.hid h5; clear h5; clear xT lT2; have xT := HTV.out _ Bc.out; have lT2 := Nat.lt_of_lt_of_le lT sz; clear hb) | (go_at_call 22; (with_reducible refine Calls.mono (r_owed cn tv l A n c _ HL.out HE3.out) ?_); rintro r u8 ⟨A6, k6, c6, rfl, h6, hb⟩; have Bc := Lib.hid (below_to Bc.out hb); have sz := Bc.out.size; have sc8 := Nat.le_trans (Nat.le_refl u7.heap.size) (hb).size; have HS := Lib.hid (HS.out.next hb); have HL := Lib.hid (HL.out.next hb); have HA5 := Lib.hid (HA5.out.next hb); have HA6 := Lib.hid h6; clear h6; clear xT lT2; have xT := HTV.out _ Bc.out; have lT2 := Nat.lt_of_lt_of_le lT sz; clear hb) | (go_at_call 23; (with_reducible refine Calls.mono (p_tot cn tv l A n c _ HL.out HE4.out) ?_); rintro r u9 ⟨A7, k7, c7, rfl, h7, hb⟩; have Bc := Lib.hid (below_to Bc.out hb); have sz := Bc.out.size; have sc9 := Nat.le_trans (Nat.le_refl u8.heap.size) (hb).size; have HS := Lib.hid (HS.out.next hb); have HL := Lib.hid (HL.out.next hb); have HA5 := Lib.hid (HA5.out.next hb); have HA6 := Lib.hid (HA6.out.next hb); have HA7 := Lib.hid h7; clear h7; clear xT lT2; have xT := HTV.out _ Bc.out; have lT2 := Nat.lt_of_lt_of_le lT sz; clear hb) | (go_at_call 24; (with_reducible refine Calls.mono (r_tot cn tv l A n c _ HL.out HE4.out) ?_); rintro r u10 ⟨A8, k8, c8, rfl, h8, hb⟩; have Bc := Lib.hid (below_to Bc.out hb); have sz := Bc.out.size; have sc10 := Nat.le_trans (Nat.le_refl u9.heap.size) (hb).size; have HS := Lib.hid (HS.out.next hb); have HL := Lib.hid (HL.out.next hb); have HA5 := Lib.hid (HA5.out.next hb); have HA6 := Lib.hid (HA6.out.next hb); have HA7 := Lib.hid (HA7.out.next hb); have HA8 := Lib.hid h8; clear h8; clear xT lT2; have xT := HTV.out _ Bc.out; have lT2 := Nat.lt_of_lt_of_le lT sz; clear hb) | (go_at_call 25; (with_reducible refine Calls.mono (p_next cn tv l A n c _ HL.out HE5.out) ?_); rintro r u11 ⟨rfl, hb⟩; have Bc := Lib.hid (below_to Bc.out hb); have sz := Bc.out.size; have sc11 := Nat.le_trans (Nat.le_refl u10.heap.size) (hb).size; have HS := Lib.hid (HS.out.next hb); have HL := Lib.hid (HL.out.next hb); have HA5 := Lib.hid (HA5.out.next hb); have HA6 := Lib.hid (HA6.out.next hb); have HA7 := Lib.hid (HA7.out.next hb); have HA8 := Lib.hid (HA8.out.next hb); clear xT lT2; have xT := HTV.out _ Bc.out; have lT2 := Nat.lt_of_lt_of_le lT sz; clear hb) | (go_at_call 26; (with_reducible refine Calls.mono (r_next cn tv l A n c _ (HL.out.next ((Below.refl _ u11).alloc (Nat.le_refl _) _)) HE5.out) ?_); rintro r u12 ⟨rfl, hb⟩; have HBz := Lib.hid (below_to ((Below.refl _ u11).alloc (Nat.le_refl _) _) hb); have Bc := Lib.hid (below_to Bc.out HBz.out); have sz := Bc.out.size; have sc12 := Nat.le_trans (Nat.le_refl u11.heap.size) (HBz.out).size; have RX := Lib.hid ((Row.new u11 39 #[.int .i64 x0, .int .i64 x1, .int .i64 x2, .int .i64 x3]).below hb (Row.new u11 39 #[.int .i64 x0, .int .i64 x1, .int .i64 x2, .int .i64 x3]).lt); have X_0 := RX.out.cell 0; have X_1 := RX.out.cell 1; have X_2 := RX.out.cell 2; have X_3 := RX.out.cell 3; have lX := RX.out.lt; have HS := Lib.hid (HS.out.next HBz.out); have HL := Lib.hid (HL.out.next HBz.out); have HA5 := Lib.hid (HA5.out.next HBz.out); have HA6 := Lib.hid (HA6.out.next HBz.out); have HA7 := Lib.hid (HA7.out.next HBz.out); have HA8 := Lib.hid (HA8.out.next HBz.out); clear xT lT2; have xT := HTV.out _ Bc.out; have lT2 := Nat.lt_of_lt_of_le lT sz; clear hb) | (go_at_call 27; (with_reducible refine Calls.mono (rints_eq C3 _ _ _ _ _ _ _ (HA5.out.next ((Below.refl _ u12).alloc (Nat.le_refl _) _)) (HA6.out.next ((Below.refl _ u12).alloc (Nat.le_refl _) _))) ?_); rintro r u13 ⟨rfl, hb⟩; have HBz := Lib.hid (below_to ((Below.refl _ u12).alloc (Nat.le_refl _) _) hb); have Bc := Lib.hid (below_to Bc.out HBz.out); have sz := Bc.out.size; have sc13 := Nat.le_trans (Nat.le_refl u12.heap.size) (HBz.out).size; have RX := Lib.hid (RX.out.below HBz.out RX.out.lt); have RY := Lib.hid ((Row.new u12 39 #[.int .i64 x0, .int .i64 x1, .int .i64 x2, .int .i64 x3]).below hb (Row.new u12 39 #[.int .i64 x0, .int .i64 x1, .int .i64 x2, .int .i64 x3]).lt); clear X_0 X_1 X_2 X_3 lX; have X_0 := RX.out.cell 0; have X_1 := RX.out.cell 1; have X_2 := RX.out.cell 2; have X_3 := RX.out.cell 3; have lX := RX.out.lt; have Y_0 := RY.out.cell 0; have Y_1 := RY.out.cell 1; have Y_2 := RY.out.cell 2; have Y_3 := RY.out.cell 3; have lY := RY.out.lt; have HS := Lib.hid (HS.out.next HBz.out); have HL := Lib.hid (HL.out.next HBz.out); have HA5 := Lib.hid (HA5.out.next HBz.out); have HA6 := Lib.hid (HA6.out.next HBz.out); have HA7 := Lib.hid (HA7.out.next HBz.out); have HA8 := Lib.hid (HA8.out.next HBz.out); clear hb) | (go_at_call 27; (with_reducible refine Calls.mono (rints_eq C4 _ _ _ _ _ _ _ HA7.out HA8.out) ?_); rintro r u14 ⟨rfl, hb⟩; have Bc := Lib.hid (below_to Bc.out hb); have sz := Bc.out.size; have sc14 := Nat.le_trans (Nat.le_refl u13.heap.size) (hb).size; have RX := Lib.hid (RX.out.below hb RX.out.lt); have RY := Lib.hid (RY.out.below hb RY.out.lt); clear X_0 X_1 X_2 X_3 lX; have X_0 := RX.out.cell 0; have X_1 := RX.out.cell 1; have X_2 := RX.out.cell 2; have X_3 := RX.out.cell 3; have lX := RX.out.lt; clear Y_0 Y_1 Y_2 Y_3 lY; have Y_0 := RY.out.cell 0; have Y_1 := RY.out.cell 1; have Y_2 := RY.out.cell 2; have Y_3 := RY.out.cell 3; have lY := RY.out.lt; have HS := Lib.hid (HS.out.next hb); have HL := Lib.hid (HL.out.next hb); have HA5 := Lib.hid (HA5.out.next hb); have HA6 := Lib.hid (HA6.out.next hb); have HA7 := Lib.hid (HA7.out.next hb); have HA8 := Lib.hid (HA8.out.next hb); clear hb))
                go_roundw
                case rel => exact ⟨q + 1, by go_num, by omega, HS, HL⟩
                case measure => simp [intOf]; omega
              · have q1 : ¬ (q : Int) < 2 := by omega
                go_wp2
                go_roundw
                case rel => exact ⟨k + 1, by go_num, by omega, HS⟩
                case measure => simp [intOf]; omega
          · have k1 : ¬ (k : Int) < 2 := by omega
            go_wp2
            go_roundw
            case rel => exact ⟨i + 1, by go_num, by omega, HS⟩
            case measure => simp [intOf]; omega
      · have i1 : ¬ (i : Int) < 2 := by omega
        go_wp2
        go_ret
        exact ⟨rfl, HS.out.b⟩
end Go.Proofs.Ytinhjobjlpkflaa
