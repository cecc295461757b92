/- RightsMatchesReference. -/
import Derived.Test.YtenojfniknjeiaaRk
import Derived.Deep.RegionHeld3
import Derived.Deep.CutBlock
namespace Go.Proofs.Ytenojfniknjeiaa
open Go.RowKit Go.Shelf

set_option maxRecDepth 100000 in
set_option maxHeartbeats 16000000 in
theorem match_true (v0 : Value) (rg : List Gr) (v1 : Value) (ru : List Us) (v2 : Value) (xs : List I5) (v3 : Value) (ys : List I4) (v4 : Value) (ra : List Int) (item at_ : Int) (w : World) (hrg : Recs encG 6 w w.heap.size v0 rg) (hru : Recs encU 4 w w.heap.size v1 ru) (hr0 : Recs enc5 5 w w.heap.size v2 xs) (hx : ∀ x ∈ xs, OkI5 x) (hr1 : Recs enc4 4 w w.heap.size v3 ys) (hy : ∀ y ∈ ys, OkI4 y) (hra : Recs enc1 1 w w.heap.size v4 ra) (hi : -9223372036854775808 ≤ item ∧ item ≤ 9223372036854775807) (ht : -9223372036854775808 ≤ at_ ∧ at_ ≤ 9223372036854775807) :
    Calls Try.prog 3 #[v0, v1, v2, v3, v4, .int .i64 item, .int .i64 at_] w fun e w' => e = .returned (.bool true) ∧ Below w.heap.size w w' := by
  obtain ⟨Ag, cg, rfl, hcg1, hcg2⟩ := recs_form hrg
  obtain ⟨Au, cu, rfl, hcu1, hcu2⟩ := recs_form hru
  obtain ⟨A0, c0, rfl, -⟩ := recs_form hr0
  obtain ⟨A1, c1, rfl, -⟩ := recs_form hr1
  obtain ⟨A4, c4, rfl, hca1, hca2⟩ := recs_form hra
  have HM := Lib.hid (fun u (h : Below w.heap.size w u) => made_any xs hx A0 _ c0 u (hr0.next h))
  have HN := Lib.hid (fun u (h : Below w.heap.size w u) => madeUses_any ys hy A1 _ c1 u (hr1.next h))
  have P4 := Lib.hid (fun u => pick_any item 4 (by decide) (by decide) hi.1 hi.2 u)
  have P1000 := Lib.hid (fun u => pick_any at_ 1000 (by decide) (by decide) ht.1 ht.2 u)
  obtain ⟨ng, hng⟩ : ∃ ng : Nat, min rg.length 13 = ng := ⟨_, rfl⟩
  obtain ⟨nu, hnu⟩ : ∃ nu : Nat, min ru.length 11 = nu := ⟨_, rfl⟩
  obtain ⟨n4, hn4⟩ : ∃ n4 : Nat, min ra.length 11 = n4 := ⟨_, rfl⟩
  have M1 := fun w : World => run_min2 (P := Try.prog) (w := w) #[3, 3] 3 .i64 .i64 (rg.length : Int) 13 (ng : Int) (by omega)
  have M2 := fun w : World => run_min2 (P := Try.prog) (w := w) #[3, 3] 3 .i64 .i64 (ru.length : Int) 11 (nu : Int) (by omega)
  have M3 := fun w : World => run_min2 (P := Try.prog) (w := w) #[3, 3] 3 .i64 .i64 (ra.length : Int) 11 (n4 : Int) (by omega)
  have sl1 := fun w => slice_head w 22 52 Try.underlying22 infoGrant Ag rg.length cg ng (by omega)
  have sl2 := fun w => slice_head w 23 46 Try.underlying23 infoUse Au ru.length cu nu (by omega)
  have sl3 := fun w => slice_head w 26 3 Try.underlying26 infoInt A4 ra.length c4 n4 (by omega)
  have HRG := Lib.hid (recs_pre hrg ng (by omega))
  have HRU := Lib.hid (recs_pre hru nu (by omega))
  have HRA := Lib.hid (recs_pre hra n4 (by omega))
  clear hrg hru hr0 hr1 hra hx hy hi ht hng hnu hn4 hcg1 hcg2 hcu1 hcu2 hca1 hca2
  generalize madeG xs = lm at *
  generalize madeU ys = um at *
  generalize rg.take ng = lr at *
  generalize ru.take nu = ur at *
  generalize ra.take n4 = as_ at *
  go_enter Try.func3, Try.ntmps3
  go_upto_region 4 with (go_at_call 10; (with_reducible refine Calls.mono (sane_any _) ?_); rintro r u1 ⟨rfl, hb⟩; have B1 := Lib.hid hb; clear hb)
  go_cut [16] from 34 to 41 (fun v wx => ∃ gG Am nm cm, v = .slice (some ⟨gG, 0, none⟩) 2 2 ∧ Hid (Row wx gG 22 #[.slice Ag ng cg, .slice Am nm cm] ∧ Recs encG 6 wx wx.heap.size (.slice Am nm cm) lm ∧ Below w.heap.size w wx))
  case first =>
    go_region_held3 (fun y => Below u1.heap.size u1 y ∧ True) (first | assumption | (exact ⟨(Below.refl _ _).drew, trivial⟩) | (exact ⟨Below.alloc (‹Below u1.heap.size u1 _ ∧ _›).1 (Below.size (‹Below u1.heap.size u1 _ ∧ _›).1) _, trivial⟩)) (first | (go_at_call 11; ((with_reducible refine Calls.mono (HM.out _ (below_to B1.out (‹Below u1.heap.size u1 _ ∧ _›).1)) ?_); rintro r u5 ⟨v5, rfl, hg⟩; obtain ⟨A5, c5, rfl, -⟩ := own_slice hg.own; have hB5 := And.intro (below_to (‹Below u1.heap.size u1 _ ∧ _›).1 hg.b) trivial)))
    all_goals (
      go_wp2
      go_meet
      exact ⟨_, _, _, _, rfl, Lib.hid ⟨Row.new _ _ _, hg.recs.next ((Below.refl _ u5).alloc (Nat.le_refl _) _), below_to B1.out (‹Below u1.heap.size u1 _ ∧ _›).1⟩⟩)
  case rest =>
    obtain ⟨gG, Am, nm, cm, rfl, HGG⟩ := hcut
    obtain ⟨W4, hW4⟩ : ∃ W, W = wc := ⟨_, rfl⟩
    subst hW4
    go_upto_region 5 with fail
    go_cut [17] from 42 to 49 (fun v wx => ∃ gU Bm mm dm, v = .slice (some ⟨gU, 0, none⟩) 2 2 ∧ Hid (Row wx gU 23 #[.slice Au nu cu, .slice Bm mm dm] ∧ Recs encU 4 wx wx.heap.size (.slice Bm mm dm) um ∧ Below W4.heap.size W4 wx))
    case first =>
      go_region_held3 (fun y => Below W4.heap.size W4 y ∧ True) (first | assumption | (exact ⟨(Below.refl _ _).drew, trivial⟩) | (exact ⟨Below.alloc (‹Below W4.heap.size W4 _ ∧ _›).1 (Below.size (‹Below W4.heap.size W4 _ ∧ _›).1) _, trivial⟩)) (first | (go_at_call 12; ((with_reducible refine Calls.mono (HN.out _ (below_to HGG.out.2.2 (‹Below W4.heap.size W4 _ ∧ _›).1)) ?_); rintro r u5 ⟨v5, rfl, hg⟩; obtain ⟨A5, c5, rfl, -⟩ := own_slice hg.own; have hB5 := And.intro (below_to (‹Below W4.heap.size W4 _ ∧ _›).1 hg.b) trivial)))
      all_goals (
        go_wp2
        go_meet
        exact ⟨_, _, _, _, rfl, Lib.hid ⟨Row.new _ _ _, hg.recs.next ((Below.refl _ u5).alloc (Nat.le_refl _) _), (‹Below W4.heap.size W4 _ ∧ _›).1⟩⟩)
    case rest =>
      obtain ⟨gU, Bm, mm, dm, rfl, HUU⟩ := hcut
      have HS0 := Lib.hid (show LwS w gG gU as_ A4 n4 c4 wc from by
        obtain ⟨g1, g2, g3⟩ := HGG.out
        obtain ⟨k1, k2, k3⟩ := HUU.out
        have hb := below_to g3 k3
        refine ⟨fun i hi => ?_, fun i hi => ?_, HRA.out.next hb, hb, (g1.below k3 g1.lt).lt, k1.lt⟩
        · have h01 : i = 0 ∨ i = 1 := by omega
          rcases h01 with rfl | rfl
          · exact ⟨_, _, _, _, (g1.below k3 g1.lt).cell 0, HRG.out.next hb⟩
          · exact ⟨_, _, _, _, (g1.below k3 g1.lt).cell 1, g2.next k3⟩
        · have h01 : i = 0 ∨ i = 1 := by omega
          rcases h01 with rfl | rfl
          · exact ⟨_, _, _, _, k1.cell 0, HRU.out.next hb⟩
          · exact ⟨_, _, _, _, k1.cell 1, k2⟩)
      clear HGG HUU HRA HRG HRU HM HN B1
      go_upto_region 7 with fail
      clear M1 M2 M3 sl1 sl2 sl3
      go_wp2
      go_loopw [18] (fun z wr => ∃ i : Nat, z = .int .i64 (i : Int) ∧ i ≤ 2 ∧ Hid (LwS w gG gU as_ A4 n4 c4 wr)) (fun z _ => 2 - (intOf z).toNat)
      case atStart => exact ⟨0, rfl, Nat.zero_le _, HS0⟩
      case round =>
        clear HS0
        obtain ⟨i, rfl, hi, HS⟩ := hrel
        have i0 : (0 : Int) ≤ (i : Int) := by omega
        have e7 : IntKind.i64.wrap ((i : Int) + 1) = (i : Int) + 1 := IntWalk.i64_in _ (by omega)
        by_cases hil : i < 2
        · have i1 : (i : Int) < 2 := by omega
          obtain ⟨A, n, c, l, xg, hl⟩ := HS.out.gr i hil
          obtain ⟨B, m, d, V, xu, hv⟩ := HS.out.us i hil
          have HL := Lib.hid hl
          have HV := Lib.hid hv
          have lg := HS.out.lg
          have lu := HS.out.lu
          have HSK : Hid (∀ y, Below wr.heap.size wr y → Below wr.heap.size wr y ∧ y.cell? ⟨gU, i, none⟩ = some (.slice B m d)) := Lib.hid (fun y hy => ⟨hy, (hy.cell (p := ⟨gU, i, none⟩) (by exact lu)).trans xu⟩)
          clear hl hv
          go_upto_region 11 with fail
          go_cut [80] from 63 to 79 (fun v wx => v = .bool false ∧ Hid (Below wr.heap.size wr wx))
          case first =>
            go_region_held3 (fun y => Below wr.heap.size wr y ∧ y.cell? ⟨gU, i, none⟩ = some (.slice B m d)) (first | assumption | (exact HSK.out _ (Below.refl _ _).drew)) (first | (go_at_call 13; ((with_reducible refine Calls.mono (Valid_any l A n c _ (HL.out.next (‹Below wr.heap.size wr _ ∧ _›).1)) ?_); rintro r w5 ⟨rfl, hb5⟩; have hB5 := below_to (‹Below wr.heap.size wr _ ∧ _›).1 hb5; have hS5 := HSK.out _ hB5)) | (go_at_call 14; ((with_reducible refine Calls.mono (rvalid_any l A n c _ (HL.out.next (‹Below wr.heap.size wr _ ∧ _›).1)) ?_); rintro r w5 ⟨rfl, hb5⟩; have hB5 := below_to (‹Below wr.heap.size wr _ ∧ _›).1 hb5; have hS5 := HSK.out _ hB5)) | (go_at_call 15; ((with_reducible refine Calls.mono (ValidUses_any V B m d _ (HV.out.next (‹Below wr.heap.size wr _ ∧ _›).1)) ?_); rintro r w5 ⟨rfl, hb5⟩; have hB5 := below_to (‹Below wr.heap.size wr _ ∧ _›).1 hb5; have hS5 := HSK.out _ hB5)) | (go_at_call 16; ((with_reducible refine Calls.mono (rvaliduses_any V B m d _ (HV.out.next (‹Below wr.heap.size wr _ ∧ _›).1)) ?_); rintro r w5 ⟨rfl, hb5⟩; have hB5 := below_to (‹Below wr.heap.size wr _ ∧ _›).1 hb5; have hS5 := HSK.out _ hB5)))
            all_goals (
              go_wp2
              go_meet
              exact ⟨rfl, Lib.hid (‹Below wr.heap.size wr _ ∧ _›).1⟩)
          case rest =>
            obtain ⟨rfl, HW⟩ := hcut
            have HS := Lib.hid (HS.out.next HW.out)
            have HL := Lib.hid (HL.out.next HW.out)
            clear HSK HV xg xu lg lu
            go_upto_region 15 with (first | (go_at_call 18; (with_reducible refine Calls.mono (Withdraw_any l _ _ A n c _ HL.out) ?_); rintro r v1 ⟨A1, c1, rfl, h1, hb⟩; have HS := Lib.hid (HS.out.next hb); have HL := Lib.hid (HL.out.next hb); have HW1 := Lib.hid h1; clear hb h1) | (go_at_call 19; (with_reducible refine Calls.mono (rWithdraw_any l _ _ A n c _ HL.out) ?_); rintro r v2 ⟨A2, c2, rfl, h2, hb⟩; have HS := Lib.hid (HS.out.next hb); have HL := Lib.hid (HL.out.next hb); have HW1 := Lib.hid (HW1.out.next hb); have HW2 := Lib.hid h2; clear hb h2) | (go_at_call 17; (with_reducible refine Calls.mono (same_eq _ _ _ _ _ _ _ _ HW1.out HW2.out) ?_); rintro r v3 ⟨rfl, hb⟩; have HS := Lib.hid (HS.out.next hb); have HL := Lib.hid (HL.out.next hb); clear hb) | (go_at_call 20; (with_reducible refine Calls.mono (P4.out _) ?_); rintro r y1 ⟨rfl, rfl⟩) | (go_at_call 20; (with_reducible refine Calls.mono (P1000.out _) ?_); rintro r y1 ⟨rfl, rfl⟩))
            go_wp2
            go_loopw [20] (fun z wr => ∃ j : Nat, z = .int .i64 (j : Int) ∧ j ≤ 2 ∧ Hid (LwS w gG gU as_ A4 n4 c4 wr) ∧ Hid (Recs encG 6 wr wr.heap.size (.slice A n c) l)) (fun z _ => 2 - (intOf z).toNat)
            case atStart => exact ⟨0, rfl, Nat.zero_le _, HS, HL⟩
            case round =>
              obtain ⟨j, rfl, hj, HS, HL⟩ := hrel
              have j0 : (0 : Int) ≤ (j : Int) := by omega
              have e8 : IntKind.i64.wrap ((j : Int) + 1) = (j : Int) + 1 := IntWalk.i64_in _ (by omega)
              by_cases hjl : j < 2
              · have j1 : (j : Int) < 2 := by omega
                obtain ⟨A2, n2, c2, U, xu, hu⟩ := HS.out.us j hjl
                have HU := Lib.hid hu
                have hn2 := (recs_cap hu).1
                have HN2 := Lib.hid hn2
                have hn29 : n2 ≤ 9223372036854775807 := by have := recs_cap hu; omega
                have lu := HS.out.lu
                clear hu hn2
                go_upto_region 19 with fail
                clear xu lu
                go_upto_region 25 with (first | (go_at_call 21; (with_reducible refine Calls.mono (assign_p l U A A2 n c n2 c2 _ HL.out HU.out) ?_); rintro r v1 ⟨X1, m1, d1, rfl, h1, hb⟩; have HS := Lib.hid (HS.out.next hb); have HL := Lib.hid (HL.out.next hb); have HU := Lib.hid (HU.out.next hb); have HX1 := Lib.hid h1; clear hb h1) | (go_at_call 22; (with_reducible refine Calls.mono (assign_r l U A A2 n c n2 c2 _ HL.out HU.out) ?_); rintro r v2 ⟨X2, m2, d2, rfl, h2, hb⟩; have HS := Lib.hid (HS.out.next hb); have HL := Lib.hid (HL.out.next hb); have HU := Lib.hid (HU.out.next hb); have HX1 := Lib.hid (HX1.out.next hb); have HX2 := Lib.hid h2; clear hb h2) | (go_at_call 23; (with_reducible refine Calls.mono (lack_p l U A A2 n c n2 c2 _ HL.out HU.out) ?_); rintro r v3 ⟨X3, m3, d3, rfl, h3, hb⟩; have HS := Lib.hid (HS.out.next hb); have HL := Lib.hid (HL.out.next hb); have HU := Lib.hid (HU.out.next hb); have HX1 := Lib.hid (HX1.out.next hb); have HX2 := Lib.hid (HX2.out.next hb); have HX3 := Lib.hid h3; clear hb h3) | (go_at_call 24; (with_reducible refine Calls.mono (rLack_any l U A A2 n c n2 c2 _ HL.out HU.out) ?_); rintro r v4 ⟨X4, m4, d4, rfl, h4, hb⟩; have HS := Lib.hid (HS.out.next hb); have HL := Lib.hid (HL.out.next hb); have HU := Lib.hid (HU.out.next hb); have HX1 := Lib.hid (HX1.out.next hb); have HX2 := Lib.hid (HX2.out.next hb); have HX3 := Lib.hid (HX3.out.next hb); have HX4 := Lib.hid h4; clear hb h4) | (go_at_call 25; (with_reducible refine Calls.mono (rints_eq _ _ _ _ _ _ _ _ HX1.out HX2.out) ?_); rintro r v5 ⟨rfl, hb⟩; have HS := Lib.hid (HS.out.next hb); have HL := Lib.hid (HL.out.next hb); have HU := Lib.hid (HU.out.next hb); have HX2 := Lib.hid (HX2.out.next hb); have HX3 := Lib.hid (HX3.out.next hb); have HX4 := Lib.hid (HX4.out.next hb); clear hb) | (go_at_call 25; (with_reducible refine Calls.mono (rints_eq _ _ _ _ _ _ _ _ HX3.out HX4.out) ?_); rintro r v6 ⟨rfl, hb⟩; have HS := Lib.hid (HS.out.next hb); have HL := Lib.hid (HL.out.next hb); have HU := Lib.hid (HU.out.next hb); have HX2 := Lib.hid (HX2.out.next hb); clear hb))
                go_upto_region 27 with (first | (go_at_call 26; (with_reducible refine Calls.mono (Left_any l U as_ A A2 A4 n c n2 c2 n4 c4 _ HL.out HU.out HS.out.ha) ?_); rintro r v1 ⟨X5, m5, d5, rfl, h5, hb⟩; have HS := Lib.hid (HS.out.next hb); have HL := Lib.hid (HL.out.next hb); have HU := Lib.hid (HU.out.next hb); have HX2 := Lib.hid (HX2.out.next hb); have HX5 := Lib.hid h5; clear hb h5) | (go_at_call 27; (with_reducible refine Calls.mono (rLeft_any l U as_ A A2 A4 n c n2 c2 n4 c4 _ HL.out HU.out HS.out.ha) ?_); rintro r v2 ⟨X6, m6, d6, rfl, h6, hb⟩; have HS := Lib.hid (HS.out.next hb); have HL := Lib.hid (HL.out.next hb); have HU := Lib.hid (HU.out.next hb); have HX2 := Lib.hid (HX2.out.next hb); have HX5 := Lib.hid (HX5.out.next hb); have HX6 := Lib.hid h6; clear hb h6) | (go_at_call 26; (with_reducible refine Calls.mono (Left_any l U (zi (asV l U)) A A2 X2 n c n2 c2 m2 d2 _ HL.out HU.out HX2.out) ?_); rintro r v1 ⟨X7, m7, d7, rfl, h7, hb⟩; have HS := Lib.hid (HS.out.next hb); have HL := Lib.hid (HL.out.next hb); have HU := Lib.hid (HU.out.next hb); have HX2 := Lib.hid (HX2.out.next hb); have HX7 := Lib.hid h7; clear hb h7) | (go_at_call 27; (with_reducible refine Calls.mono (rLeft_any l U (zi (asV l U)) A A2 X2 n c n2 c2 m2 d2 _ HL.out HU.out HX2.out) ?_); rintro r v2 ⟨X8, m8, d8, rfl, h8, hb⟩; have HS := Lib.hid (HS.out.next hb); have HL := Lib.hid (HL.out.next hb); have HU := Lib.hid (HU.out.next hb); have HX2 := Lib.hid (HX2.out.next hb); have HX7 := Lib.hid (HX7.out.next hb); have HX8 := Lib.hid h8; clear hb h8) | (go_at_call 25; (with_reducible refine Calls.mono (rints_eq _ _ _ _ _ _ _ _ HX5.out HX6.out) ?_); rintro r v5 ⟨rfl, hb⟩; have HS := Lib.hid (HS.out.next hb); have HL := Lib.hid (HL.out.next hb); have HU := Lib.hid (HU.out.next hb); have HX2 := Lib.hid (HX2.out.next hb); clear hb) | (go_at_call 25; (with_reducible refine Calls.mono (rints_eq _ _ _ _ _ _ _ _ HX7.out HX8.out) ?_); rintro r v6 ⟨rfl, hb⟩; have HS := Lib.hid (HS.out.next hb); have HL := Lib.hid (HL.out.next hb); have HU := Lib.hid (HU.out.next hb); clear hb))
                go_wp2
                go_loopw [30] (fun z wr => ∃ m : Nat, z = .int .i64 (m : Int) ∧ m ≤ n2 ∧ Hid (LwS w gG gU as_ A4 n4 c4 wr) ∧ Hid (Recs encG 6 wr wr.heap.size (.slice A n c) l) ∧ Hid (Recs encU 4 wr wr.heap.size (.slice A2 n2 c2) U)) (fun z _ => n2 - (intOf z).toNat)
                case atStart => exact ⟨0, rfl, Nat.zero_le _, HS, HL, HU⟩
                case round =>
                  obtain ⟨m, rfl, hm, HS, HL, HU⟩ := hrel
                  have m0 : (0 : Int) ≤ (m : Int) := by omega
                  by_cases hml : m < n2
                  · have m1 : (m : Int) < (n2 : Int) := by omega
                    have e9 : IntKind.i64.wrap ((m : Int) + 1) = (m : Int) + 1 := IntWalk.i64_in _ (by omega)
                    have hmU : m < U.length := by have := HN2.out; omega
                    obtain ⟨v, hv⟩ : ∃ v, U[m]? = some v := ⟨_, List.getElem?_eq_getElem hmU⟩
                    obtain ⟨bu, ou, rfl, g2, hcu⟩ := recs_at HU.out m hmU
                    have y0 : wr.cell? ⟨bu, ou + m * 4, none⟩ = some (.int .i64 v.item) := hcu m v hv 0 _ rfl
                    have y1 : wr.cell? ⟨bu, ou + m * 4 + 1, none⟩ = some (.int .i64 v.acts) := hcu m v hv 1 _ rfl
                    have y2 : wr.cell? ⟨bu, ou + m * 4 + 2, none⟩ = some (.int .i64 v.region) := hcu m v hv 2 _ rfl
                    have y3 : wr.cell? ⟨bu, ou + m * 4 + 3, none⟩ = some (.int .i64 v.at_) := hcu m v hv 3 _ rfl
                    have HSK : Hid (∀ y, Below wr.heap.size wr y → Below wr.heap.size wr y ∧ y.cell? ⟨bu, ou + m * 4, none⟩ = some (.int .i64 v.item) ∧ y.cell? ⟨bu, ou + m * 4 + 1, none⟩ = some (.int .i64 v.acts) ∧ y.cell? ⟨bu, ou + m * 4 + 2, none⟩ = some (.int .i64 v.region) ∧ y.cell? ⟨bu, ou + m * 4 + 3, none⟩ = some (.int .i64 v.at_)) := Lib.hid (fun y hy => ⟨hy, (hy.cell (p := ⟨bu, ou + m * 4, none⟩) (by exact g2)).trans y0, (hy.cell (p := ⟨bu, ou + m * 4 + 1, none⟩) (by exact g2)).trans y1, (hy.cell (p := ⟨bu, ou + m * 4 + 2, none⟩) (by exact g2)).trans y2, (hy.cell (p := ⟨bu, ou + m * 4 + 3, none⟩) (by exact g2)).trans y3⟩)
                    clear hcu hv
                    go_upto_region 30 with fail
                    go_region_held3 (fun y => Below wr.heap.size wr y ∧ y.cell? ⟨bu, ou + m * 4, none⟩ = some (.int .i64 v.item) ∧ y.cell? ⟨bu, ou + m * 4 + 1, none⟩ = some (.int .i64 v.acts) ∧ y.cell? ⟨bu, ou + m * 4 + 2, none⟩ = some (.int .i64 v.region) ∧ y.cell? ⟨bu, ou + m * 4 + 3, none⟩ = some (.int .i64 v.at_)) (first | assumption | (exact HSK.out _ (Below.refl _ _).drew)) (first | (go_at_call 28; ((with_reducible refine Calls.mono (Permits_any l v A n c _ (HL.out.next (‹Below wr.heap.size wr _ ∧ _›).1)) ?_); rintro r w5 ⟨A5, n5, c5, rfl, h5, hb5⟩; have hB5 := below_to (‹Below wr.heap.size wr _ ∧ _›).1 hb5; have hS5 := HSK.out _ hB5; try (have h6 := h6.next hb5))) | (go_at_call 29; ((with_reducible refine Calls.mono (rPermits_any l v A n c _ (HL.out.next (‹Below wr.heap.size wr _ ∧ _›).1)) ?_); rintro r w6 ⟨A6, n6, c6, rfl, h6, hb6⟩; have hB6 := below_to (‹Below wr.heap.size wr _ ∧ _›).1 hb6; have hS6 := HSK.out _ hB6; try (have h5 := h5.next hb6))) | (go_at_call 25; ((with_reducible refine Calls.mono (rints_eq _ _ _ _ _ _ _ _ h5 h6) ?_); rintro r w7 ⟨rfl, hb7⟩; have hB7 := below_to (‹Below wr.heap.size wr _ ∧ _›).1 hb7; have hS7 := HSK.out _ hB7)))
                    all_goals (
                      have HX := Lib.hid (‹Below wr.heap.size wr _ ∧ _›).1
                      have HS9 := Lib.hid (HS.out.next HX.out)
                      have HL9 := Lib.hid (HL.out.next HX.out)
                      have HU9 := Lib.hid (HU.out.next HX.out)
                      go_wp2
                      go_roundw
                      case rel => exact ⟨m + 1, by go_num, by omega, HS9, HL9, HU9⟩
                      case measure => simp [intOf]; omega)
                  · have m1 : ¬ (m : Int) < (n2 : Int) := by omega
                    go_wp2
                    go_roundw
                    case rel => exact ⟨j + 1, by go_num, by omega, HS, HL⟩
                    case measure => simp [intOf]; omega
              · have j1 : ¬ (j : Int) < 2 := by omega
                go_wp2
                go_roundw
                case rel => exact ⟨i + 1, by go_num, by omega, HS⟩
                case measure => simp [intOf]; omega
        · have i1 : ¬ (i : Int) < 2 := by omega
          go_wp2
          go_ret
          exact ⟨rfl, HS.out.b⟩
end Go.Proofs.Ytenojfniknjeiaa
