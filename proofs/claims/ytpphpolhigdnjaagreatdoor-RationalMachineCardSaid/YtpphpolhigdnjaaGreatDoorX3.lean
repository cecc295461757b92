/- The long walk of RationalMachine. -/
import Derived.Test.YtpphpolhigdnjaaGreatDoorX2
import Derived.Test.YtpphpolhigdnjaaGreatDoorQx
namespace Go.Proofs.YtpphpolhigdnjaaGreatDoor
open Go.RowKit Go.Shelf

/-- What RationalMachine's memory holds: the two fractions, the results, their errors, and what is wanted. -/
def MacM (u : World) (g1 g2 g4 : Nat) (NA DA NB DB : ByteArray) (r e x : Array Value) : Prop :=
  Bxs u [(g2, NB, DB), (g1, NA, DA)] ∧ Row u g4 31 r ∧ Row u (g4 + 1) 33 e ∧ Row u (g4 + 1 + 1) 51 x
theorem MacM.below {u u' : World} {g1 g2 g4 : Nat} {NA DA NB DB : ByteArray} {r e x : Array Value} (h : MacM u g1 g2 g4 NA DA NB DB r e x) (hb : Below u.heap.size u u') : MacM u' g1 g2 g4 NA DA NB DB r e x :=
  ⟨h.1.below hb, h.2.1.below hb h.2.1.lt, h.2.2.1.below hb h.2.2.1.lt, h.2.2.2.below hb h.2.2.2.lt⟩
theorem MacM.drew {u : World} {g1 g2 g4 : Nat} {NA DA NB DB : ByteArray} {r e x : Array Value} (h : MacM u g1 g2 g4 NA DA NB DB r e x) : MacM u.drew g1 g2 g4 NA DA NB DB r e x :=
  ⟨fun z hz => (h.1 z hz).drew, h.2.1.drew, h.2.2.1.drew, h.2.2.2.drew⟩

set_option maxRecDepth 100000 in
set_option maxHeartbeats 8000000 in
theorem machine_core (n0 d0 m0 c0 : Int) (xn xm xd xc : Nat) (l1 : xn < 60001) (l2 : xm < 60001) (l3 : xd < 30000) (l4 : xc < 30000)
    (P1 : ∀ w, Calls Tryz.prog 22 #[.int .i64 n0, .int .i64 60001] w fun e w' => e = .returned (.int .i64 (xn : Int)) ∧ w = w')
    (P2 : ∀ w, Calls Tryz.prog 22 #[.int .i64 m0, .int .i64 60001] w fun e w' => e = .returned (.int .i64 (xm : Int)) ∧ w = w')
    (P3 : ∀ w, Calls Tryz.prog 22 #[.int .i64 d0, .int .i64 30000] w fun e w' => e = .returned (.int .i64 (xd : Int)) ∧ w = w')
    (P4 : ∀ w, Calls Tryz.prog 22 #[.int .i64 c0, .int .i64 30000] w fun e w' => e = .returned (.int .i64 (xc : Int)) ∧ w = w')
    (nc md dc nm dm : Int) (w1 : ((xn : Int) - 30000) * (1 + (xc : Int)) = nc) (w2 : ((xm : Int) - 30000) * (1 + (xd : Int)) = md) (w3 : (1 + (xd : Int)) * (1 + (xc : Int)) = dc) (w4 : ((xn : Int) - 30000) * ((xm : Int) - 30000) = nm) (w5 : (1 + (xd : Int)) * ((xm : Int) - 30000) = dm)
    (b1 : -900000000 ≤ nc ∧ nc ≤ 900000000) (b2 : -900000000 ≤ md ∧ md ≤ 900000000) (b3 : -900000000 ≤ dc ∧ dc ≤ 900000000) (b4 : -900000000 ≤ nm ∧ nm ≤ 900000000) (b5 : -900000000 ≤ dm ∧ dm ≤ 900000000)
    (NA DA NB DB S0 T0 S1 T1 S2 T2 S3 T3 : ByteArray) (e3 kk : Int)
    (O1 : CallT 31 #[.int .i64 ((xn : Int) - 30000), .int .i64 (1 + (xd : Int))] (.tuple #[rvB NA DA, .int .i64 0]))
    (O2 : CallT 31 #[.int .i64 ((xm : Int) - 30000), .int .i64 (1 + (xc : Int))] (.tuple #[rvB NB DB, .int .i64 0]))
    (FO : CallT 15 #[rvB NA DA, rvB NB DB] (.tuple #[fourR S0 T0 S1 T1 S2 T2 S3 T3, fourE 0 0 0 e3]))
    (KC : CallT 20 #[rvB NA DA, rvB NB DB] (.int .i64 kk))
    (HK : (nc < md ∧ kk = -1) ∨ (md < nc ∧ kk = 1) ∨ (nc = md ∧ kk = 0))
    (zz0 yy0 XX0 : Int) (Y0 : 1 ≤ yy0) (TN0 : CallT 37 #[.string S0] (.tuple #[.int .i64 zz0, .int .i64 0]))
    (TD0 : CallT 37 #[.string T0] (.tuple #[.int .i64 yy0, .int .i64 0])) (VA0 : CallT 29 #[rvB S0 T0] (.bool true))
    (E0 : IntKind.i64.wrap (zz0 * dc) = XX0) (F0 : IntKind.i64.wrap ((nc + md) * yy0) = XX0)
    (zz1 yy1 XX1 : Int) (Y1 : 1 ≤ yy1) (TN1 : CallT 37 #[.string S1] (.tuple #[.int .i64 zz1, .int .i64 0]))
    (TD1 : CallT 37 #[.string T1] (.tuple #[.int .i64 yy1, .int .i64 0])) (VA1 : CallT 29 #[rvB S1 T1] (.bool true))
    (E1 : IntKind.i64.wrap (zz1 * dc) = XX1) (F1 : IntKind.i64.wrap ((nc - md) * yy1) = XX1)
    (zz2 yy2 XX2 : Int) (Y2 : 1 ≤ yy2) (TN2 : CallT 37 #[.string S2] (.tuple #[.int .i64 zz2, .int .i64 0]))
    (TD2 : CallT 37 #[.string T2] (.tuple #[.int .i64 yy2, .int .i64 0])) (VA2 : CallT 29 #[rvB S2 T2] (.bool true))
    (E2 : IntKind.i64.wrap (zz2 * dc) = XX2) (F2 : IntKind.i64.wrap (nm * yy2) = XX2)
    (zz3 yy3 XX3 : Int) (Y3 : ¬ (xm : Int) - 30000 = 0 → 1 ≤ yy3) (TN3 : ¬ (xm : Int) - 30000 = 0 → CallT 37 #[.string S3] (.tuple #[.int .i64 zz3, .int .i64 0]))
    (TD3 : ¬ (xm : Int) - 30000 = 0 → CallT 37 #[.string T3] (.tuple #[.int .i64 yy3, .int .i64 0])) (VA3 : ¬ (xm : Int) - 30000 = 0 → CallT 29 #[rvB S3 T3] (.bool true))
    (E3 : ¬ (xm : Int) - 30000 = 0 → IntKind.i64.wrap (zz3 * dm) = XX3) (F3 : ¬ (xm : Int) - 30000 = 0 → IntKind.i64.wrap (nc * yy3) = XX3)
    (H3 : (xm : Int) - 30000 = 0 → S3 = ⟨#[]⟩ ∧ T3 = ⟨#[]⟩ ∧ e3 = 40) (N3 : ¬ (xm : Int) - 30000 = 0 → e3 = 0) (w : World) (ht : TabP w) :
    Calls Tryz.prog 5 #[.int .i64 n0, .int .i64 d0, .int .i64 m0, .int .i64 c0] w fun e w' => e = .returned (.bool true) ∧ Below w.heap.size w w' := by
  have HP1 := Lib.hid P1
  have HP2 := Lib.hid P2
  have HP3 := Lib.hid P3
  have HP4 := Lib.hid P4
  have HO1 := Lib.hid O1
  have HO2 := Lib.hid O2
  have HFO := Lib.hid FO
  have HKC := Lib.hid KC
  have HHK := Lib.hid HK
  have HH3 := Lib.hid H3
  have HN3 := Lib.hid N3
  have HTN0 := Lib.hid TN0
  have HTD0 := Lib.hid TD0
  have HVA0 := Lib.hid VA0
  have HE0 := Lib.hid E0
  have HF0 := Lib.hid F0
  have HY0 := Lib.hid Y0
  have HTN1 := Lib.hid TN1
  have HTD1 := Lib.hid TD1
  have HVA1 := Lib.hid VA1
  have HE1 := Lib.hid E1
  have HF1 := Lib.hid F1
  have HY1 := Lib.hid Y1
  have HTN2 := Lib.hid TN2
  have HTD2 := Lib.hid TD2
  have HVA2 := Lib.hid VA2
  have HE2 := Lib.hid E2
  have HF2 := Lib.hid F2
  have HY2 := Lib.hid Y2
  have HTN3 := Lib.hid TN3
  have HTD3 := Lib.hid TD3
  have HVA3 := Lib.hid VA3
  have HE3 := Lib.hid E3
  have HF3 := Lib.hid F3
  have HY3 := Lib.hid Y3
  have v1 : IntKind.i64.wrap (((xn : Int) - 30000) * (1 + (xc : Int))) = nc := by rw [w1]; exact IntWalk.i64_in _ (by omega)
  have v2 : IntKind.i64.wrap (((xm : Int) - 30000) * (1 + (xd : Int))) = md := by rw [w2]; exact IntWalk.i64_in _ (by omega)
  have v3 : IntKind.i64.wrap ((1 + (xd : Int)) * (1 + (xc : Int))) = dc := by rw [w3]; exact IntWalk.i64_in _ (by omega)
  have v4 : IntKind.i64.wrap (((xn : Int) - 30000) * ((xm : Int) - 30000)) = nm := by rw [w4]; exact IntWalk.i64_in _ (by omega)
  have v5 : IntKind.i64.wrap ((1 + (xd : Int)) * ((xm : Int) - 30000)) = dm := by rw [w5]; exact IntWalk.i64_in _ (by omega)
  have SA := Lib.hid sane_c
  have HT := Lib.hid ht
  have HB := Lib.hid (Below.refl w.heap.size w)
  have HR := Lib.hid (Bxs.nil w)
  clear w1 w2 w3 w4 w5 ht P1 P2 P3 P4 O1 O2 FO KC HK H3 N3 TN0 TD0 VA0 E0 F0 Y0 TN1 TD1 VA1 E1 F1 Y1 TN2 TD2 VA2 E2 F2 Y2 TN3 TD3 VA3 E3 F3 Y3
  unfold rvB fourR fourE at *
  go_enter Tryz.func5, Tryz.ntmps5
  go_upto_region 10 with (first | (go_at_call 11; (with_reducible refine Calls.mono (SA.out _ (HT.out.next HB.out)) ?_); rintro e w1 ⟨rfl, hb⟩; have hq := HR.out.below hb; replace HR := Lib.hid hq; replace HB := Lib.hid (below_to HB.out hb); clear hb hq) | (go_at_call 22; ((with_reducible refine Calls.mono (HP1.out _) ?_); rintro e wp1 ⟨rfl, rfl⟩)) | (go_at_call 22; ((with_reducible refine Calls.mono (HP2.out _) ?_); rintro e wp2 ⟨rfl, rfl⟩)) | (go_at_call 22; ((with_reducible refine Calls.mono (HP3.out _) ?_); rintro e wp3 ⟨rfl, rfl⟩)) | (go_at_call 22; ((with_reducible refine Calls.mono (HP4.out _) ?_); rintro e wp4 ⟨rfl, rfl⟩)) | (go_at_call 31; (with_reducible refine Calls.mono (HO1.out _ (HT.out.next HB.out)) ?_); rintro e w2 ⟨rfl, hb⟩; have hq := HR.out.below hb; replace HR := Lib.hid (hq.cons NA DA); replace HB := Lib.hid (below_to (below_to HB.out hb) (new_below _ (.cells #[.string NA, .string DA] 23))); clear hb hq) | (go_at_call 31; (with_reducible refine Calls.mono (HO2.out _ (HT.out.next HB.out)) ?_); rintro e w3 ⟨rfl, hb⟩; have hq := HR.out.below hb; have x0_0 : w3.cell? ⟨w2.heap.size, 0, none⟩ = some (.string NA) := (hq.at (x := (w2.heap.size, NA, DA)) 0 rfl).cell 0; have x0_1 : w3.cell? ⟨w2.heap.size, 1, none⟩ = some (.string DA) := (hq.at (x := (w2.heap.size, NA, DA)) 0 rfl).cell 1; have y0 : w2.heap.size < w3.heap.size := (hq.at (x := (w2.heap.size, NA, DA)) 0 rfl).lt; replace HR := Lib.hid (hq.cons NB DB); replace HB := Lib.hid (below_to (below_to HB.out hb) (new_below _ (.cells #[.string NB, .string DB] 23))); clear hb hq) | (go_at_call 15; (with_reducible refine Calls.mono (HFO.out _ (HT.out.next HB.out)) ?_); rintro e w4 ⟨rfl, hb⟩; have hq := HR.out.below hb; replace HR := Lib.hid hq; replace HB := Lib.hid (below_to HB.out hb); clear hb hq))
  obtain ⟨W10, hW⟩ : ∃ W0, ((w4.alloc (.cells #[.string S0, .string T0, .string S1, .string T1, .string S2, .string T2, .string S3, .string T3] 31)).alloc (.cells #[.int .i64 0, .int .i64 0, .int .i64 0, .int .i64 e3] 33)).alloc (.cells #[.int .i64 (nc + md), .int .i64 dc, .int .i64 (nc - md), .int .i64 dc, .int .i64 (nm), .int .i64 dc, .int .i64 (nc), .int .i64 dm] 51) = W0 := ⟨_, rfl⟩
  have hM : MacM W10 w2.heap.size w3.heap.size w4.heap.size NA DA NB DB #[.string S0, .string T0, .string S1, .string T1, .string S2, .string T2, .string S3, .string T3] #[.int .i64 0, .int .i64 0, .int .i64 0, .int .i64 e3] #[.int .i64 (nc + md), .int .i64 dc, .int .i64 (nc - md), .int .i64 dc, .int .i64 (nm), .int .i64 dc, .int .i64 (nc), .int .i64 dm] := by
    rw [← hW]
    refine ⟨fun z hz => (((HR.out z hz).alloc _).alloc _).alloc _, ((Row.new w4 _ _).alloc _).alloc _, ?_, ?_⟩
    · have h := Row.new (w4.alloc (.cells #[.string S0, .string T0, .string S1, .string T1, .string S2, .string T2, .string S3, .string T3] 31)) 33 #[.int .i64 0, .int .i64 0, .int .i64 0, .int .i64 e3]
      simp only [World.size_alloc] at h
      exact h.alloc _
    · have h := Row.new ((w4.alloc (.cells #[.string S0, .string T0, .string S1, .string T1, .string S2, .string T2, .string S3, .string T3] 31)).alloc (.cells #[.int .i64 0, .int .i64 0, .int .i64 0, .int .i64 e3] 33)) 51 #[.int .i64 (nc + md), .int .i64 dc, .int .i64 (nc - md), .int .i64 dc, .int .i64 (nm), .int .i64 dc, .int .i64 (nc), .int .i64 dm]
      simp only [World.size_alloc] at h
      exact h
  have hB10 : Below w.heap.size w W10 := by
    rw [← hW]
    have h := HB.out.size
    exact ((HB.out.alloc (by omega) _).alloc (by simp; omega) _).alloc (by simp; omega) _
  rw [hW]
  clear hW HR
  replace HB := Lib.hid hB10
  have HM := Lib.hid hM
  clear hB10 hM v3 v4 v5 HP1 HP2 HP3 HP4 HO1 HO2 HFO SA
  go_upto_region 11 with (fail)
  go_loopw [17] (fun i wr => ∃ k : Nat, k ≤ 4 ∧ i = .int .i64 (k : Int) ∧ Hid (MacM wr w2.heap.size w3.heap.size w4.heap.size NA DA NB DB #[.string S0, .string T0, .string S1, .string T1, .string S2, .string T2, .string S3, .string T3] #[.int .i64 0, .int .i64 0, .int .i64 0, .int .i64 e3] #[.int .i64 (nc + md), .int .i64 dc, .int .i64 (nc - md), .int .i64 dc, .int .i64 (nm), .int .i64 dc, .int .i64 (nc), .int .i64 dm]) ∧ Hid (Below w.heap.size w wr)) (fun i _ => 4 - (intOf i).toNat)
  case atStart => exact ⟨0, by omega, by go_num, HM, HB⟩
  case round =>
    clear HM HB
    obtain ⟨k, hk, rfl, HM, HB⟩ := hrel
    rcases (by omega : k = 0 ∨ k = 1 ∨ k = 2 ∨ k = 3 ∨ k = 4) with rfl | rfl | rfl | rfl | rfl
    · have p0 : wr.cell? ⟨w4.heap.size, 0, none⟩ = some (.string S0) := HM.out.2.1.cell 0
      have p1 : wr.cell? ⟨w4.heap.size, 1, none⟩ = some (.string T0) := HM.out.2.1.cell 1
      have p2 : wr.cell? ⟨w4.heap.size + 1, 0, none⟩ = some (.int .i64 0) := HM.out.2.2.1.cell 0
      have p3 : wr.cell? ⟨w4.heap.size + 1 + 1, 0, none⟩ = some (.int .i64 (nc + md)) := HM.out.2.2.2.cell 0
      have p4 : wr.cell? ⟨w4.heap.size + 1 + 1, 1, none⟩ = some (.int .i64 dc) := HM.out.2.2.2.cell 1
      have TN := Lib.hid (HTN0.out)
      have TD := Lib.hid (HTD0.out)
      have VA := Lib.hid (HVA0.out)
      have hE := HE0.out
      have hF := HF0.out
      have hY : decide (yy0 < 1) = false := decide_eq_false (by have := HY0.out; omega)
      go_upto_region 18 with (first | (go_at_call 37; (with_reducible refine Calls.mono (TN.out _ (HT.out.next HB.out)) ?_); rintro e wa ⟨rfl, hb⟩; have hm := HM.out.below hb; have p0 : wa.cell? ⟨w4.heap.size, 0, none⟩ = some (.string S0) := hm.2.1.cell 0; have p1 : wa.cell? ⟨w4.heap.size, 1, none⟩ = some (.string T0) := hm.2.1.cell 1; have p2 : wa.cell? ⟨w4.heap.size + 1, 0, none⟩ = some (.int .i64 0) := hm.2.2.1.cell 0; have p3 : wa.cell? ⟨w4.heap.size + 1 + 1, 0, none⟩ = some (.int .i64 (nc + md)) := hm.2.2.2.cell 0; have p4 : wa.cell? ⟨w4.heap.size + 1 + 1, 1, none⟩ = some (.int .i64 dc) := hm.2.2.2.cell 1; replace HM := Lib.hid hm; replace HB := Lib.hid (below_to HB.out hb); clear hb hm) | (go_at_call 37; (with_reducible refine Calls.mono (TD.out _ (HT.out.next HB.out)) ?_); rintro e wb ⟨rfl, hb⟩; have hm := HM.out.below hb; have p0 : wb.cell? ⟨w4.heap.size, 0, none⟩ = some (.string S0) := hm.2.1.cell 0; have p1 : wb.cell? ⟨w4.heap.size, 1, none⟩ = some (.string T0) := hm.2.1.cell 1; have p2 : wb.cell? ⟨w4.heap.size + 1, 0, none⟩ = some (.int .i64 0) := hm.2.2.1.cell 0; have p3 : wb.cell? ⟨w4.heap.size + 1 + 1, 0, none⟩ = some (.int .i64 (nc + md)) := hm.2.2.2.cell 0; have p4 : wb.cell? ⟨w4.heap.size + 1 + 1, 1, none⟩ = some (.int .i64 dc) := hm.2.2.2.cell 1; replace HM := Lib.hid hm; replace HB := Lib.hid (below_to HB.out hb); clear hb hm))
      have mkS : Hid (∀ u, Below w.heap.size w u → MacM u w2.heap.size w3.heap.size w4.heap.size NA DA NB DB #[.string S0, .string T0, .string S1, .string T1, .string S2, .string T2, .string S3, .string T3] #[.int .i64 0, .int .i64 0, .int .i64 0, .int .i64 e3] #[.int .i64 (nc + md), .int .i64 dc, .int .i64 (nc - md), .int .i64 dc, .int .i64 (nm), .int .i64 dc, .int .i64 (nc), .int .i64 dm] → Below w.heap.size w u ∧ MacM u w2.heap.size w3.heap.size w4.heap.size NA DA NB DB #[.string S0, .string T0, .string S1, .string T1, .string S2, .string T2, .string S3, .string T3] #[.int .i64 0, .int .i64 0, .int .i64 0, .int .i64 e3] #[.int .i64 (nc + md), .int .i64 dc, .int .i64 (nc - md), .int .i64 dc, .int .i64 (nm), .int .i64 dc, .int .i64 (nc), .int .i64 dm] ∧ u.cell? ⟨w4.heap.size, 0, none⟩ = some (.string S0) ∧ u.cell? ⟨w4.heap.size, 1, none⟩ = some (.string T0) ∧ u.cell? ⟨w4.heap.size + 1, 0, none⟩ = some (.int .i64 0) ∧ u.cell? ⟨w4.heap.size + 1 + 1, 0, none⟩ = some (.int .i64 (nc + md)) ∧ u.cell? ⟨w4.heap.size + 1 + 1, 1, none⟩ = some (.int .i64 dc)) := Lib.hid (fun u h1 h2 => ⟨h1, h2, h2.2.1.cell 0, h2.2.1.cell 1, h2.2.2.1.cell 0, h2.2.2.2.cell 0, h2.2.2.2.cell 1⟩)
      go_region_held3 (fun u => Below w.heap.size w u ∧ MacM u w2.heap.size w3.heap.size w4.heap.size NA DA NB DB #[.string S0, .string T0, .string S1, .string T1, .string S2, .string T2, .string S3, .string T3] #[.int .i64 0, .int .i64 0, .int .i64 0, .int .i64 e3] #[.int .i64 (nc + md), .int .i64 dc, .int .i64 (nc - md), .int .i64 dc, .int .i64 (nm), .int .i64 dc, .int .i64 (nc), .int .i64 dm] ∧ u.cell? ⟨w4.heap.size, 0, none⟩ = some (.string S0) ∧ u.cell? ⟨w4.heap.size, 1, none⟩ = some (.string T0) ∧ u.cell? ⟨w4.heap.size + 1, 0, none⟩ = some (.int .i64 0) ∧ u.cell? ⟨w4.heap.size + 1 + 1, 0, none⟩ = some (.int .i64 (nc + md)) ∧ u.cell? ⟨w4.heap.size + 1 + 1, 1, none⟩ = some (.int .i64 dc)) (first | assumption | (exact mkS.out _ HB.out.drew HM.out.drew) | (exact mkS.out _ (below_to (‹Below w.heap.size w _ ∧ MacM _ _ _ _ _ _ _ _ _ _ _ ∧ _ ∧ _ ∧ _ ∧ _ ∧ _›).1 b5) ((‹Below w.heap.size w _ ∧ MacM _ _ _ _ _ _ _ _ _ _ _ ∧ _ ∧ _ ∧ _ ∧ _ ∧ _›).2.1.below b5))) (first | (go_at_call 29; ((with_reducible refine Calls.mono (VA.out _ ?hu) ?_); (case hu => exact HT.out.next (‹Below w.heap.size w _ ∧ MacM _ _ _ _ _ _ _ _ _ _ _ ∧ _ ∧ _ ∧ _ ∧ _ ∧ _›).1); rintro e v1 ⟨rfl, b5⟩)))
      all_goals
        have HX := Lib.hid (‹Below w.heap.size w _ ∧ MacM _ _ _ _ _ _ _ _ _ _ _ ∧ _ ∧ _ ∧ _ ∧ _ ∧ _›)
        go_wp2_with fail
        go_roundw
        case rel => exact ⟨1, by omega, by go_num, Lib.hid HX.out.2.1, Lib.hid HX.out.1⟩
        case measure => simp [intOf]
    · have p0 : wr.cell? ⟨w4.heap.size, 2, none⟩ = some (.string S1) := HM.out.2.1.cell 2
      have p1 : wr.cell? ⟨w4.heap.size, 3, none⟩ = some (.string T1) := HM.out.2.1.cell 3
      have p2 : wr.cell? ⟨w4.heap.size + 1, 1, none⟩ = some (.int .i64 0) := HM.out.2.2.1.cell 1
      have p3 : wr.cell? ⟨w4.heap.size + 1 + 1, 2, none⟩ = some (.int .i64 (nc - md)) := HM.out.2.2.2.cell 2
      have p4 : wr.cell? ⟨w4.heap.size + 1 + 1, 3, none⟩ = some (.int .i64 dc) := HM.out.2.2.2.cell 3
      have TN := Lib.hid (HTN1.out)
      have TD := Lib.hid (HTD1.out)
      have VA := Lib.hid (HVA1.out)
      have hE := HE1.out
      have hF := HF1.out
      have hY : decide (yy1 < 1) = false := decide_eq_false (by have := HY1.out; omega)
      go_upto_region 18 with (first | (go_at_call 37; (with_reducible refine Calls.mono (TN.out _ (HT.out.next HB.out)) ?_); rintro e wa ⟨rfl, hb⟩; have hm := HM.out.below hb; have p0 : wa.cell? ⟨w4.heap.size, 2, none⟩ = some (.string S1) := hm.2.1.cell 2; have p1 : wa.cell? ⟨w4.heap.size, 3, none⟩ = some (.string T1) := hm.2.1.cell 3; have p2 : wa.cell? ⟨w4.heap.size + 1, 1, none⟩ = some (.int .i64 0) := hm.2.2.1.cell 1; have p3 : wa.cell? ⟨w4.heap.size + 1 + 1, 2, none⟩ = some (.int .i64 (nc - md)) := hm.2.2.2.cell 2; have p4 : wa.cell? ⟨w4.heap.size + 1 + 1, 3, none⟩ = some (.int .i64 dc) := hm.2.2.2.cell 3; replace HM := Lib.hid hm; replace HB := Lib.hid (below_to HB.out hb); clear hb hm) | (go_at_call 37; (with_reducible refine Calls.mono (TD.out _ (HT.out.next HB.out)) ?_); rintro e wb ⟨rfl, hb⟩; have hm := HM.out.below hb; have p0 : wb.cell? ⟨w4.heap.size, 2, none⟩ = some (.string S1) := hm.2.1.cell 2; have p1 : wb.cell? ⟨w4.heap.size, 3, none⟩ = some (.string T1) := hm.2.1.cell 3; have p2 : wb.cell? ⟨w4.heap.size + 1, 1, none⟩ = some (.int .i64 0) := hm.2.2.1.cell 1; have p3 : wb.cell? ⟨w4.heap.size + 1 + 1, 2, none⟩ = some (.int .i64 (nc - md)) := hm.2.2.2.cell 2; have p4 : wb.cell? ⟨w4.heap.size + 1 + 1, 3, none⟩ = some (.int .i64 dc) := hm.2.2.2.cell 3; replace HM := Lib.hid hm; replace HB := Lib.hid (below_to HB.out hb); clear hb hm))
      have mkS : Hid (∀ u, Below w.heap.size w u → MacM u w2.heap.size w3.heap.size w4.heap.size NA DA NB DB #[.string S0, .string T0, .string S1, .string T1, .string S2, .string T2, .string S3, .string T3] #[.int .i64 0, .int .i64 0, .int .i64 0, .int .i64 e3] #[.int .i64 (nc + md), .int .i64 dc, .int .i64 (nc - md), .int .i64 dc, .int .i64 (nm), .int .i64 dc, .int .i64 (nc), .int .i64 dm] → Below w.heap.size w u ∧ MacM u w2.heap.size w3.heap.size w4.heap.size NA DA NB DB #[.string S0, .string T0, .string S1, .string T1, .string S2, .string T2, .string S3, .string T3] #[.int .i64 0, .int .i64 0, .int .i64 0, .int .i64 e3] #[.int .i64 (nc + md), .int .i64 dc, .int .i64 (nc - md), .int .i64 dc, .int .i64 (nm), .int .i64 dc, .int .i64 (nc), .int .i64 dm] ∧ u.cell? ⟨w4.heap.size, 2, none⟩ = some (.string S1) ∧ u.cell? ⟨w4.heap.size, 3, none⟩ = some (.string T1) ∧ u.cell? ⟨w4.heap.size + 1, 1, none⟩ = some (.int .i64 0) ∧ u.cell? ⟨w4.heap.size + 1 + 1, 2, none⟩ = some (.int .i64 (nc - md)) ∧ u.cell? ⟨w4.heap.size + 1 + 1, 3, none⟩ = some (.int .i64 dc)) := Lib.hid (fun u h1 h2 => ⟨h1, h2, h2.2.1.cell 2, h2.2.1.cell 3, h2.2.2.1.cell 1, h2.2.2.2.cell 2, h2.2.2.2.cell 3⟩)
      go_region_held3 (fun u => Below w.heap.size w u ∧ MacM u w2.heap.size w3.heap.size w4.heap.size NA DA NB DB #[.string S0, .string T0, .string S1, .string T1, .string S2, .string T2, .string S3, .string T3] #[.int .i64 0, .int .i64 0, .int .i64 0, .int .i64 e3] #[.int .i64 (nc + md), .int .i64 dc, .int .i64 (nc - md), .int .i64 dc, .int .i64 (nm), .int .i64 dc, .int .i64 (nc), .int .i64 dm] ∧ u.cell? ⟨w4.heap.size, 2, none⟩ = some (.string S1) ∧ u.cell? ⟨w4.heap.size, 3, none⟩ = some (.string T1) ∧ u.cell? ⟨w4.heap.size + 1, 1, none⟩ = some (.int .i64 0) ∧ u.cell? ⟨w4.heap.size + 1 + 1, 2, none⟩ = some (.int .i64 (nc - md)) ∧ u.cell? ⟨w4.heap.size + 1 + 1, 3, none⟩ = some (.int .i64 dc)) (first | assumption | (exact mkS.out _ HB.out.drew HM.out.drew) | (exact mkS.out _ (below_to (‹Below w.heap.size w _ ∧ MacM _ _ _ _ _ _ _ _ _ _ _ ∧ _ ∧ _ ∧ _ ∧ _ ∧ _›).1 b5) ((‹Below w.heap.size w _ ∧ MacM _ _ _ _ _ _ _ _ _ _ _ ∧ _ ∧ _ ∧ _ ∧ _ ∧ _›).2.1.below b5))) (first | (go_at_call 29; ((with_reducible refine Calls.mono (VA.out _ ?hu) ?_); (case hu => exact HT.out.next (‹Below w.heap.size w _ ∧ MacM _ _ _ _ _ _ _ _ _ _ _ ∧ _ ∧ _ ∧ _ ∧ _ ∧ _›).1); rintro e v1 ⟨rfl, b5⟩)))
      all_goals
        have HX := Lib.hid (‹Below w.heap.size w _ ∧ MacM _ _ _ _ _ _ _ _ _ _ _ ∧ _ ∧ _ ∧ _ ∧ _ ∧ _›)
        go_wp2_with fail
        go_roundw
        case rel => exact ⟨2, by omega, by go_num, Lib.hid HX.out.2.1, Lib.hid HX.out.1⟩
        case measure => simp [intOf]
    · have p0 : wr.cell? ⟨w4.heap.size, 4, none⟩ = some (.string S2) := HM.out.2.1.cell 4
      have p1 : wr.cell? ⟨w4.heap.size, 5, none⟩ = some (.string T2) := HM.out.2.1.cell 5
      have p2 : wr.cell? ⟨w4.heap.size + 1, 2, none⟩ = some (.int .i64 0) := HM.out.2.2.1.cell 2
      have p3 : wr.cell? ⟨w4.heap.size + 1 + 1, 4, none⟩ = some (.int .i64 (nm)) := HM.out.2.2.2.cell 4
      have p4 : wr.cell? ⟨w4.heap.size + 1 + 1, 5, none⟩ = some (.int .i64 dc) := HM.out.2.2.2.cell 5
      have TN := Lib.hid (HTN2.out)
      have TD := Lib.hid (HTD2.out)
      have VA := Lib.hid (HVA2.out)
      have hE := HE2.out
      have hF := HF2.out
      have hY : decide (yy2 < 1) = false := decide_eq_false (by have := HY2.out; omega)
      go_upto_region 18 with (first | (go_at_call 37; (with_reducible refine Calls.mono (TN.out _ (HT.out.next HB.out)) ?_); rintro e wa ⟨rfl, hb⟩; have hm := HM.out.below hb; have p0 : wa.cell? ⟨w4.heap.size, 4, none⟩ = some (.string S2) := hm.2.1.cell 4; have p1 : wa.cell? ⟨w4.heap.size, 5, none⟩ = some (.string T2) := hm.2.1.cell 5; have p2 : wa.cell? ⟨w4.heap.size + 1, 2, none⟩ = some (.int .i64 0) := hm.2.2.1.cell 2; have p3 : wa.cell? ⟨w4.heap.size + 1 + 1, 4, none⟩ = some (.int .i64 (nm)) := hm.2.2.2.cell 4; have p4 : wa.cell? ⟨w4.heap.size + 1 + 1, 5, none⟩ = some (.int .i64 dc) := hm.2.2.2.cell 5; replace HM := Lib.hid hm; replace HB := Lib.hid (below_to HB.out hb); clear hb hm) | (go_at_call 37; (with_reducible refine Calls.mono (TD.out _ (HT.out.next HB.out)) ?_); rintro e wb ⟨rfl, hb⟩; have hm := HM.out.below hb; have p0 : wb.cell? ⟨w4.heap.size, 4, none⟩ = some (.string S2) := hm.2.1.cell 4; have p1 : wb.cell? ⟨w4.heap.size, 5, none⟩ = some (.string T2) := hm.2.1.cell 5; have p2 : wb.cell? ⟨w4.heap.size + 1, 2, none⟩ = some (.int .i64 0) := hm.2.2.1.cell 2; have p3 : wb.cell? ⟨w4.heap.size + 1 + 1, 4, none⟩ = some (.int .i64 (nm)) := hm.2.2.2.cell 4; have p4 : wb.cell? ⟨w4.heap.size + 1 + 1, 5, none⟩ = some (.int .i64 dc) := hm.2.2.2.cell 5; replace HM := Lib.hid hm; replace HB := Lib.hid (below_to HB.out hb); clear hb hm))
      have mkS : Hid (∀ u, Below w.heap.size w u → MacM u w2.heap.size w3.heap.size w4.heap.size NA DA NB DB #[.string S0, .string T0, .string S1, .string T1, .string S2, .string T2, .string S3, .string T3] #[.int .i64 0, .int .i64 0, .int .i64 0, .int .i64 e3] #[.int .i64 (nc + md), .int .i64 dc, .int .i64 (nc - md), .int .i64 dc, .int .i64 (nm), .int .i64 dc, .int .i64 (nc), .int .i64 dm] → Below w.heap.size w u ∧ MacM u w2.heap.size w3.heap.size w4.heap.size NA DA NB DB #[.string S0, .string T0, .string S1, .string T1, .string S2, .string T2, .string S3, .string T3] #[.int .i64 0, .int .i64 0, .int .i64 0, .int .i64 e3] #[.int .i64 (nc + md), .int .i64 dc, .int .i64 (nc - md), .int .i64 dc, .int .i64 (nm), .int .i64 dc, .int .i64 (nc), .int .i64 dm] ∧ u.cell? ⟨w4.heap.size, 4, none⟩ = some (.string S2) ∧ u.cell? ⟨w4.heap.size, 5, none⟩ = some (.string T2) ∧ u.cell? ⟨w4.heap.size + 1, 2, none⟩ = some (.int .i64 0) ∧ u.cell? ⟨w4.heap.size + 1 + 1, 4, none⟩ = some (.int .i64 (nm)) ∧ u.cell? ⟨w4.heap.size + 1 + 1, 5, none⟩ = some (.int .i64 dc)) := Lib.hid (fun u h1 h2 => ⟨h1, h2, h2.2.1.cell 4, h2.2.1.cell 5, h2.2.2.1.cell 2, h2.2.2.2.cell 4, h2.2.2.2.cell 5⟩)
      go_region_held3 (fun u => Below w.heap.size w u ∧ MacM u w2.heap.size w3.heap.size w4.heap.size NA DA NB DB #[.string S0, .string T0, .string S1, .string T1, .string S2, .string T2, .string S3, .string T3] #[.int .i64 0, .int .i64 0, .int .i64 0, .int .i64 e3] #[.int .i64 (nc + md), .int .i64 dc, .int .i64 (nc - md), .int .i64 dc, .int .i64 (nm), .int .i64 dc, .int .i64 (nc), .int .i64 dm] ∧ u.cell? ⟨w4.heap.size, 4, none⟩ = some (.string S2) ∧ u.cell? ⟨w4.heap.size, 5, none⟩ = some (.string T2) ∧ u.cell? ⟨w4.heap.size + 1, 2, none⟩ = some (.int .i64 0) ∧ u.cell? ⟨w4.heap.size + 1 + 1, 4, none⟩ = some (.int .i64 (nm)) ∧ u.cell? ⟨w4.heap.size + 1 + 1, 5, none⟩ = some (.int .i64 dc)) (first | assumption | (exact mkS.out _ HB.out.drew HM.out.drew) | (exact mkS.out _ (below_to (‹Below w.heap.size w _ ∧ MacM _ _ _ _ _ _ _ _ _ _ _ ∧ _ ∧ _ ∧ _ ∧ _ ∧ _›).1 b5) ((‹Below w.heap.size w _ ∧ MacM _ _ _ _ _ _ _ _ _ _ _ ∧ _ ∧ _ ∧ _ ∧ _ ∧ _›).2.1.below b5))) (first | (go_at_call 29; ((with_reducible refine Calls.mono (VA.out _ ?hu) ?_); (case hu => exact HT.out.next (‹Below w.heap.size w _ ∧ MacM _ _ _ _ _ _ _ _ _ _ _ ∧ _ ∧ _ ∧ _ ∧ _ ∧ _›).1); rintro e v1 ⟨rfl, b5⟩)))
      all_goals
        have HX := Lib.hid (‹Below w.heap.size w _ ∧ MacM _ _ _ _ _ _ _ _ _ _ _ ∧ _ ∧ _ ∧ _ ∧ _ ∧ _›)
        go_wp2_with fail
        go_roundw
        case rel => exact ⟨3, by omega, by go_num, Lib.hid HX.out.2.1, Lib.hid HX.out.1⟩
        case measure => simp [intOf]
    · by_cases hz : (xm : Int) - 30000 = 0
      · obtain ⟨rfl, rfl, rfl⟩ := HH3.out hz
        have hzb : ((xm : Int) - 30000 == 0) = true := by rw [hz]; rfl
        clear hz
        have p0 : wr.cell? ⟨w4.heap.size, 6, none⟩ = some (.string ⟨#[]⟩) := HM.out.2.1.cell 6
        have p1 : wr.cell? ⟨w4.heap.size, 7, none⟩ = some (.string ⟨#[]⟩) := HM.out.2.1.cell 7
        have p2 : wr.cell? ⟨w4.heap.size + 1, 3, none⟩ = some (.int .i64 40) := HM.out.2.2.1.cell 3
        go_wp2_with fail
        go_roundw
        case rel => exact ⟨4, by omega, by go_num, HM, HB⟩
        case measure => simp [intOf]
      · obtain rfl := HN3.out hz
        have hzb : ((xm : Int) - 30000 == 0) = false := beq_eq_false_iff_ne.2 hz
        have p0 : wr.cell? ⟨w4.heap.size, 6, none⟩ = some (.string S3) := HM.out.2.1.cell 6
        have p1 : wr.cell? ⟨w4.heap.size, 7, none⟩ = some (.string T3) := HM.out.2.1.cell 7
        have p2 : wr.cell? ⟨w4.heap.size + 1, 3, none⟩ = some (.int .i64 0) := HM.out.2.2.1.cell 3
        have p3 : wr.cell? ⟨w4.heap.size + 1 + 1, 6, none⟩ = some (.int .i64 (nc)) := HM.out.2.2.2.cell 6
        have p4 : wr.cell? ⟨w4.heap.size + 1 + 1, 7, none⟩ = some (.int .i64 dm) := HM.out.2.2.2.cell 7
        have TN := Lib.hid (HTN3.out hz)
        have TD := Lib.hid (HTD3.out hz)
        have VA := Lib.hid (HVA3.out hz)
        have hE := HE3.out hz
        have hF := HF3.out hz
        have hY : decide (yy3 < 1) = false := decide_eq_false (by have := HY3.out hz; omega)
        go_upto_region 18 with (first | (go_at_call 37; (with_reducible refine Calls.mono (TN.out _ (HT.out.next HB.out)) ?_); rintro e wa ⟨rfl, hb⟩; have hm := HM.out.below hb; have p0 : wa.cell? ⟨w4.heap.size, 6, none⟩ = some (.string S3) := hm.2.1.cell 6; have p1 : wa.cell? ⟨w4.heap.size, 7, none⟩ = some (.string T3) := hm.2.1.cell 7; have p2 : wa.cell? ⟨w4.heap.size + 1, 3, none⟩ = some (.int .i64 0) := hm.2.2.1.cell 3; have p3 : wa.cell? ⟨w4.heap.size + 1 + 1, 6, none⟩ = some (.int .i64 (nc)) := hm.2.2.2.cell 6; have p4 : wa.cell? ⟨w4.heap.size + 1 + 1, 7, none⟩ = some (.int .i64 dm) := hm.2.2.2.cell 7; replace HM := Lib.hid hm; replace HB := Lib.hid (below_to HB.out hb); clear hb hm) | (go_at_call 37; (with_reducible refine Calls.mono (TD.out _ (HT.out.next HB.out)) ?_); rintro e wb ⟨rfl, hb⟩; have hm := HM.out.below hb; have p0 : wb.cell? ⟨w4.heap.size, 6, none⟩ = some (.string S3) := hm.2.1.cell 6; have p1 : wb.cell? ⟨w4.heap.size, 7, none⟩ = some (.string T3) := hm.2.1.cell 7; have p2 : wb.cell? ⟨w4.heap.size + 1, 3, none⟩ = some (.int .i64 0) := hm.2.2.1.cell 3; have p3 : wb.cell? ⟨w4.heap.size + 1 + 1, 6, none⟩ = some (.int .i64 (nc)) := hm.2.2.2.cell 6; have p4 : wb.cell? ⟨w4.heap.size + 1 + 1, 7, none⟩ = some (.int .i64 dm) := hm.2.2.2.cell 7; replace HM := Lib.hid hm; replace HB := Lib.hid (below_to HB.out hb); clear hb hm))
        have mkS : Hid (∀ u, Below w.heap.size w u → MacM u w2.heap.size w3.heap.size w4.heap.size NA DA NB DB #[.string S0, .string T0, .string S1, .string T1, .string S2, .string T2, .string S3, .string T3] #[.int .i64 0, .int .i64 0, .int .i64 0, .int .i64 0] #[.int .i64 (nc + md), .int .i64 dc, .int .i64 (nc - md), .int .i64 dc, .int .i64 (nm), .int .i64 dc, .int .i64 (nc), .int .i64 dm] → Below w.heap.size w u ∧ MacM u w2.heap.size w3.heap.size w4.heap.size NA DA NB DB #[.string S0, .string T0, .string S1, .string T1, .string S2, .string T2, .string S3, .string T3] #[.int .i64 0, .int .i64 0, .int .i64 0, .int .i64 0] #[.int .i64 (nc + md), .int .i64 dc, .int .i64 (nc - md), .int .i64 dc, .int .i64 (nm), .int .i64 dc, .int .i64 (nc), .int .i64 dm] ∧ u.cell? ⟨w4.heap.size, 6, none⟩ = some (.string S3) ∧ u.cell? ⟨w4.heap.size, 7, none⟩ = some (.string T3) ∧ u.cell? ⟨w4.heap.size + 1, 3, none⟩ = some (.int .i64 0) ∧ u.cell? ⟨w4.heap.size + 1 + 1, 6, none⟩ = some (.int .i64 (nc)) ∧ u.cell? ⟨w4.heap.size + 1 + 1, 7, none⟩ = some (.int .i64 dm)) := Lib.hid (fun u h1 h2 => ⟨h1, h2, h2.2.1.cell 6, h2.2.1.cell 7, h2.2.2.1.cell 3, h2.2.2.2.cell 6, h2.2.2.2.cell 7⟩)
        go_region_held3 (fun u => Below w.heap.size w u ∧ MacM u w2.heap.size w3.heap.size w4.heap.size NA DA NB DB #[.string S0, .string T0, .string S1, .string T1, .string S2, .string T2, .string S3, .string T3] #[.int .i64 0, .int .i64 0, .int .i64 0, .int .i64 0] #[.int .i64 (nc + md), .int .i64 dc, .int .i64 (nc - md), .int .i64 dc, .int .i64 (nm), .int .i64 dc, .int .i64 (nc), .int .i64 dm] ∧ u.cell? ⟨w4.heap.size, 6, none⟩ = some (.string S3) ∧ u.cell? ⟨w4.heap.size, 7, none⟩ = some (.string T3) ∧ u.cell? ⟨w4.heap.size + 1, 3, none⟩ = some (.int .i64 0) ∧ u.cell? ⟨w4.heap.size + 1 + 1, 6, none⟩ = some (.int .i64 (nc)) ∧ u.cell? ⟨w4.heap.size + 1 + 1, 7, none⟩ = some (.int .i64 dm)) (first | assumption | (exact mkS.out _ HB.out.drew HM.out.drew) | (exact mkS.out _ (below_to (‹Below w.heap.size w _ ∧ MacM _ _ _ _ _ _ _ _ _ _ _ ∧ _ ∧ _ ∧ _ ∧ _ ∧ _›).1 b5) ((‹Below w.heap.size w _ ∧ MacM _ _ _ _ _ _ _ _ _ _ _ ∧ _ ∧ _ ∧ _ ∧ _ ∧ _›).2.1.below b5))) (first | (go_at_call 29; ((with_reducible refine Calls.mono (VA.out _ ?hu) ?_); (case hu => exact HT.out.next (‹Below w.heap.size w _ ∧ MacM _ _ _ _ _ _ _ _ _ _ _ ∧ _ ∧ _ ∧ _ ∧ _ ∧ _›).1); rintro e v1 ⟨rfl, b5⟩)))
        all_goals
          have HX := Lib.hid (‹Below w.heap.size w _ ∧ MacM _ _ _ _ _ _ _ _ _ _ _ ∧ _ ∧ _ ∧ _ ∧ _ ∧ _›)
          go_wp2_with fail
          go_roundw
          case rel => exact ⟨4, by omega, by go_num, Lib.hid HX.out.2.1, Lib.hid HX.out.1⟩
          case measure => simp [intOf]
    · have hbx := HM.out.1
      have x0_0 : wr.cell? ⟨w3.heap.size, 0, none⟩ = some (.string NB) := (hbx.at (x := (w3.heap.size, NB, DB)) 0 rfl).cell 0
      have x0_1 : wr.cell? ⟨w3.heap.size, 1, none⟩ = some (.string DB) := (hbx.at (x := (w3.heap.size, NB, DB)) 0 rfl).cell 1
      have y0 : w3.heap.size < wr.heap.size := (hbx.at (x := (w3.heap.size, NB, DB)) 0 rfl).lt
      have x1_0 : wr.cell? ⟨w2.heap.size, 0, none⟩ = some (.string NA) := (hbx.at (x := (w2.heap.size, NA, DA)) 1 rfl).cell 0
      have x1_1 : wr.cell? ⟨w2.heap.size, 1, none⟩ = some (.string DA) := (hbx.at (x := (w2.heap.size, NA, DA)) 1 rfl).cell 1
      have y1 : w2.heap.size < wr.heap.size := (hbx.at (x := (w2.heap.size, NA, DA)) 1 rfl).lt
      clear hbx
      rcases HHK.out with ⟨h, rfl⟩ | ⟨h, rfl⟩ | ⟨rfl, rfl⟩
      · go_wp2_with (first | (go_at_call 20; (with_reducible refine Calls.mono (HKC.out _ (HT.out.next HB.out)) ?_); rintro e w5 ⟨rfl, hb⟩; replace HB := Lib.hid (below_to HB.out hb); clear hb))
        go_ret
        exact ⟨rfl, HB.out⟩
      · go_wp2_with (first | (go_at_call 20; (with_reducible refine Calls.mono (HKC.out _ (HT.out.next HB.out)) ?_); rintro e w5 ⟨rfl, hb⟩; replace HB := Lib.hid (below_to HB.out hb); clear hb))
        go_ret
        exact ⟨rfl, HB.out⟩
      · go_wp2_with (first | (go_at_call 20; (with_reducible refine Calls.mono (HKC.out _ (HT.out.next HB.out)) ?_); rintro e w5 ⟨rfl, hb⟩; replace HB := Lib.hid (below_to HB.out hb); clear hb))
        go_ret
        exact ⟨rfl, HB.out⟩
end Go.Proofs.YtpphpolhigdnjaaGreatDoor
