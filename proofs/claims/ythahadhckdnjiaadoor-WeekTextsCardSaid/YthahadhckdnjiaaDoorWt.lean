/- The law WeekTexts answers true. -/
import Derived.Test.YthahadhckdnjiaaDoorXd
namespace Go.Proofs.YthahadhckdnjiaaDoor
open Go.RowKit Go.Shelf
attribute [local go_sem] equal_weeks
set_option maxRecDepth 100000 in
set_option maxHeartbeats 8000000 in
theorem texts_walk (x0 x1 x2 x3 x4 x5 x6 pos cc : Int) (s : ByteArray) (hx : ∀ x ∈ [x0, x1, x2, x3, x4, x5, x6], -9223372036854775808 ≤ x ∧ x ≤ 9223372036854775807) (hpos : I64 pos) (hcc : 0 ≤ cc ∧ cc ≤ 255) (w : World) (hT : Tabs w) : Calls Tryd.prog 4 #[.agg #[.int .i64 x0, .int .i64 x1, .int .i64 x2, .int .i64 x3, .int .i64 x4, .int .i64 x5, .int .i64 x6], .string s, .int .i64 pos, .int .u8 cc] w fun e w' => e = .returned (.bool true) ∧ Below w.heap.size w w' := by
  have MD := Lib.hid (fun u => made_k x0 x1 x2 x3 x4 x5 x6 hx u)
  have HT := Lib.hid hT
  have SA := Lib.hid (fun u hu => sane_any u hu)
  obtain ⟨kr, hkr1, hkr2⟩ : ∃ kr : Nat, min (s.size : Int) 400 = (kr : Int) ∧ kr ≤ 400 ∧ kr ≤ s.size := ⟨min s.size 400, by omega, by omega, by omega⟩
  obtain ⟨CU, hCU⟩ : ∃ CU, s.extract 0 kr = CU := ⟨_, rfl⟩
  have hcs : CU.size ≤ 400 := by rw [← hCU, ByteArray.size_extract]; omega
  have TC := Lib.hid (txt_ok CU (by omega))
  have KM := Lib.hid (fun (w : World) => run_min2 (P := Tryd.prog) (w := w) #[3, 3] 3 .i64 .i64 (s.size : Int) 400 (kr : Int) hkr1)
  have KS := Lib.hid (show ∀ w : World, (Instr.slice 9 (.string s) none (some (.int .i64 (kr : Int))) none).run Tryd.prog w = .ok (.string CU) w from fun w => by
    rw [run_slice_string_h (P := Tryd.prog) w 9 s Tryd.underlying9 .i64 (kr : Int) (by omega) (by omega), Int.toNat_natCast, hCU])
  clear hx hT hkr1 hkr2 hCU hcs
  go_enter Tryd.func4, Tryd.ntmps4
  go_upto_region 5 with (first | (go_at_call 10; (with_reducible refine Calls.mono (SA.out _ (HT.out.next ((Below.refl _ w).alloc (Nat.le_refl _) _))) ?_); rintro r u1 ⟨rfl, hb⟩; have Bc := Lib.hid (below_to ((Below.refl _ w).alloc (Nat.le_refl _) _) hb); have sz := Bc.out.size; have RX := Lib.hid ((Row.new w 22 #[.int .i64 x0, .int .i64 x1, .int .i64 x2, .int .i64 x3, .int .i64 x4, .int .i64 x5, .int .i64 x6]).below hb (Row.new w 22 #[.int .i64 x0, .int .i64 x1, .int .i64 x2, .int .i64 x3, .int .i64 x4, .int .i64 x5, .int .i64 x6]).lt); have X_0 := RX.out.cell 0; have X_1 := RX.out.cell 1; have X_2 := RX.out.cell 2; have X_3 := RX.out.cell 3; have X_4 := RX.out.cell 4; have X_5 := RX.out.cell 5; have X_6 := RX.out.cell 6; have lX := RX.out.lt; clear hb) | (go_at_call 11; (with_reducible refine Calls.mono (MD.out _) ?_); rintro r u2 ⟨l, y0, y1, y2, y3, y4, y5, y6, K, rfl, hb⟩; have Bc := Lib.hid (below_to Bc.out hb); have sz := Bc.out.size; have KK := Lib.hid K; clear hb))
  have K := KK.out
  obtain ⟨V0, hV0⟩ : ∃ V0, u2.alloc (.cells #[.int .i64 y0, .int .i64 y1, .int .i64 y2, .int .i64 y3, .int .i64 y4, .int .i64 y5, .int .i64 y6] 23) = V0 := ⟨_, rfl⟩
  have RW := Lib.hid (show Row V0 u2.heap.size 23 #[.int .i64 y0, .int .i64 y1, .int .i64 y2, .int .i64 y3, .int .i64 y4, .int .i64 y5, .int .i64 y6] by rw [← hV0]; exact Row.new _ _ _)
  have Bc := Lib.hid (show Below w.heap.size w V0 by rw [← hV0]; exact Bc.out.alloc Bc.out.size _)
  rw [hV0]
  clear hV0
  obtain ⟨hp1, hp2⟩ := print_size K.len K.v
  have PR := Lib.hid (fun u hu => print_k K u hu)
  have PA := Lib.hid (fun u hu => parse_k K u hu)
  have HAT := Lib.hid (fun k hk => K.at k hk)
  have HLE := Lib.hid (fun k => hrs_le K.v k)
  have HPL := Lib.hid (prL_len l)
  obtain ⟨N, hN⟩ : ∃ N, (prL l 7).length = N := ⟨_, rfl⟩
  rw [hN] at PA
  have HN := Lib.hid hN
  obtain ⟨T, hTT⟩ : ∃ T, (printV l).1 = T := ⟨_, rfl⟩
  rw [hTT] at hp1 hp2 PR PA
  obtain ⟨kn, hk, hk2⟩ := pick_nat pos (T.size : Int) (by omega)
  have PK := Lib.hid (fun u => pick_any pos (T.size : Int) (by omega) (by omega) hpos.1 hpos.2 u)
  rw [hk] at PK
  have hpz : ((T.size : Int) == 0) = false := by rw [beq_eq_false_iff_ne]; omega
  have HP2 := Lib.hid hp2
  have HKN := Lib.hid (show kn < T.size by omega)
  have W_0 := RW.out.cell 0; have W_1 := RW.out.cell 1; have W_2 := RW.out.cell 2; have W_3 := RW.out.cell 3; have W_4 := RW.out.cell 4; have W_5 := RW.out.cell 5; have W_6 := RW.out.cell 6
  have lW := RW.out.lt
  clear K hTT hN hk hk2 hp1 hp2 hpos
  go_wp2_with (first | (go_at_call 31; (with_reducible refine Calls.mono (PR.out _ (HT.out.next Bc.out)) ?_); rintro r u11 ⟨rfl, hb⟩; have Bc := Lib.hid (below_to Bc.out hb); have sz := Bc.out.size; have RW := Lib.hid (RW.out.below hb RW.out.lt); clear W_0 W_1 W_2 W_3 W_4 W_5 W_6 lW; have W_0 := RW.out.cell 0; have W_1 := RW.out.cell 1; have W_2 := RW.out.cell 2; have W_3 := RW.out.cell 3; have W_4 := RW.out.cell 4; have W_5 := RW.out.cell 5; have W_6 := RW.out.cell 6; have lW := RW.out.lt; clear hb) | (go_at_call 33; (with_reducible refine Calls.mono (PA.out _ (HT.out.next Bc.out)) ?_); rintro r u12 ⟨rfl, hb⟩; have Bc := Lib.hid (below_to Bc.out hb); have sz := Bc.out.size; have RW := Lib.hid (RW.out.below hb RW.out.lt); clear W_0 W_1 W_2 W_3 W_4 W_5 W_6 lW; have W_0 := RW.out.cell 0; have W_1 := RW.out.cell 1; have W_2 := RW.out.cell 2; have W_3 := RW.out.cell 3; have W_4 := RW.out.cell 4; have W_5 := RW.out.cell 5; have W_6 := RW.out.cell 6; have lW := RW.out.lt; clear hb))
  obtain ⟨V1, hV1⟩ : ∃ V1, u12.alloc (.cells #[.int .i64 y0, .int .i64 y1, .int .i64 y2, .int .i64 y3, .int .i64 y4, .int .i64 y5, .int .i64 y6] 23) = V1 := ⟨_, rfl⟩
  have RW1 := Lib.hid (show Row V1 u2.heap.size 23 #[.int .i64 y0, .int .i64 y1, .int .i64 y2, .int .i64 y3, .int .i64 y4, .int .i64 y5, .int .i64 y6] by rw [← hV1]; exact RW.out.alloc _)
  have BW1 := Lib.hid (show Below w.heap.size w V1 by rw [← hV1]; exact Bc.out.alloc Bc.out.size _)
  rw [hV1]
  clear hV1 W_0 W_1 W_2 W_3 W_4 W_5 W_6 lW
  have hcv0 : ∀ w, Sem.run Tryd.prog (Go.convert 9 48 (.string T)) w = .ok (.slice (some ⟨w.heap.size, 0, none⟩) T.size (grownCap w T.size 0 5)) (w.drew.alloc (.cells (bytesRow T (grownCap w T.size 0 5)) 5 ((bytesRow T (grownCap w T.size 0 5)).size, (bytesRow T (grownCap w T.size 0 5)).size + 1))) := fun w => run_bytes_of_string w 9 48 5 T Tryd.underlying9 Tryd.underlying48 Tryd.underlying5
  obtain ⟨gc, hgc⟩ : ∃ gc : World → Nat, (fun w => grownCap w T.size 0 5) = gc := ⟨_, rfl⟩
  replace hcv0 : ∀ w, Sem.run Tryd.prog (Go.convert 9 48 (.string T)) w = .ok (.slice (some ⟨w.heap.size, 0, none⟩) T.size (gc w)) (w.drew.alloc (.cells (bytesRow T (gc w)) 5 ((bytesRow T (gc w)).size, (bytesRow T (gc w)).size + 1))) := fun w => by rw [← hgc]; exact hcv0 w
  have HCV := Lib.hid hcv0
  clear hgc hcv0
  go_loopw [16, 17] (fun m i wr => ∃ k : Nat, k ≤ 7 ∧ i = .int .i64 (k : Int) ∧ m = .int .i64 (((prL l k).length : Nat) : Int) ∧ Hid (Row wr u2.heap.size 23 #[.int .i64 y0, .int .i64 y1, .int .i64 y2, .int .i64 y3, .int .i64 y4, .int .i64 y5, .int .i64 y6]) ∧ Hid (Below w.heap.size w wr)) (fun _ i _ => 7 - (intOf i).toNat)
  case atStart => exact ⟨0, by omega, rfl, rfl, RW1, BW1⟩
  case round =>
    obtain ⟨k, hk, rfl, rfl, HR, HB⟩ := hrel
    by_cases hlt : k < 7
    · have i1 : (0 : Int) ≤ (k : Int) := by omega
      have i2 : (k : Int) < 7 := by omega
      have hml := HPL.out k
      obtain ⟨M, hM⟩ : ∃ M, (prL l k).length = M := ⟨_, rfl⟩
      rw [hM] at hml ⊢
      have HM := Lib.hid hM
      clear hM
      go_wp2
      go_loopw [18, 19] (fun b j wx => ∃ m : Nat, m ≤ k ∧ j = .int .i64 (m : Int) ∧ b = .bool (anyB l m k) ∧ Hid (Row wx u2.heap.size 23 #[.int .i64 y0, .int .i64 y1, .int .i64 y2, .int .i64 y3, .int .i64 y4, .int .i64 y5, .int .i64 y6]) ∧ Hid (Below w.heap.size w wx)) (fun _ j _ => k - (intOf j).toNat)
      case atStart => exact ⟨0, by omega, rfl, rfl, HR, HB⟩
      case round =>
        clear HR HB
        obtain ⟨m, hm, rfl, rfl, HR, HB⟩ := hrel
        have c2 := (HR.out.cell k).trans (HAT.out k hlt)
        have lW := HR.out.lt
        by_cases hmk : m < k
        · have c1 := (HR.out.cell m).trans (HAT.out m (by omega))
          have hst := Lib.hid (anyB_step l m k)
          have j1 : (0 : Int) ≤ (m : Int) := by omega
          have j2 : (m : Int) < 7 := by omega
          have j3 : (m : Int) < (k : Int) := by omega
          obtain ⟨A, hA⟩ : ∃ A, hrs l m = A := ⟨_, rfl⟩
          obtain ⟨B, hB⟩ : ∃ B, hrs l k = B := ⟨_, rfl⟩
          obtain ⟨fb, hfb⟩ : ∃ fb, anyB l m k = fb := ⟨_, rfl⟩
          rw [hA] at c1 hst
          rw [hB] at c2 hst
          rw [hfb] at hst ⊢
          clear hA hB hfb
          by_cases hAB : A = B
          · subst hAB
            cases fb
            all_goals go_wp2
            all_goals go_quiet (fail)
            all_goals go_wp2
            all_goals go_roundw
            all_goals first | (case rel => exact ⟨m + 1, by omega, by go_num, by rw [hst.out]; simp, Lib.hid (HR.out.drewN _), Lib.hid (belowN HB.out _)⟩) | skip
            all_goals first | (case measure => simp [intOf]; omega) | skip
          · have e1 : ((A : Int) == (B : Int)) = false := by rw [beq_eq_false_iff_ne]; omega
            have e2 : (A == B) = false := by rw [beq_eq_false_iff_ne]; omega
            have HE := Lib.hid e2
            cases fb
            all_goals go_wp2
            all_goals go_quiet (fail)
            all_goals clear e1 e2
            all_goals go_wp2
            all_goals go_roundw
            all_goals first | (case rel => exact ⟨m + 1, by omega, by go_num, by rw [hst.out, HE.out]; simp, Lib.hid (HR.out.drewN _), Lib.hid (belowN HB.out _)⟩) | skip
            all_goals first | (case measure => simp [intOf]; omega) | skip
        · have hmk' : m = k := by omega
          subst hmk'
          obtain ⟨B, hB⟩ : ∃ B, hrs l m = B := ⟨_, rfl⟩
          obtain ⟨fb, hfb⟩ : ∃ fb, anyB l m m = fb := ⟨_, rfl⟩
          have HBB := Lib.hid hB; have HFB := Lib.hid hfb
          rw [hB] at c2
          rw [hfb]
          clear hB hfb
          by_cases hB0 : B = 0
          · subst hB0
            have HO := Lib.hid (many_old (l := l) (k := m) (fun h => h.1 HBB.out))
            go_wp2
            go_roundw
            case rel => exact ⟨m + 1, by omega, by go_num, by rw [HO.out, HM.out], HR, HB⟩
            case measure => simp [intOf]; omega
          · have e1 : ((B : Int) == 0) = false := by rw [beq_eq_false_iff_ne]; omega
            have e2 : ¬ (B : Int) = 0 := by omega
            cases fb with
            | true =>
              have HO := Lib.hid (many_old (l := l) (k := m) (fun h => by rw [HFB.out] at h; exact absurd h.2 (by simp)))
              go_wp2
              go_roundw
              case rel => exact ⟨m + 1, by omega, by go_num, by rw [HO.out, HM.out], HR, HB⟩
              case measure => simp [intOf]; omega
            | false =>
              have HO := Lib.hid (many_new (l := l) (k := m) (by rw [HBB.out]; exact hB0) HFB.out)
              go_wp2
              go_roundw
              case rel => exact ⟨m + 1, by omega, by go_num, by rw [HO.out, HM.out]; go_num, HR, HB⟩
              case measure => simp [intOf]; omega
    · have hk7 : k = 7 := by omega
      subst hk7
      rw [HN.out]
      have hkn := HKN.out
      have j1 : (0 : Int) ≤ (kn : Int) := by omega
      have j2 : (kn : Int) < (T.size : Int) := by omega
      have hcv0 := HCV.out
      clear hkn
      go_upto_region 24 with (go_at_call 14; (with_reducible refine Calls.mono (PK.out _) ?_); rintro r u' ⟨rfl, rfl⟩)
      have hR0 := RowB.made wr T (gc wr)
      obtain ⟨Vc, hVc⟩ : ∃ Vc, wr.alloc (.cells (bytesRow T (gc wr)) 5 ((bytesRow T (gc wr)).size, (bytesRow T (gc wr)).size + 1)) = Vc := ⟨_, rfl⟩
      replace hR0 : RowB Vc wr.heap.size T.data.toList := by rw [← hVc]; exact hR0
      have BV := Lib.hid (show Below w.heap.size w Vc by rw [← hVc]; exact HB.out.alloc HB.out.size _)
      have lB : wr.heap.size < Vc.heap.size := by rw [← hVc]; simp
      have hwB := HB.out.size
      rw [hVc]
      have hTl : T.data.toList.length = T.size := by simp
      obtain ⟨c0, f0⟩ := hR0 kn (by rw [hTl]; exact HKN.out)
      obtain ⟨d, rfl⟩ : ∃ d : Nat, cc = (d : Int) := ⟨cc.toNat, by omega⟩
      have hd : ((UInt8.ofNat d).toNat : Int) = (d : Int) := by
        rw [UInt8.toNat_ofNat']; omega
      have HRB := Lib.hid hR0; have HTL := Lib.hid hTl; have HD := Lib.hid hd
      obtain ⟨gk, hgk⟩ : ∃ gk, gc wr = gk := ⟨_, rfl⟩
      obtain ⟨BB, hBB⟩ : ∃ BB, wr.heap.size = BB := ⟨_, rfl⟩
      rw [hBB] at c0 f0 lB hwB HRB
      first | rw [hBB, hgk] | rw [hgk, hBB]
      clear hR0 hTl hd hVc hgk hcc hBB
      go_upto_region 25 with (fail)
      obtain ⟨Vd, hVd⟩ : ∃ Vd, (Vc.setCell ⟨BB, kn, none⟩ (.int .u8 (d : Int))).drew = Vd := ⟨_, rfl⟩
      have HRD : Hid (RowB Vd BB (T.data.toList.set kn (UInt8.ofNat d))) := Lib.hid (by
        have h := HRB.out.set (k := kn) (b := UInt8.ofNat d) (by rw [HTL.out]; exact HKN.out)
        rw [HD.out] at h
        rw [← hVd]; exact h)
      have HBD : Hid (Below w.heap.size w Vd) := Lib.hid (by rw [← hVd]; exact (BV.out.setCell (by dsimp only; omega) _).drew)
      rw [hVd]
      clear hVd c0 f0 lB
      have hkn := HKN.out; have hp2 := HP2.out
      obtain ⟨A1, hA1⟩ : ∃ A1, T.extract 0 kn = A1 := ⟨_, rfl⟩
      obtain ⟨B1, hB1⟩ : ∃ B1, T.extract (kn + 1) T.size = B1 := ⟨_, rfl⟩
      have zA : A1.size ≤ 100000 := by rw [← hA1, ByteArray.size_extract]; omega
      have zB : B1.size ≤ 100000 := by rw [← hB1, ByteArray.size_extract]; omega
      obtain ⟨M1, hM1⟩ : ∃ M1 : ByteArray, (⟨(T.data.toList.set kn (UInt8.ofNat d)).toArray⟩ : ByteArray) = M1 := ⟨_, rfl⟩
      have z1 : M1.size ≤ 100000 := by
        rw [← hM1]; show (List.toArray _).size ≤ _
        rw [List.size_toArray, List.length_set, HTL.out]; exact hp2
      have T1 := Lib.hid (txt_ok M1 (by omega))
      have T2 := Lib.hid (txt_ok (A1 ++ B1) (by rw [ByteArray.size_append]; omega))
      have T3 := Lib.hid (txt_ok A1 (by omega))
      go_cut [121, 122, 123] (fun sb sn si wx => ∃ g', sb = .slice (some ⟨g', 0, none⟩) 4 4 ∧ sn = .int .i64 4 ∧ si = .int .i64 0 ∧ Hid (Row wx g' 9 #[.string CU, .string M1, .string (A1 ++ B1), .string A1]) ∧ Hid (Below w.heap.size w wx))
      case first =>
        have hmn := KM.out; have hs1 := KS.out
        have hs2 : ∀ w : World, (Instr.slice 9 (.string T) none (some (.int .i64 (kn : Int))) none).run Tryd.prog w = .ok (.string A1) w := fun w => by
          rw [run_slice_string_h (P := Tryd.prog) w 9 T Tryd.underlying9 .i64 (kn : Int) (by omega) (by omega), Int.toNat_natCast, hA1]
        have hs3 : ∀ w : World, (Instr.slice 9 (.string T) (some (.int .i64 ((kn : Int) + 1))) none none).run Tryd.prog w = .ok (.string B1) w := fun w => by
          rw [run_slice_string_l (P := Tryd.prog) w 9 T Tryd.underlying9 .i64 ((kn : Int) + 1) (by omega) (by omega), show ((kn : Int) + 1).toNat = kn + 1 from by omega, hB1]
        have sw : IntKind.i64.wrap ((kn : Int) + 1) = (kn : Int) + 1 := IntWalk.i64_in _ (by omega)
        have k1 : ¬ (A1.size + B1.size > 9223372036854775807) := by omega
        have k2 : ¬ (9223372036854775807 < A1.size + B1.size) := by omega
        have hcv : Sem.run Tryd.prog (Go.convert 48 9 (.slice (some ⟨BB, 0, none⟩) T.size gk)) Vd.drew = .ok (.string M1) Vd.drew := by
          rw [← hM1]
          exact RowB.string (w := Vd.drew) (B := BB) HRD.out gk T.size (by rw [List.length_set, HTL.out])
        have HB3 := Lib.hid ((HBD.out.drew.alloc HBD.out.size (.cells #[.string CU, .string M1, .string (A1 ++ B1), .string A1] 9)))
        have HR3 : Hid (Row (Vd.drew.alloc (.cells #[.string CU, .string M1, .string (A1 ++ B1), .string A1] 9)) Vd.heap.size 9 #[.string CU, .string M1, .string (A1 ++ B1), .string A1]) := Lib.hid (Row.new Vd.drew _ _)
        clear hkn hp2 zA zB z1 hA1 hB1 hM1
        go_region
        all_goals go_wp2_with fail
        all_goals go_meet
        all_goals exact ⟨_, rfl, rfl, rfl, HR3, HB3⟩
      case rest =>
        obtain ⟨g', rfl, rfl, rfl, HR6, HB6⟩ := hcut
        go_wp2_with fail
        go_loopw [123] (fun i wr => ∃ k : Nat, k ≤ 4 ∧ i = .int .i64 (k : Int) ∧ Hid (Row wr g' 9 #[.string CU, .string M1, .string (A1 ++ B1), .string A1]) ∧ Hid (Below w.heap.size w wr)) (fun i _ => 4 - (intOf i).toNat)
        case atStart => exact ⟨0, by omega, by go_num, HR6, HB6⟩
        case round =>
          clear HR6 HB6
          obtain ⟨k, hk, rfl, HR, HB⟩ := hrel
          by_cases hlt : k < 4
          · obtain ⟨U, d0, HA⟩ : ∃ U, wr.cell? ⟨g', k, none⟩ = some (.string U) ∧ TxtP U := by
              rw [HR.out.cell]
              rcases (by omega : k = 0 ∨ k = 1 ∨ k = 2 ∨ k = 3) with rfl | rfl | rfl | rfl
              · exact ⟨_, rfl, TC.out⟩
              · exact ⟨_, rfl, T1.out⟩
              · exact ⟨_, rfl, T2.out⟩
              · exact ⟨_, rfl, T3.out⟩
            obtain ⟨z0, z1, z2, z3, z4, z5, z6, n, er, B, p1, p2, hv⟩ := HA
            have PA := Lib.hid p1; have PB := Lib.hid p2
            have lg := HR.out.lt
            have q1 : (0 : Int) ≤ (k : Int) := by omega
            have q2 : (k : Int) < 4 := by omega
            clear p1 p2
            rcases hv with ⟨rfl, rfl⟩ | ⟨rfl, rfl, rfl, rfl, rfl, rfl, rfl, rfl⟩
            · go_wp2_with (first | (go_at_call 33; (with_reducible refine Calls.mono (PA.out _ (HT.out.next HB.out)) ?_); rintro r u21 ⟨rfl, hb⟩; have Bc := Lib.hid (below_to HB.out hb); have sz := Bc.out.size; have RG := Lib.hid (HR.out.below hb HR.out.lt); clear hb) | (go_at_call 31; (with_reducible refine Calls.mono (PB.out _ (HT.out.next (Bc.out.alloc Bc.out.size _))) ?_); rintro r u22 ⟨rfl, hb⟩; have Bc := Lib.hid (below_to (Bc.out.alloc Bc.out.size _) hb); have sz := Bc.out.size; have RA := Lib.hid ((Row.new u21 23 #[.int .i64 z0, .int .i64 z1, .int .i64 z2, .int .i64 z3, .int .i64 z4, .int .i64 z5, .int .i64 z6]).below hb (Row.new u21 23 #[.int .i64 z0, .int .i64 z1, .int .i64 z2, .int .i64 z3, .int .i64 z4, .int .i64 z5, .int .i64 z6]).lt); have A_0 := RA.out.cell 0; have A_1 := RA.out.cell 1; have A_2 := RA.out.cell 2; have A_3 := RA.out.cell 3; have A_4 := RA.out.cell 4; have A_5 := RA.out.cell 5; have A_6 := RA.out.cell 6; have lA := RA.out.lt; have RG := Lib.hid ((RG.out.alloc _).below hb (RG.out.alloc _).lt); clear hb))
              go_roundw
              case rel => exact ⟨k + 1, by omega, by go_num, RG, Bc⟩
              case measure => simp [intOf]; omega
            · go_wp2_with (first | (go_at_call 33; (with_reducible refine Calls.mono (PA.out _ (HT.out.next HB.out)) ?_); rintro r u21 ⟨rfl, hb⟩; have Bc := Lib.hid (below_to HB.out hb); have sz := Bc.out.size; have RG := Lib.hid (HR.out.below hb HR.out.lt); clear hb) | (go_at_call 31; (with_reducible refine Calls.mono (PB.out _ (HT.out.next (Bc.out.alloc Bc.out.size _))) ?_); rintro r u22 ⟨rfl, hb⟩; have Bc := Lib.hid (below_to (Bc.out.alloc Bc.out.size _) hb); have sz := Bc.out.size; have RA := Lib.hid ((Row.new u21 23 #[.int .i64 0, .int .i64 0, .int .i64 0, .int .i64 0, .int .i64 0, .int .i64 0, .int .i64 0]).below hb (Row.new u21 23 #[.int .i64 0, .int .i64 0, .int .i64 0, .int .i64 0, .int .i64 0, .int .i64 0, .int .i64 0]).lt); have A_0 := RA.out.cell 0; have A_1 := RA.out.cell 1; have A_2 := RA.out.cell 2; have A_3 := RA.out.cell 3; have A_4 := RA.out.cell 4; have A_5 := RA.out.cell 5; have A_6 := RA.out.cell 6; have lA := RA.out.lt; have RG := Lib.hid ((RG.out.alloc _).below hb (RG.out.alloc _).lt); clear hb))
              go_roundw
              case rel => exact ⟨k + 1, by omega, by go_num, RG, Bc⟩
              case measure => simp [intOf]; omega
          · obtain rfl : k = 4 := by omega
            go_wp2_with fail
            go_ret
            exact ⟨rfl, HB.out⟩
theorem texts_walk2 (x0 x1 x2 x3 x4 x5 x6 : Int) (s : ByteArray) (pos cc : Int) (hx : ∀ x ∈ [x0, x1, x2, x3, x4, x5, x6], -9223372036854775808 ≤ x ∧ x ≤ 9223372036854775807) (hpos : I64 pos) (hcc : 0 ≤ cc ∧ cc ≤ 255) (w : World) (hT : Tabs w) : Calls Tryd.prog 4 #[.agg #[.int .i64 x0, .int .i64 x1, .int .i64 x2, .int .i64 x3, .int .i64 x4, .int .i64 x5, .int .i64 x6], .string s, .int .i64 pos, .int .u8 cc] w fun e w' => e = .returned (.bool true) ∧ Below w.heap.size w w' :=
  texts_walk x0 x1 x2 x3 x4 x5 x6 pos cc s hx hpos hcc w hT
end Go.Proofs.YthahadhckdnjiaaDoor
