/- EqualDivides. -/
import Derived.Test.YtinhjobjlpkflaaFj
import Derived.Deep.CutBlock
namespace Go.Proofs.Ytinhjobjlpkflaa
open Go.RowKit Go.Shelf
attribute [local go_sem ↓] append_appN

set_option maxRecDepth 100000 in
set_option maxHeartbeats 16000000 in
theorem divides_true (x0 : Int) (v1 : Value) (xs : List I4) (x2 x3 : Int) (w : World) (h0 : -9223372036854775808 ≤ x0 ∧ x0 ≤ 9223372036854775807) (hr1 : Recs enc4 4 w w.heap.size v1 xs) (hx : ∀ x ∈ xs, OkI4 x) (h2 : -9223372036854775808 ≤ x2 ∧ x2 ≤ 9223372036854775807) (h3 : -9223372036854775808 ≤ x3 ∧ x3 ≤ 9223372036854775807) :
    Calls Try.prog 9 #[.int .i64 x0, v1, .int .i64 x2, .int .i64 x3] w fun e w' => e = .returned (.bool true) ∧ Below w.heap.size w w' := by
  obtain ⟨A1, c1, rfl, -⟩ := recs_form hr1
  obtain ⟨L, hL⟩ : ∃ L, madeA x0 xs = L := ⟨_, rfl⟩
  have HM := Lib.hid (fun u (h : Below w.heap.size w u) => made_at2 x0 h0 xs hx hL A1 _ c1 u (hr1.next h))
  have hva := made_valid x0 xs
  have hml := made_len x0 xs
  have hat : ∀ x ∈ L, 1 ≤ x.at_ ∧ x.at_ ≤ 1728000 ∧ x.secs ≤ 30 := fun x hx => by
    rw [← hL] at hx
    have := made_at x0 xs hx
    omega
  obtain ⟨m, hm, m2, m5⟩ := count_nat x0
  rw [hL] at hml
  rw [hL, hm] at hva
  have HCT := Lib.hid (fun u => count_any x0 h0.1 h0.2 u)
  rw [hm] at HCT
  have hll : L.length ≤ 20 := hml.1
  have l9 : L.length ≤ 9223372036854775807 := by omega
  have HVA := Lib.hid hva
  have HAT := Lib.hid hat
  have HNB := Lib.hid (show nowB 10000000 = true by decide)
  have m0 : ((m : Int) == (m : Int)) = true := by simp
  have HX2 := Lib.hid h2
  have HX3 := Lib.hid h3
  have HTL0 := Lib.hid (levels (now := 10000000) m2 (by omega) (validA_parts hva).2.2.2).1
  clear hr1 hx h0 h2 h3 hL hm hml hat
  by_cases hz : L.length = 0
  · have z0 : ((L.length : Int) == 0) = true := by rw [hz]; rfl
    have z1 : (L.length : Int) = 0 := by rw [hz]; rfl
    clear hz hva
    go_enter Try.func9, Try.ntmps9
    go_wp2_with (first | (go_at_call 10; (with_reducible refine Calls.mono (sane_any _) ?_); rintro r u1 ⟨rfl, hb⟩; have B1 := Lib.hid hb; clear hb) | (go_at_call 11; (with_reducible refine Calls.mono (HM.out _ B1.out) ?_); rintro r u2 ⟨A2, c2, rfl, ho, hr2, hb⟩; have B2 := Lib.hid (below_to B1.out hb); have HL2 := Lib.hid hr2; clear hr2 ho; clear hb) | (go_at_call 12; (first | (with_reducible refine Calls.mono (HCT.out _) ?_)); rintro r y1 ⟨rfl, rfl⟩))
    go_ret
    exact ⟨rfl, B2.out⟩
  have z0 : ((L.length : Int) == 0) = false := by rw [beq_eq_false_iff_ne]; omega
  have z1 : ¬ (L.length : Int) = 0 := by omega
  have P1 := Lib.hid (fun u => pick_any x2 (L.length : Int) (by omega) (by omega) HX2.out.1 HX2.out.2 u)
  have b1 := pickI_lt x2 (L.length : Int) (by omega)
  obtain ⟨v, hv⟩ : ∃ v : Nat, pickI x2 (L.length : Int) = (v : Int) := ⟨(pickI x2 (L.length : Int)).toNat, by omega⟩
  rw [hv] at P1 b1
  have hdv := divides (n := m) v x3 hva hll (fun x hx => by have := HAT.out x hx; omega)
  have HDV := Lib.hid (fun k (hk : k ≤ L.length) => dv_ok (n := m) v x3 (validA_parts hva).2.2.2 (fun x hx => by have := HAT.out x hx; omega) k hk)
  obtain ⟨q1, q2, q3⟩ := hdv
  obtain ⟨O, hO⟩ : ∃ O, owV m L 10000000 = O := ⟨_, rfl⟩
  obtain ⟨T, hT⟩ : ∃ T, totV m L 10000000 = T := ⟨_, rfl⟩
  rw [hO] at q2
  rw [hT] at q3 HTL0
  have HO0 := Lib.hid hO; have HT0 := Lib.hid hT; have HTL := HTL0
  have HVD0 := Lib.hid q1; have HO10 := Lib.hid q2.symm; have HT10 := Lib.hid q3.symm
  have v0 : (0 : Int) ≤ (v : Int) := by omega
  clear hv b1 q1 q2 q3 hO hT hva hz
  go_enter Try.func9, Try.ntmps9
  go_wp2_with (first | (go_at_call 10; (with_reducible refine Calls.mono (sane_any _) ?_); rintro r u1 ⟨rfl, hb⟩; have B1 := Lib.hid hb; clear hb) | (go_at_call 11; (with_reducible refine Calls.mono (HM.out _ B1.out) ?_); rintro r u2 ⟨A2, c2, rfl, ho, hr2, hb⟩; have B2 := Lib.hid (below_to B1.out hb); have HL2 := Lib.hid hr2; clear hr2 ho; clear hb) | (go_at_call 12; (first | (with_reducible refine Calls.mono (HCT.out _) ?_)); rintro r y1 ⟨rfl, rfl⟩) | (go_at_call 13; (first | (with_reducible refine Calls.mono (P1.out _) ?_)); rintro r y1 ⟨rfl, rfl⟩))
  go_loopw [13, 14] (fun o z wr => ∃ (k : Nat) (D : List Ap), z = .int .i64 (k : Int) ∧ k ≤ L.length ∧ D = divK L v x3 k ∧ Hid (GatP u2 D o wr)) (fun _ z _ => L.length - (intOf z).toNat)
  case atStart => exact ⟨0, [], rfl, Nat.zero_le _, rfl, Lib.hid ⟨World.ownsRow_nil _ _ _ _, Below.refl _ _⟩⟩
  case round =>
    obtain ⟨k, D, rfl, hk, hDe, HG⟩ := hrel
    have HDE := Lib.hid hDe
    clear hDe
    have k0 : (0 : Int) ≤ (k : Int) := by omega
    have e7 : IntKind.i64.wrap ((k : Int) + 1) = (k : Int) + 1 := IntWalk.i64_in _ (by omega)
    obtain ⟨A5, c5, rfl, -⟩ := own_slice HG.out.own
    have HDL := Lib.hid (show D.length ≤ k + 1 by rw [HDE.out]; have := (HDV.out k hk).len; split at this <;> omega)
    by_cases hlt : k < L.length
    · have k1 : (k : Int) < (L.length : Int) := by omega
      obtain ⟨q, hq⟩ : ∃ q, L[k]? = some q := ⟨_, List.getElem?_eq_getElem hlt⟩
      have hqa := HAT.out q (List.mem_of_getElem? hq)
      have hqk := okAp_parts (aps_at (validA_parts HVA.out).2.2.2 hq)
      obtain ⟨b, o, rfl, hgb, hcell⟩ := recs_at HL2.out k hlt
      have hbw := HG.out.b
      have a0 : wr.cell? ⟨b, o + k * 4, none⟩ = some (.int .i64 q.cand) := (hbw.cell hgb).trans (hcell k q hq 0 _ rfl)
      have a1 : wr.cell? ⟨b, o + k * 4 + 1, none⟩ = some (.int .i64 q.at_) := (hbw.cell hgb).trans (hcell k q hq 1 _ rfl)
      have a2 : wr.cell? ⟨b, o + k * 4 + 2, none⟩ = some (.int .i64 q.secs) := (hbw.cell hgb).trans (hcell k q hq 2 _ rfl)
      have a3 : wr.cell? ⟨b, o + k * 4 + 3, none⟩ = some (.int .i64 q.weight) := (hbw.cell hgb).trans (hcell k q hq 3 _ rfl)
      have lw := hbw.size
      have g9 : b < wr.heap.size := by omega
      have HDS0 := Lib.hid (show divK L v x3 (k + 1) = D ++ div1 v x3 k q by rw [HDE.out]; exact divK_succ hq)
      obtain ⟨z0, z1, z2, z3⟩ := q
      dsimp only at a0 a1 a2 a3 hqa hqk
      obtain ⟨hqa1, hqa2, hqa3⟩ := hqa
      have hs1 : 1 ≤ z2 := by omega
      obtain ⟨W1, hW1⟩ : ∃ W1, (wr.alloc (.cells #[.int .i64 z0, .int .i64 (2 * z1), .int .i64 z2, .int .i64 z3] 49)) = W1 := ⟨_, rfl⟩
      obtain ⟨gB, hgB⟩ : ∃ gB, wr.heap.size = gB := ⟨_, rfl⟩
      have hb1 : Below wr.heap.size wr W1 := by rw [← hW1]; exact (Below.refl _ wr).alloc (Nat.le_refl _) _
      have RB1 := Lib.hid (show Row W1 gB 49 #[.int .i64 z0, .int .i64 (2 * z1), .int .i64 z2, .int .i64 z3] by rw [← hW1, ← hgB]; exact Row.new _ _ _)
      have HG1 := Lib.hid (HG.out.next hb1)
      have HN1 := Lib.hid (show (Value.slice A5 D.length c5).ownBlock ≠ some gB from fun e => by have := own_lt HG.out.own gB e; omega)
      have HGB := Lib.hid (show u2.heap.size ≤ gB by omega)
      have HW1 := Lib.hid hW1
      have HLD := Lib.hid (show D.length ≤ 100000 by have := HDL.out; omega)
      have HLD2 := Lib.hid (show D.length ≤ 1000 by have := HDL.out; omega)
      have e8 : IntKind.i64.wrap (2 * z1) = 2 * z1 := IntWalk.i64_in _ (by omega)
      have e9 : IntKind.i64.wrap (2 * z1 + 1) = 2 * z1 + 1 := IntWalk.i64_in _ (by omega)
      clear hq hcell hqk lw hbw hb1 hW1
      go_upto_region 15 with fail
      rw [HW1.out]
      clear a0 a1 a2 a3
      by_cases hkv : k = v
      · have y1 : ((k : Int) == (v : Int)) = true := by simp [hkv]
        by_cases hs : 1 < z2
        · have HPC := Lib.hid (fun u => pick_any x3 (z2 - 1) (by omega) (by omega) HX3.out.1 HX3.out.2 u)
          have bc := pickI_lt x3 (z2 - 1) (by omega)
          obtain ⟨s, hse⟩ : ∃ s, 1 + pickI x3 (z2 - 1) = s := ⟨_, rfl⟩
          have HDS := Lib.hid (show divK L v x3 (k + 1) = D ++ [⟨z0, 2 * z1, s, z3⟩, ⟨z0, 2 * z1 + 1, z2 - s, z3⟩] by rw [HDS0.out]; unfold div1; rw [if_pos ⟨hkv, hs⟩]; unfold cutS; dsimp only; rw [hse])
          have e10 : IntKind.i64.wrap (z2 - 1) = z2 - 1 := IntWalk.i64_in _ (by omega)
          have e11 : IntKind.i64.wrap (1 + pickI x3 (z2 - 1)) = s := by rw [hse]; exact IntWalk.i64_in _ (by omega)
          have e12 : IntKind.i64.wrap (z2 - s) = z2 - s := IntWalk.i64_in _ (by omega)
          clear hkv HDS0 bc hse
          obtain ⟨A6, c6, w6, hrun, hG6, hR6, hn6⟩ := HG1.out.pushB HLD.out ⟨z0, 2 * z1, s, z3⟩ (cs := #[.int .i64 z0, .int .i64 (2 * z1), .int .i64 s, .int .i64 z3]) rfl RB1.out HN1.out
          obtain ⟨W7, hW7⟩ : ∃ W7, ((w6.setCell ⟨gB, 1, none⟩ (.int .i64 (2 * z1 + 1))).setCell ⟨gB, 2, none⟩ (.int .i64 (z2 - s))) = W7 := ⟨_, rfl⟩
          have hR7 : Row W7 gB 49 #[.int .i64 z0, .int .i64 (2 * z1 + 1), .int .i64 (z2 - s), .int .i64 z3] := by rw [← hW7]; simpa using (hR6.put 1 (.int .i64 (2 * z1 + 1))).put 2 (.int .i64 (z2 - s))
          have hG7 : GatP u2 (D ++ [⟨z0, 2 * z1, s, z3⟩]) (.slice A6 (D.length + 1) c6) W7 := by rw [← hW7]; exact (hG6.setB hn6 HGB.out _ _).setB hn6 HGB.out _ _
          obtain ⟨A8, c8, w8, hrun8, hG8, hR8, hn8⟩ := hG7.pushB (by have := HLD2.out; simp; omega) ⟨z0, 2 * z1 + 1, z2 - s, z3⟩ (cs := #[.int .i64 z0, .int .i64 (2 * z1 + 1), .int .i64 (z2 - s), .int .i64 z3]) rfl hR7 hn6
          simp only [List.length_append, List.length_singleton, List.append_assoc, List.singleton_append] at hrun8 hG8
          have HG8 := Lib.hid hG8
          have RB6 := Lib.hid hR6
          have RB7 := Lib.hid hR7
          have HW7 := Lib.hid hW7
          clear hG6 hR6 hn6 hG7 hR7 hG8 hR8 hn8 hW7
          have rb0 := RB1.out.cell 0
          have rb1 := RB1.out.cell 1
          have rb2 := RB1.out.cell 2
          have rb3 := RB1.out.cell 3
          simp only [List.getElem?_toArray, List.getElem?_cons_zero, List.getElem?_cons_succ] at rb0 rb1 rb2 rb3
          have frb0 := RB1.out.free 0
          have frb1 := RB1.out.free 1
          have frb2 := RB1.out.free 2
          have frb3 := RB1.out.free 3
          have lrb := RB1.out.lt
          go_upto_region 18 with (go_at_call 13; (with_reducible refine Calls.mono (HPC.out _) ?_); rintro r y1 ⟨rfl, rfl⟩)
          clear rb0 frb0 rb1 frb1 rb2 frb2 rb3 frb3 lrb
          have rc0 := RB6.out.cell 0
          have rc1 := RB6.out.cell 1
          have rc2 := RB6.out.cell 2
          have rc3 := RB6.out.cell 3
          simp only [List.getElem?_toArray, List.getElem?_cons_zero, List.getElem?_cons_succ] at rc0 rc1 rc2 rc3
          have frc0 := RB6.out.free 0
          have frc1 := RB6.out.free 1
          have frc2 := RB6.out.free 2
          have frc3 := RB6.out.free 3
          have lrc := RB6.out.lt
          go_upto_region 20 with fail
          rw [HW7.out]
          clear rc0 frc0 rc1 frc1 rc2 frc2 rc3 frc3 lrc
          have rd0 := RB7.out.cell 0
          have rd1 := RB7.out.cell 1
          have rd2 := RB7.out.cell 2
          have rd3 := RB7.out.cell 3
          simp only [List.getElem?_toArray, List.getElem?_cons_zero, List.getElem?_cons_succ] at rd0 rd1 rd2 rd3
          have frd0 := RB7.out.free 0
          have frd1 := RB7.out.free 1
          have frd2 := RB7.out.free 2
          have frd3 := RB7.out.free 3
          have lrd := RB7.out.lt
          go_wp2
          go_roundw
          case rel => exact ⟨k + 1, _, by go_num, by omega, HDS.out.symm, HG8⟩
          case measure => simp [intOf]; omega
        · have HDS := Lib.hid (show divK L v x3 (k + 1) = D ++ [⟨z0, 2 * z1, z2, z3⟩] by rw [HDS0.out]; unfold div1; rw [if_neg (fun h => hs h.2)])
          clear hkv HDS0
          obtain ⟨A6, c6, w6, hrun, hG6, hR6, hn6⟩ := HG1.out.pushB HLD.out ⟨z0, 2 * z1, z2, z3⟩ (cs := #[.int .i64 z0, .int .i64 (2 * z1), .int .i64 z2, .int .i64 z3]) rfl RB1.out HN1.out
          have HG6 := Lib.hid hG6
          clear hG6 hR6 hn6
          have rb0 := RB1.out.cell 0
          have rb1 := RB1.out.cell 1
          have rb2 := RB1.out.cell 2
          have rb3 := RB1.out.cell 3
          simp only [List.getElem?_toArray, List.getElem?_cons_zero, List.getElem?_cons_succ] at rb0 rb1 rb2 rb3
          have frb0 := RB1.out.free 0
          have frb1 := RB1.out.free 1
          have frb2 := RB1.out.free 2
          have frb3 := RB1.out.free 3
          have lrb := RB1.out.lt
          go_wp2
          go_roundw
          case rel => exact ⟨k + 1, _, by go_num, by omega, HDS.out.symm, HG6⟩
          case measure => simp [intOf]; omega
      · have y1 : ((k : Int) == (v : Int)) = false := by rw [beq_eq_false_iff_ne]; omega
        have y2 : ¬ (k : Int) = (v : Int) := by omega
        have HDS := Lib.hid (show divK L v x3 (k + 1) = D ++ [⟨z0, 2 * z1, z2, z3⟩] by rw [HDS0.out]; unfold div1; rw [if_neg (fun h => hkv h.1)])
        clear hkv HDS0
        obtain ⟨A6, c6, w6, hrun, hG6, hR6, hn6⟩ := HG1.out.pushB HLD.out ⟨z0, 2 * z1, z2, z3⟩ (cs := #[.int .i64 z0, .int .i64 (2 * z1), .int .i64 z2, .int .i64 z3]) rfl RB1.out HN1.out
        have HG6 := Lib.hid hG6
        clear hG6 hR6 hn6
        have rb0 := RB1.out.cell 0
        have rb1 := RB1.out.cell 1
        have rb2 := RB1.out.cell 2
        have rb3 := RB1.out.cell 3
        simp only [List.getElem?_toArray, List.getElem?_cons_zero, List.getElem?_cons_succ] at rb0 rb1 rb2 rb3
        have frb0 := RB1.out.free 0
        have frb1 := RB1.out.free 1
        have frb2 := RB1.out.free 2
        have frb3 := RB1.out.free 3
        have lrb := RB1.out.lt
        go_wp2
        go_roundw
        case rel => exact ⟨k + 1, _, by go_num, by omega, HDS.out.symm, HG6⟩
        case measure => simp [intOf]; omega
    · have k1 : ¬ (k : Int) < (L.length : Int) := by omega
      have hDE : D = divK L v x3 L.length := by rw [HDE.out, show k = L.length by omega]
      have HVD := Lib.hid (show validA (m : Int) D = true by rw [hDE]; exact HVD0.out)
      have HO1 := Lib.hid (show owV m D 10000000 = O by rw [hDE]; exact HO10.out)
      have HT1 := Lib.hid (show totV m D 10000000 = T by rw [hDE]; exact HT10.out)
      have HD := Lib.hid HG.out.recs
      have HL := Lib.hid (HL2.out.next HG.out.b)
      have B2 := Lib.hid (below_to B2.out HG.out.b)
      clear hDE
      go_wp2_with (first | (go_at_call 23; (with_reducible refine Calls.mono (tot_at m 10000000 L _ _ _ _ HL.out HVA.out HNB.out HT0.out HTL.out) ?_); rintro r u3 ⟨A3, c3, rfl, h3, hb⟩; have B3 := Lib.hid (below_to B2.out hb); have HL := Lib.hid (HL.out.next hb); have HD := Lib.hid (HD.out.next hb); have HP1 := Lib.hid h3; clear h3; clear hb) | (go_at_call 23; (with_reducible refine Calls.mono (tot_at m 10000000 D _ _ _ _ HD.out HVD.out HNB.out HT1.out HTL.out) ?_); rintro r u4 ⟨A4, c4, rfl, h4, hb⟩; have B4 := Lib.hid (below_to B3.out hb); have HL := Lib.hid (HL.out.next hb); have HD := Lib.hid (HD.out.next hb); have HP1 := Lib.hid (HP1.out.next hb); have HP2 := Lib.hid h4; clear h4; clear hb) | (go_at_call 21; (with_reducible refine Calls.mono (owed_at m 10000000 L _ _ _ _ HL.out HVA.out HNB.out HO0.out) ?_); rintro r u5 ⟨A5, c5, rfl, h5, hb⟩; have B5 := Lib.hid (below_to B4.out hb); have HL := Lib.hid (HL.out.next hb); have HD := Lib.hid (HD.out.next hb); have HP1 := Lib.hid (HP1.out.next hb); have HP2 := Lib.hid (HP2.out.next hb); have HP3 := Lib.hid h5; clear h5; clear hb) | (go_at_call 21; (with_reducible refine Calls.mono (owed_at m 10000000 D _ _ _ _ HD.out HVD.out HNB.out HO1.out) ?_); rintro r u6 ⟨A6, c6, rfl, h6, hb⟩; have B6 := Lib.hid (below_to B5.out hb); have HL := Lib.hid (HL.out.next hb); have HD := Lib.hid (HD.out.next hb); have HP1 := Lib.hid (HP1.out.next hb); have HP2 := Lib.hid (HP2.out.next hb); have HP3 := Lib.hid (HP3.out.next hb); have HP4 := Lib.hid h6; clear h6; clear hb) | (go_at_call 27; (with_reducible refine Calls.mono (rints_eq T _ _ _ _ _ _ _ HP1.out HP2.out) ?_); rintro r u7 ⟨rfl, hb⟩; have B7 := Lib.hid (below_to B6.out hb); have HL := Lib.hid (HL.out.next hb); have HD := Lib.hid (HD.out.next hb); have HP1 := Lib.hid (HP1.out.next hb); have HP2 := Lib.hid (HP2.out.next hb); have HP3 := Lib.hid (HP3.out.next hb); have HP4 := Lib.hid (HP4.out.next hb); clear hb) | (go_at_call 27; (with_reducible refine Calls.mono (rints_eq O _ _ _ _ _ _ _ HP3.out HP4.out) ?_); rintro r u8 ⟨rfl, hb⟩; have B8 := Lib.hid (below_to B7.out hb); have HL := Lib.hid (HL.out.next hb); have HD := Lib.hid (HD.out.next hb); have HP1 := Lib.hid (HP1.out.next hb); have HP2 := Lib.hid (HP2.out.next hb); have HP3 := Lib.hid (HP3.out.next hb); have HP4 := Lib.hid (HP4.out.next hb); clear hb))
      go_ret
      exact ⟨rfl, B8.out⟩
end Go.Proofs.Ytinhjobjlpkflaa
