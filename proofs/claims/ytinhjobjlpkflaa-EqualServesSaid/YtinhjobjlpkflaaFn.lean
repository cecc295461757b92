/- EqualServes. -/
import Derived.Test.YtinhjobjlpkflaaFm
import Derived.BigQuiet
import Derived.Deep.CutBlock
namespace Go.Proofs.Ytinhjobjlpkflaa
open Go.RowKit Go.Shelf
attribute [local go_sem ↓] append_appN

theorem claims_atn (m : Nat) (now : Int) (l : List Ap) (A : Option Addr) (n c : Nat) (w : World) (hr : Recs encP 4 w w.heap.size (.slice A n c) l) (hv : validA (m : Int) l = true) (hnow : nowB now = true) {C : List Cl} (hC : clV m l now = C) {k : Nat} (hk : C.length = k) :
    Calls Try.prog 16 #[.int .i64 (m : Int), .slice A n c, .int .i64 now] w fun e w' => ∃ A2 c2, e = .returned (.tuple #[.slice A2 k c2, .int .i64 0]) ∧ w'.ownsRow w.heap.size 39 4 (.slice A2 k c2) k (flatE encC C) ∧ Recs encC 4 w' w'.heap.size (.slice A2 k c2) C ∧ Below w.heap.size w w' := by
  subst hk
  refine (Claims_ok m now l A n c w hr hv hnow).mono ?_
  rintro e w' ⟨v, rfl, hg⟩
  rw [hC] at hg
  have hr := hg.recs
  have hb := hg.b
  have ho := hg.own
  obtain ⟨A2, c2, rfl, -⟩ := own_slice hg.own
  exact ⟨A2, c2, rfl, ho, hr, hb⟩
/-- One appearance more; what does not lie in the row is kept. -/
theorem GatP.pushK {w : World} {L : List Ap} {o : Value} {wr : World} (h : GatP w L o wr) (hl : L.length ≤ 100000) (x : Ap) {cs : Array Value} (hcs : (encP x).toArray = cs) :
    ∃ A c w', Sem.run Try.prog (appN #[22, 22] 22 #[o, .slice (some ⟨wr.heap.size, 0, none⟩) 1 1]) (wr.alloc (.cells cs 49)) = .ok (.slice A (L.length + 1) c) w' ∧ GatP w (L ++ [x]) (.slice A (L.length + 1) c) w' ∧ (∀ k, k < wr.heap.size → o.ownBlock ≠ some k → w'.heap[k]? = wr.heap[k]?) := by
  subst hcs
  obtain ⟨i0, hi0, hz0, hz1, hz2⟩ := info_parts infoApp
  have hnews : ∀ j u, (encP x)[j]? = some u → (wr.alloc (.cells (encP x).toArray 49)).cell? (Addr.add ⟨wr.heap.size, 0, none⟩ j) = some u := fun j u hj => by
    have hc := (Row.new wr 49 (encP x).toArray).cell j
    have ha : Addr.add ⟨wr.heap.size, 0, none⟩ j = ⟨wr.heap.size, j, none⟩ := by rw [Addr.add_lit, Nat.zero_add]
    rw [ha, hc]; simpa using hj
  have hbs := h.b.size
  have hb0 : Below wr.heap.size wr (wr.alloc (.cells (encP x).toArray 49)) := (Below.refl _ wr).alloc (Nat.le_refl _) _
  obtain ⟨v', w', hrun, hown, hgr, -⟩ := run_append_own_at (P := Try.prog) (w := wr.alloc (.cells (encP x).toArray 49)) w.heap.size 22 22 49 i0 _ 4 32 Try.underlying22 hi0 hz0 hz1 hz2 rfl (by decide)
    o L.length _ (own_below h.own hb0) ⟨wr.heap.size, 0, none⟩ 1 1 (encP x) rfl hnews (encP_one x) (by unfold maxLen; omega) (by omega) (by simp; omega)
  obtain ⟨A, c, rfl, -⟩ := own_slice hown
  refine ⟨A, c, w', hrun, ⟨?_, ?_⟩, fun k hk hn => ?_⟩
  · rw [List.length_append, flatE_append, show flatE encP [x] = encP x by simp [flatE]]
    exact hown
  · exact (h.b.alloc hbs _).grown hgr (by simp; omega) (fun r x => by have := own_ge h.own r x; omega)
  · exact (hgr.block k (by simp; omega) (fun e => hn e.symm)).trans (hb0.block k hk)
theorem next_nil (m : Nat) (now : Int) (l : List Ap) (A : Option Addr) (n c : Nat) (w : World) (hr : Recs encP 4 w w.heap.size (.slice A n c) l) (hv : validA (m : Int) l = true) (hnow : nowB now = true) (hC : clV m l now = []) :
    Calls Try.prog 25 #[.int .i64 (m : Int), .slice A n c, .int .i64 now] w fun e w' => e = .returned (.tuple #[.agg #[.int .i64 0, .int .i64 0, .int .i64 0, .int .i64 0], .bool false]) ∧ Below w.heap.size w w' := by
  have h := Next_ok m now l A n c w hr hv hnow
  rw [hC] at h
  exact h
theorem next_cons (m : Nat) (now : Int) (l : List Ap) (A : Option Addr) (n c : Nat) (w : World) (hr : Recs encP 4 w w.heap.size (.slice A n c) l) (hv : validA (m : Int) l = true) (hnow : nowB now = true) {f0 f1 f2 f3 : Int} {C : List Cl} (hC : clV m l now = ⟨f0, f1, f2, f3⟩ :: C) :
    Calls Try.prog 25 #[.int .i64 (m : Int), .slice A n c, .int .i64 now] w fun e w' => e = .returned (.tuple #[.agg #[.int .i64 f0, .int .i64 f1, .int .i64 f2, .int .i64 f3], .bool true]) ∧ Below w.heap.size w w' := by
  have h := Next_ok m now l A n c w hr hv hnow
  rw [hC] at h
  exact h
theorem infoA4 : (Try.prog.info? 53).map (fun i => (i.zero, i.size, i.bytes)) = some (some (.agg #[.int .i64 0, .int .i64 0, .int .i64 0, .int .i64 0]), 4, 32) := by kernel_rfl
set_option maxRecDepth 100000 in
set_option maxHeartbeats 16000000 in
theorem serves_true (x0 : Int) (v1 : Value) (xs0 : List I4) (w : World) (h0 : -9223372036854775808 ≤ x0 ∧ x0 ≤ 9223372036854775807) (hr1 : Recs enc4 4 w w.heap.size v1 xs0) (hx : ∀ x ∈ xs0, OkI4 x) :
    Calls Try.prog 7 #[.int .i64 x0, v1] w fun e w' => e = .returned (.bool true) ∧ Below w.heap.size w w' := by
  obtain ⟨A1, c1, rfl, hc1, hc9⟩ := recs_form hr1
  obtain ⟨k6, hk6⟩ : ∃ k6, min xs0.length 6 = k6 := ⟨_, rfl⟩
  have hr6 := recs_pre hr1 k6 (by omega)
  obtain ⟨xs, hxs⟩ : ∃ xs, xs0.take k6 = xs := ⟨_, rfl⟩
  rw [hxs] at hr6
  have hxl : xs.length ≤ 6 := by rw [← hxs, List.length_take]; omega
  have hx6 : ∀ x ∈ xs, OkI4 x := fun x h => hx x (by rw [← hxs] at h; exact List.mem_of_mem_take h)
  have MN := fun w : World => run_min2 (P := Try.prog) (w := w) #[3, 3] 3 .i64 .i64 (xs0.length : Int) 6 (k6 : Int) (by omega)
  have sl0 := fun w => slice_head w 23 53 Try.underlying23 infoA4 A1 xs0.length c1 k6 (by omega)
  have x9 : xs0.length ≤ 9223372036854775807 := by omega
  obtain ⟨L0, hL⟩ : ∃ L, madeA x0 xs = L := ⟨_, rfl⟩
  have HM := Lib.hid (fun u (h : Below w.heap.size w u) => made_at2 x0 h0 xs hx6 hL A1 k6 c1 u (hr6.next h))
  obtain ⟨m, hm, m2, m5⟩ := count_nat x0
  have HCT := Lib.hid (fun u => count_any x0 h0.1 h0.2 u)
  rw [hm] at HCT
  have HSV0 := Lib.hid (Sv.start hm m5 m2 xs hxl)
  rw [hL] at HSV0
  have m8 : m ≤ 8 := by omega
  have m0 : ((m : Int) == (m : Int)) = true := by simp
  clear hr1 hx h0 hL hm hk6 hr6 hxs hxl hx6 hc1 hc9
  go_enter Try.func7, Try.ntmps7
  go_wp2_with (first | (go_at_call 10; (with_reducible refine Calls.mono (sane_any _) ?_); rintro r u1 ⟨rfl, hb⟩; have B1 := Lib.hid hb; clear hb) | (go_at_call 11; (with_reducible refine Calls.mono (HM.out _ B1.out) ?_); rintro r u2 ⟨A2, c2, rfl, ho, -, hb⟩; have B2 := Lib.hid (below_to B1.out hb); have HG0 := Lib.hid (GatP.mk ho hb); clear hb ho) | (go_at_call 12; (with_reducible refine Calls.mono (HCT.out _) ?_); rintro r y1 ⟨rfl, rfl⟩))
  clear MN sl0
  go_loopw [6, 8] (fun o z wr => ∃ (k : Nat) (L : List Ap), z = .int .i64 (k : Int) ∧ k ≤ 30 ∧ Hid (Sv m k L) ∧ Hid (GatP u1 L o wr)) (fun _ z _ => 50 - (intOf z).toNat)
  case atStart => exact ⟨0, L0, rfl, by decide, HSV0, HG0⟩
  case round =>
    obtain ⟨k, L, rfl, hk, HSV, HG⟩ := hrel
    have k0 : (0 : Int) ≤ (k : Int) := by omega
    have k1 : (k : Int) < 50 := by omega
    have e7 : IntKind.i64.wrap ((k : Int) + 1) = (k : Int) + 1 := IntWalk.i64_in _ (by omega)
    obtain ⟨Ao, co, rfl, hco, hco9, -⟩ := own_slice HG.out.own
    have HRL := Lib.hid HG.out.recs
    have HVL := Lib.hid HSV.out.v
    have hnw := HSV.out.now hk
    have HLL := Lib.hid HSV.out.len
    obtain ⟨NW, hNW⟩ : ∃ NW, nowS L k = NW := ⟨_, rfl⟩
    rw [hNW] at hnw
    have HNW := Lib.hid hNW
    have HNB := Lib.hid (show nowB NW = true by unfold nowB; simp; omega)
    obtain ⟨nw0, nw1⟩ := hnw
    clear hNW hco hco9
    have l9 : L.length ≤ 9223372036854775807 := by have := HLL.out; omega
    go_upto_if 38 with fail
    go_cut [9] from 38 to 45 (fun z wx => z = .int .i64 NW ∧ wr = wx)
    case first =>
      by_cases hl : L.length = 0
      · have y1 : ¬ (0 : Int) < (L.length : Int) := by omega
        have HE := Lib.hid (show (k : Int) = NW by rw [← HNW.out]; unfold nowS; rw [if_pos hl])
        clear hl
        go_wp2_with fail
        go_meet
        exact ⟨by rw [HE.out], rfl⟩
      · have y1 : (0 : Int) < (L.length : Int) := by omega
        obtain ⟨j, hj⟩ : ∃ j, L.length - 1 = j := ⟨_, rfl⟩
        have hjl : j < L.length := by omega
        obtain ⟨b, o, rfl, hg, hcell⟩ := recs_at HRL.out j hjl
        obtain ⟨q, hq⟩ : ∃ q, L[j]? = some q := ⟨_, List.getElem?_eq_getElem hjl⟩
        have a1 : wr.cell? ⟨b, o + j * 4 + 1, none⟩ = some (.int .i64 q.at_) := hcell j q hq 1 _ rfl
        have HE := Lib.hid (show q.at_ = NW by rw [← HNW.out]; unfold nowS; rw [if_neg hl, hj, ap_getD hq])
        have j0 : (0 : Int) ≤ (j : Int) := by omega
        have j1 : (j : Int) < (L.length : Int) := by omega
        have e8 : IntKind.i64.wrap ((L.length : Int) - 1) = (j : Int) := by rw [show (L.length : Int) - 1 = (j : Int) by omega]; exact IntWalk.i64_in _ (by omega)
        clear hl hj hcell hq hjl
        go_wp2_with fail
        go_meet
        exact ⟨by rw [HE.out], rfl⟩
    case rest =>
      obtain ⟨rfl, rfl⟩ := hcut
      rcases hCE : clV m L NW with _ | ⟨f, C⟩
      · have HCE := Lib.hid hCE
        have HCN := Lib.hid (show ([] : List Cl).length = 0 from rfl)
        obtain ⟨T, hT⟩ : ∃ T, totV m L NW = T := ⟨_, rfl⟩
        have haps := (validA_parts HVL.out).2.2.2
        have HT0 := Lib.hid hT
        have HTL := Lib.hid (show T.length = m by rw [← hT]; exact (levels (now := NW) m2 m8 haps).1)
        have HAS := Lib.hid (all_same m2 m8 haps hCE)
        rw [hT] at HAS
        have hbx : ∀ u : World, Below u.heap.size u (u.alloc (.cells #[.int .i64 0, .int .i64 0, .int .i64 0, .int .i64 0] 39)) := fun u => (Below.refl _ u).alloc (Nat.le_refl _) _
        have HBX := Lib.hid hbx
        clear hCE hT haps hbx
        go_wp2_with (first | (go_at_call 16; (with_reducible refine Calls.mono (claims_atn m NW L _ _ _ wr HRL.out HVL.out HNB.out HCE.out HCN.out) ?_); rintro r u3 ⟨A3, c3, rfl, ho3, h3, hb⟩; have HCR := Lib.hid h3; have HOC := Lib.hid ho3; have BB3 := Lib.hid hb; have HG3 := Lib.hid (HG.out.next hb); have HRL3 := Lib.hid (HRL.out.next hb); clear h3 ho3 hb) | (go_at_call 25; (with_reducible refine Calls.mono (next_nil m NW L _ _ _ u3 HRL3.out HVL.out HNB.out HCE.out) ?_); rintro r u4 ⟨rfl, hb⟩; have BB4 := Lib.hid (below_to BB3.out hb); have HG4 := Lib.hid (HG3.out.next hb); have HRL4 := Lib.hid (HRL3.out.next hb); have BX := Lib.hid (HBX.out u4); have HCR4 := Lib.hid (HCR.out.next hb); clear hb) | (go_at_call 23; (with_reducible refine Calls.mono (tot_at m NW L _ _ _ _ (HRL4.out.next BX.out) HVL.out HNB.out HT0.out HTL.out) ?_); rintro r u5 ⟨A5, c5, rfl, h5, hb⟩; have HTR := Lib.hid h5; have BB5 := Lib.hid (below_to (below_to BB4.out BX.out) hb); clear h5 hb))
        go_loopw [16] (fun z wi => ∃ j : Nat, z = .int .i64 (j : Int) ∧ j ≤ m ∧ Hid (Below u5.heap.size u5 wi)) (fun z _ => m - (intOf z).toNat)
        case atStart => exact ⟨0, rfl, Nat.zero_le _, Lib.hid (Below.refl _ _)⟩
        case round =>
          obtain ⟨j, rfl, hj, HBJ⟩ := hrel
          have j0 : (0 : Int) ≤ (j : Int) := by omega
          have e8 : IntKind.i64.wrap ((j : Int) + 1) = (j : Int) + 1 := IntWalk.i64_in _ (by omega)
          have mpos : (0 : Int) < (m : Int) := by omega
          by_cases hlt : j < m
          · have j1 : (j : Int) < (m : Int) := by omega
            obtain ⟨b, o, rfl, hg, hcell⟩ := recs_at (HTR.out.next HBJ.out) j (by rw [HTL.out]; exact hlt)
            obtain ⟨t, ht⟩ : ∃ t, T[j]? = some t := ⟨_, List.getElem?_eq_getElem (by rw [HTL.out]; exact hlt)⟩
            obtain ⟨u, hu⟩ : ∃ u, T[0]? = some u := ⟨_, List.getElem?_eq_getElem (by rw [HTL.out]; omega)⟩
            have a0 := hcell j t ht 0 _ rfl
            have a1 := hcell 0 u hu 0 _ rfl
            rw [HAS.out j t u ht hu] at a0
            simp only [Nat.mul_one, Nat.add_zero] at a0 a1
            clear hcell ht hu
            go_upto_region 23 with fail
            go_quiet (fail)
            go_wp2
            go_roundw
            case rel => exact ⟨j + 1, by go_num, by omega, Lib.hid (belowN HBJ.out _)⟩
            case measure => simp [intOf]; omega
          · have j1 : ¬ (j : Int) < (m : Int) := by omega
            go_wp2
            go_ret
            exact ⟨rfl, below_to B1.out (below_to HG.out.b (below_to BB5.out HBJ.out))⟩
      · rw [← HNW.out] at hCE
        obtain ⟨r1, r2, r3, r4⟩ := HSV.out.rest hCE
        have hcl := HSV.out.cl
        rw [hCE, List.length_cons] at hcl
        have HSV2 := Lib.hid (HSV.out.step hCE)
        have HVL2 := Lib.hid (HSV.out.val (by omega) hCE)
        have HCL2 := Lib.hid (HSV.out.clear (by omega) hCE)
        rw [HNW.out] at hCE HCL2
        have HCE := Lib.hid hCE
        have HK := Lib.hid (show k < 30 by omega)
        obtain ⟨nc, hnc⟩ : ∃ nc, (f :: C).length = nc := ⟨_, rfl⟩
        have HCN := Lib.hid hnc
        have hnc1 : 0 < nc := by rw [← hnc]; simp
        have c1 : (0 : Int) < (nc : Int) := by omega
        have HNB2 := Lib.hid (show nowB (NW + 1) = true by unfold nowB; simp; omega)
        have e8 : IntKind.i64.wrap (NW + 1) = NW + 1 := IntWalk.i64_in _ (by omega)
        have HSR := Lib.hid (show srv L k f = ⟨f.cand, NW + 1, f.rest, 1⟩ by unfold srv; rw [HNW.out])
        obtain ⟨f0, f1, f2, f3⟩ := f
        dsimp only at r1 r2 r3 r4 HSR
        have d1 : decide (f2 < 1) = false := by rw [decide_eq_false_iff_not]; omega
        have d2 : decide (3600 < f2) = false := by rw [decide_eq_false_iff_not]; omega
        have HNE := neq_claim f0 f1 f2 f3 f0 f1 f2 f3
        rw [decide_eq_true rfl] at HNE
        clear hCE hnc hcl
        go_upto_region 13 with (go_at_call 16; (with_reducible refine Calls.mono (claims_atn m NW L _ _ _ wr HRL.out HVL.out HNB.out HCE.out HCN.out) ?_); rintro r u3 ⟨A3, c3, rfl, ho3, h3, hb⟩; have HCR := Lib.hid h3; have HOC := Lib.hid ho3; have BB3 := Lib.hid hb; have HG3 := Lib.hid (HG.out.next hb); have HRL3 := Lib.hid (HRL.out.next hb); clear h3 ho3 hb)
        obtain ⟨bc, oc, rfl, hgc, hccell⟩ := recs_at HCR.out 0 (by simp)
        have HCC := Lib.hid (fun y (hy : Below u3.heap.size u3 y) i u (hu : (encC ⟨f0, f1, f2, f3⟩)[i]? = some u) => (hy.cell (p := ⟨bc, oc + 0 * 4 + i, none⟩) hgc).trans (hccell 0 _ rfl i u hu))
        have hgc1 := hgc
        clear hccell
        go_upto_region 14 with (go_at_call 25; (with_reducible refine Calls.mono (next_cons m NW L _ _ _ u3 HRL3.out HVL.out HNB.out HCE.out) ?_); rintro r u4 ⟨rfl, hb⟩; have BB4 := Lib.hid (below_to BB3.out hb); have HG4 := Lib.hid (HG3.out.next hb); have HRL4 := Lib.hid (HRL3.out.next hb); have H34 := Lib.hid hb; have HCR4 := Lib.hid (HCR.out.next hb); clear hb)
        obtain ⟨W1, hW1⟩ : ∃ W1, (u4.alloc (.cells #[.int .i64 f0, .int .i64 f1, .int .i64 f2, .int .i64 f3] 39)) = W1 := ⟨_, rfl⟩
        obtain ⟨gB, hgB⟩ : ∃ gB, u4.heap.size = gB := ⟨_, rfl⟩
        have RB1 := Lib.hid (show Row W1 gB 39 #[.int .i64 f0, .int .i64 f1, .int .i64 f2, .int .i64 f3] by rw [← hW1, ← hgB]; exact Row.new _ _ _)
        have hb1 : Below u4.heap.size u4 W1 := by rw [← hW1]; exact (Below.refl _ u4).alloc (Nat.le_refl _) _
        have HB1 := Lib.hid hb1
        have B34 := Lib.hid (below_to H34.out hb1)
        have HW1 := Lib.hid hW1
        rw [hW1]
        try rw [hgB]
        clear hb1 hW1
        go_upto_region 26 with fail
        have b0 := RB1.out.cell 0; have b1 := RB1.out.cell 1; have b2 := RB1.out.cell 2; have b3 := RB1.out.cell 3
        simp only [List.getElem?_toArray, List.getElem?_cons_zero, List.getElem?_cons_succ] at b0 b1 b2 b3
        have lb := RB1.out.lt
        have p0 := HCC.out _ B34.out 0 _ rfl; have p1 := HCC.out _ B34.out 1 _ rfl; have p2 := HCC.out _ B34.out 2 _ rfl; have p3 := HCC.out _ B34.out 3 _ rfl
        simp only [Nat.zero_mul, Nat.add_zero] at p0 p1 p2 p3
        have lc : bc < W1.heap.size := by have := B34.out.size; omega
        go_cut [114] from 100 to 113 (fun z wx => z = .bool false ∧ Hid (Row wx gB 39 #[.int .i64 f0, .int .i64 f1, .int .i64 f2, .int .i64 f3]) ∧ Hid (Below W1.heap.size W1 wx))
        case first =>
          go_quiet (fail)
          go_wp2_with fail
          go_meet
          exact ⟨rfl, Lib.hid (RB1.out.drewN _), Lib.hid (belowN (Below.refl _ _) _)⟩
        case rest =>
          clear b0 b1 b2 b3 lb p0 p1 p2 p3 lc
          obtain ⟨rfl, RB2, HB2⟩ := hcut
          have b0 := RB2.out.cell 0; have b1 := RB2.out.cell 1; have b2 := RB2.out.cell 2; have b3 := RB2.out.cell 3
          simp only [List.getElem?_toArray, List.getElem?_cons_zero, List.getElem?_cons_succ] at b0 b1 b2 b3
          have lb := RB2.out.lt
          have HG5 := Lib.hid ((HG4.out.next HB1.out).next HB2.out)
          have HC5 := Lib.hid ((HCR4.out.next HB1.out).next HB2.out)
          obtain ⟨A6, c6, w6, hrun, hG6, hkp⟩ := HG5.out.pushK (by have := HLL.out; omega) (srv L k ⟨f0, f1, f2, f3⟩) (cs := #[.int .i64 f0, .int .i64 (NW + 1), .int .i64 f2, .int .i64 1]) (by rw [HSR.out]; rfl)
          have HGN := Lib.hid hG6
          have ho5 := own_below HOC.out (below_to B34.out HB2.out)
          have ho6 := own_keep (w' := w6) ho5 fun q e => by
            have h1 := own_ge HOC.out q e
            have h2 := own_lt ho5 q e
            exact hkp q h2 fun e2 => by have := own_lt HG.out.own q e2; omega
          have hr6 := recs_of_ownE (enc := encC) (k := 4) (fun _ => rfl) ho6 HCN.out
          have HCX0 := Lib.hid (recs_from hr6 1 (by simp))
          have hcap := (recs_cap HC5.out).2.1
          have sl1 := fun w => slice_from (t := 31) Try.underlying31 infoClaim (some ⟨bc, oc, none⟩) nc c3 1 hnc1 w
          obtain ⟨AX, hAX⟩ : ∃ AX, (if c3 = 1 then some (⟨bc, oc, none⟩ : Addr) else (some (⟨bc, oc, none⟩ : Addr)).map (·.add (1 * 4))) = AX := ⟨_, rfl⟩
          rw [hAX] at HCX0 sl1
          obtain ⟨nx, hnx⟩ : ∃ nx, nc - 1 = nx := ⟨_, rfl⟩
          obtain ⟨cx, hcx⟩ : ∃ cx, c3 - 1 = cx := ⟨_, rfl⟩
          rw [hnx, hcx] at HCX0 sl1
          have sl2 : ∀ w, Sem.run Try.prog (Instr.slice 31 (.slice (some ⟨bc, oc, none⟩) nc c3) (some (.int .i64 1)) none none) w = .ok (.slice AX nx cx) w := sl1
          have HCX := Lib.hid (show Recs encC 4 w6 w6.heap.size (.slice AX nx cx) C from HCX0.out)
          clear hG6 hkp ho5 ho6 hr6 HCX0 hcap sl1 hAX hnx hcx
          go_wp2_with (first | (go_at_call 16; (with_reducible refine Calls.mono (claims_at m (NW + 1) (L ++ [srv L k ⟨f0, f1, f2, f3⟩]) _ _ _ _ HGN.out.recs HVL2.out HNB2.out HCL2.out) ?_); rintro r u7 ⟨A7, c7, rfl, h7, hb⟩; have HC7 := Lib.hid h7; have HG7 := Lib.hid (HGN.out.next hb); have HCX7 := Lib.hid (HCX.out.next hb); clear h7 hb) | (go_at_call 20; (with_reducible refine Calls.mono (rsame_eq C _ _ _ _ _ _ _ HC7.out HCX7.out) ?_); rintro r u8 ⟨rfl, hb⟩; have HG8 := Lib.hid (HG7.out.next hb); clear hb))
          go_roundw
          case rel => exact ⟨k + 1, L ++ [srv L k ⟨f0, f1, f2, f3⟩], by go_num, by have := HK.out; omega, HSV2, HG8⟩
          case measure => simp [intOf]; omega
end Go.Proofs.Ytinhjobjlpkflaa
