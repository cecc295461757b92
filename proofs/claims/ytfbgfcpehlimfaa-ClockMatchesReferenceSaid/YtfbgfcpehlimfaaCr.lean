/- Contract of the reference's Made. -/
import Derived.Test.YtfbgfcpehlimfaaCq
import Derived.Deep.DeepCutAuto
namespace Go.Proofs.Ytfbgfcpehlimfaa
open Go.RowKit
attribute [local go_sem ↓] append_appN

/-- A reading that Made makes. -/
def Good (x : Ca.R3) : Prop := 0 ≤ x.1 ∧ x.1 ≤ 10000 ∧ 0 ≤ x.2.1 ∧ x.2.1 ≤ x.2.2 ∧ x.2.2 ≤ 3060
/-- Between two rounds: the clock lies behind the result, its readings are the call's own. -/
def MdI (w : World) (d : Int) (n : Nat) (wr : World) : Prop :=
  ∃ (rs : List Ca.R3) (v : Value), rs.length ≤ n ∧ (∀ x ∈ rs, Good x) ∧ wr.ownsRow (w.heap.size + 1 + 1) 48 3 v rs.length (flat3 rs) ∧ Row wr (w.heap.size + 1) 24 #[.int .i64 d, v] ∧ Row wr w.heap.size 24 #[.int .i64 0, .slice none 0 0] ∧ Below w.heap.size w wr
theorem MdI.more {w wr : World} {d : Int} {n m : Nat} (h : MdI w d n wr) (hm : n ≤ m) : MdI w d m wr := by
  obtain ⟨rs, v, a, b⟩ := h
  exact ⟨rs, v, by omega, b⟩
def MadePost (w : World) (e : Ending) (w' : World) : Prop :=
  ∃ (d : Int) (rs : List Ca.R3) (v : Value), e = .returned v ∧ Clk w' v d rs ∧ 0 ≤ d ∧ d ≤ 100 ∧ (∀ x ∈ rs, Good x) ∧ rs.length ≤ 36000 ∧ Below w.heap.size w w'
theorem held_alloc {u : World} {p q : Addr} {a b : Value} (h : u.cell? p = some a ∧ u.cell? q = some b) (o : Obj) : (u.alloc o).cell? p = some a ∧ (u.alloc o).cell? q = some b := by
  have hb : Below u.heap.size u (u.alloc o) := (Below.refl _ _).alloc (Nat.le_refl _) _
  exact ⟨(hb.cell (World.block_lt_of_cell? u p h.1)).trans h.1, (hb.cell (World.block_lt_of_cell? u q h.2)).trans h.2⟩
set_option maxRecDepth 100000 in
set_option maxHeartbeats 8000000 in
theorem made_any (drift start : Int) (lr : List Int) (la : List Ca.R3) (vr va : Value) (w : World) (hr : Recs enc1 1 w w.heap.size vr lr) (hqr : ∀ x ∈ lr, I64 x) (ha : Recs enc3 3 w w.heap.size va la) (hqa : ∀ x ∈ la, I64 x.1 ∧ I64 x.2.1 ∧ I64 x.2.2) (h1 : I64 drift) (h2 : I64 start) :
    Calls Try.prog 15 #[.int .i64 drift, .int .i64 start, vr, va] w (MadePost w) := by
  have hsh := fun (t : Int) (ht : 0 ≤ t) (ht2 : t < 5000) (u : World) (hu : Below w.heap.size w u) => shown_any drift start t lr vr u (hr.next hu) hqr h1 h2 ht ht2
  have hp1 := fun w => rpick_any drift 101 (by omega) (by omega) h1.1 h1.2 w
  obtain ⟨d1, d2⟩ := pickI_lt drift 101 (by omega)
  obtain ⟨d, hd⟩ : ∃ d, pickI drift 101 = d := ⟨_, rfl⟩
  rw [hd] at hp1 d1 d2
  obtain ⟨A, c, rfl, hc1, hc2⟩ := recs_form ha
  have HV := Lib.hid (fun k hk => recs_at ha k hk)
  have HQ := Lib.hid hqa
  obtain ⟨N, hN⟩ : ∃ N, la.length = N := ⟨_, rfl⟩
  have HN := Lib.hid hN
  rw [hN] at hc1 ⊢
  have hN2 : N ≤ 9223372036854775807 := by omega
  have HSH := Lib.hid hsh; have HP1 := Lib.hid hp1
  clear hr hqr ha hqa h1 h2 hsh hp1 hd hN
  go_enter Try.func15, Try.ntmps15
  go_wp2_with (go_at_call 34; refine (HP1.out _).mono ?_; rintro e w' ⟨rfl, rfl⟩)
  go_loopw [10, 11, 12, 13] (fun t _ _ _ wr => ∃ k : Nat, k ≤ 3000 ∧ t = .int .i64 (k : Int) ∧ Hid (MdI w d (12 * k) wr)) (fun t _ _ _ _ => 3000 - (intOf t).toNat)
  case atStart =>
    have hB := Row.new (w.alloc (.cells #[.int .i64 0, .slice none 0 0] 24)) 24 #[.int .i64 d, .slice none 0 0]
    rw [World.size_alloc] at hB
    exact ⟨0, by omega, rfl, Lib.hid ⟨[], .slice none 0 0, by simp, (fun x h => by cases h), ⟨rfl, .inl ⟨rfl, rfl⟩⟩, hB, (Row.new w _ _).alloc _, ((Below.refl _ w).alloc (Nat.le_refl _) _).alloc (by simp) _⟩⟩
  case round =>
    obtain ⟨k, hk, rfl, HI⟩ := hrel
    by_cases hlt : k < 3000
    · have i1 : (0 : Int) ≤ (k : Int) := by omega
      have i2 : (k : Int) < 3000 := by omega
      go_wp2
      go_loopw [11, 12, 13] (fun i _ _ wq => ∃ j : Nat, j ≤ N ∧ j ≤ 12 ∧ i = .int .i64 (j : Int) ∧ Hid (MdI w d (12 * k + j) wq)) (fun i _ _ _ => N - (intOf i).toNat)
      case atStart => exact ⟨0, by omega, by omega, rfl, HI⟩
      case round =>
        obtain ⟨j, hj, hj2, rfl, HJ⟩ := hrel
        obtain ⟨rs, v, hlen, hgood, hrow, hcb, hra, hbw⟩ := HJ.out
        have b0 := hcb.cell 0
        have b1 := hcb.cell 1
        have f0 := hcb.free 0
        have f1 := hcb.free 1
        simp only [List.getElem?_toArray, List.getElem?_cons_zero, List.getElem?_cons_succ] at b0 b1
        have hsz := hcb.lt
        have HBW := Lib.hid hbw
        have j1 : (0 : Int) ≤ (j : Int) := by omega
        by_cases g1 : j < N
        · by_cases g2 : j < 12
          · have hkl : j < la.length := by have := HN.out; omega
            obtain ⟨g, off, rfl, hg, hcell⟩ := HV.out j hkl
            obtain ⟨c0, c1, c2⟩ := cells3 hcell j hkl
            rw [← hbw.cell (p := ⟨g, off + j * 3, none⟩) hg] at c0
            rw [← hbw.cell (p := ⟨g, off + j * 3 + 1, none⟩) hg] at c1
            rw [← hbw.cell (p := ⟨g, off + j * 3 + 2, none⟩) hg] at c2
            obtain ⟨q0, q1, q2⟩ := HQ.out la[j] (List.getElem_mem hkl)
            obtain ⟨x, hx⟩ : ∃ x, la[j] = x := ⟨_, rfl⟩
            rw [hx] at c0 c1 c2 q0 q1 q2
            obtain ⟨x0, x1, x2⟩ := x
            dsimp only at c0 c1 c2 q0 q1 q2
            have hp2 := fun w => rpick_any x0 3000 (by omega) (by omega) q0.1 q0.2 w
            have hp3 := fun w => rpick_any x1 51 (by omega) (by omega) q1.1 q1.2 w
            have hp4 := fun w => rpick_any x2 51 (by omega) (by omega) q2.1 q2.2 w
            obtain ⟨y1, y2⟩ := pickI_lt x1 51 (by omega)
            obtain ⟨y3, y4⟩ := pickI_lt x2 51 (by omega)
            obtain ⟨z0, hz0⟩ : ∃ z, pickI x0 3000 = z := ⟨_, rfl⟩
            obtain ⟨z1, hz1⟩ : ∃ z, pickI x1 51 = z := ⟨_, rfl⟩
            obtain ⟨z2, hz2⟩ : ∃ z, pickI x2 51 = z := ⟨_, rfl⟩
            rw [hz0] at hp2
            rw [hz1] at hp3 y1 y2
            rw [hz2] at hp4 y3 y4
            have HP2 := Lib.hid hp2; have HP3 := Lib.hid hp3; have HP4 := Lib.hid hp4
            have j2 : (j : Int) < (N : Int) := by omega
            have j3 : (j : Int) < 12 := by omega
            clear hcell hx q0 q1 q2 hp2 hp3 hp4 hz0 hz1 hz2
            by_cases hq : z0 = (k : Int)
            · have e1 : (z0 == (k : Int)) = true := by rw [beq_iff_eq]; exact hq
              obtain ⟨lo, hlo⟩ : ∃ lo, max ((k : Int) - z1) 0 = lo := ⟨_, rfl⟩
              have hmx := fun (w : World) => run_max2 (P := Try.prog) (w := w) #[3, 3] 3 .i64 .i64 ((k : Int) - z1) 0 lo hlo
              have hs0 := fun (u : World) (hu : Below w.heap.size w u) => HSH.out (k : Int) i1 (by omega) u hu
              have HS0 := Lib.hid hs0
              have hheld : wr.drew.cell? ⟨g, off + j * 3 + 1, none⟩ = some (.int .i64 x1) ∧ wr.drew.cell? ⟨g, off + j * 3 + 2, none⟩ = some (.int .i64 x2) := ⟨c1, c2⟩
              have e3 : IntKind.i64.wrap ((k : Int) - z1) = (k : Int) - z1 := IntWalk.i64_in _ (by omega)
              have e4 : IntKind.i64.wrap ((k : Int) + z2) = (k : Int) + z2 := IntWalk.i64_in _ (by omega)
              have HROW := Lib.hid hrow; have HCB := Lib.hid hcb; have HRA := Lib.hid hra
              have HG := Lib.hid hgood
              obtain ⟨A', c', hv', hc3, hc4, hA'⟩ := own_slice hrow
              subst hv'
              obtain ⟨M, hM⟩ : ∃ M, rs.length = M := ⟨_, rfl⟩
              rw [hM] at hlen hc3 hA' HROW HCB b1
              have HM := Lib.hid hM
              clear hrow hcb hra hbw hs0 hgood hM
              go_upto_region 9 with (go_at_call 34; refine (HP2.out _).mono ?_; rintro e w' ⟨rfl, rfl⟩)
              go_cut [12] (fun s12 wx => ∃ s : Int, 0 ≤ s ∧ s ≤ 10000 ∧ s12 = .pointer (some ⟨wr.heap.size, 0, none⟩) ∧ Hid (wx = (wr.alloc (.cells #[.int .i64 s, .int .i64 lo, .int .i64 ((k : Int) + z2)] 48)).drew))
              case first =>
                go_region_held3 (fun u => u.cell? ⟨g, off + j * 3 + 1, none⟩ = some (.int .i64 x1) ∧ u.cell? ⟨g, off + j * 3 + 2, none⟩ = some (.int .i64 x2)) (first | assumption | (exact held_alloc (by assumption) _) | (exact ⟨by assumption, by assumption⟩)) (first | (go_at_call 34; ((with_reducible refine Calls.mono (HP3.out _) ?_); rintro e w' ⟨rfl, rfl⟩)) | (go_at_call 34; ((with_reducible refine Calls.mono (HP4.out _) ?_); rintro e w' ⟨rfl, rfl⟩)) | (go_at_call 27; ((with_reducible refine Calls.mono (HS0.out _ (by first | exact Below.drew HBW.out | exact Below.drew (HBW.out.alloc (by omega) _))) ?_); rintro e w' ⟨s, rfl, s1, s2, rfl⟩)))
                all_goals go_wp2_with fail
                all_goals go_meet
                all_goals exact ⟨_, s1, s2, rfl, Lib.hid rfl⟩
              case rest =>
                obtain ⟨s, s1, s2, rfl, hwc⟩ := hcut
                have hbr : Below wr.heap.size wr wc := by rw [hwc.out]; exact ((Below.refl _ wr).alloc (Nat.le_refl _) _).drew
                have hrr : Row wc wr.heap.size 48 #[.int .i64 s, .int .i64 lo, .int .i64 ((k : Int) + z2)] := by rw [hwc.out]; exact Row.new wr _ _
                have hsz2 := hbr.size
                have hsz3 := hrr.lt
                have hcb2 := HCB.out.below hbr (by omega)
                have hrow2 : wc.ownsRow (w.heap.size + 1 + 1) 48 3 (.slice A' M c') M (flat3 rs) := own_below HROW.out hbr
                have b0 := hcb2.cell 0
                have b1 := hcb2.cell 1
                have t0 := hrr.cell 0
                have t1 := hrr.cell 1
                have t2 := hrr.cell 2
                simp only [List.getElem?_toArray, List.getElem?_cons_zero, List.getElem?_cons_succ] at b0 b1 t0 t1 t2
                have happ := fun nq => snoc_reading (w := wc.drewN nq) (s, lo, (k : Int) + z2) (show (wc.drewN nq).ownsRow (w.heap.size + 1 + 1) 48 3 (.slice A' M c') M (flat3 rs) from hrow2) (by omega) (show w.heap.size + 1 + 1 ≤ wc.heap.size by omega)
                have HAP := Lib.hid happ
                have hfin : ∀ nq v' w', w'.ownsRow (w.heap.size + 1 + 1) 48 3 v' (M + 1) (flat3 (rs ++ [(s, lo, (k : Int) + z2)])) → ((wc.drewN nq).alloc (.cells #[.int .i64 s, .int .i64 lo, .int .i64 ((k : Int) + z2)] 48)).grownBy w' (Value.slice A' M c').ownBlock →
                    w'.frozen? ⟨w.heap.size + 1, 1, none⟩ = false ∧ w'.cell? ⟨w.heap.size + 1, 1, none⟩ = some (.slice A' M c') ∧ MdI w d (12 * k + (j + 1)) (w'.setCell ⟨w.heap.size + 1, 1, none⟩ v') := fun nq v' w' hown hgr => by
                  have hbl := own_below_grown (show (wc.drewN nq).ownsRow (w.heap.size + 1 + 1) 48 3 (.slice A' M c') M (flat3 rs) from hrow2) (show w.heap.size + 1 + 1 ≤ wc.heap.size by omega) hgr
                  have hbl2 : Below (w.heap.size + 1 + 1) wr w' := (hbr.mono (by omega)).trans (Below.trans (belowN (Below.refl _ wc) nq) hbl)
                  have hcb3 := HCB.out.below hbl2 (by omega)
                  have hra3 := HRA.out.below hbl2 (by omega)
                  refine ⟨hcb3.free 1, hcb3.cell 1, rs ++ [(s, lo, (k : Int) + z2)], v', by simp; have := HM.out; omega, fun x hx => ?_, ?_, ?_, ?_, ?_⟩
                  · rcases List.mem_append.1 hx with hx | hx
                    · exact HG.out x hx
                    · simp only [List.mem_cons, List.not_mem_nil, or_false] at hx
                      subst hx
                      exact ⟨s1, s2, by show 0 ≤ lo; omega, by show lo ≤ (k : Int) + z2; omega, by show (k : Int) + z2 ≤ 3060; omega⟩
                  · rw [List.length_append, HM.out]
                    exact ownsRow_setCell_below hown (by show w.heap.size + 1 < _; omega) v'
                  · have := hcb3.put 1 v'
                    simpa using this
                  · exact hra3.far (by show w.heap.size ≠ w.heap.size + 1; omega) v'
                  · exact (HBW.out.trans (hbl2.mono (by omega))).setCell (by show w.heap.size ≤ w.heap.size + 1; omega) _
                have HFIN := Lib.hid hfin
                have HWC := hwc
                have HROW2 := Lib.hid (show wc.ownsRow (w.heap.size + 1 + 1) 48 3 (.slice A' M c') rs.length (flat3 rs) by rw [HM.out]; exact hrow2)
                have HCB2 := Lib.hid hcb2; have HRA2 := Lib.hid (HRA.out.below hbr (by omega)); have HBW2 := Lib.hid (HBW.out.trans (hbr.mono (by omega)))
                clear happ hfin hwc hbr hrr hcb2
                by_cases hrs : M = 0
                · subst hrs
                  clear hrow2
                  go_wp2
                  go_quiet (fail)
                  obtain ⟨v', w', hrun, hown, hgr⟩ := HAP.out nq
                  have hrun2 : Sem.run Try.prog (appN #[22, 22] 22 #[.slice A' 0 c', .slice (some ⟨wc.heap.size, 0, none⟩) 1 1]) ((wc.drewN nq).alloc (.cells #[.int .i64 s, .int .i64 lo, .int .i64 ((k : Int) + z2)] 48)) = .ok v' w' := hrun
                  obtain ⟨A2, c2', hv2, -, -, -⟩ := own_slice hown
                  subst hv2
                  obtain ⟨fz, cz, hmd⟩ := HFIN.out nq _ w' hown hgr
                  have HMD := Lib.hid hmd
                  clear hrun hown hgr hmd
                  go_wp2
                  go_roundw
                  case rel => exact ⟨j + 1, by omega, by omega, by go_num, HMD⟩
                  case measure => simp [intOf]; omega
                · obtain ⟨g', rfl, hg1, hg2⟩ : ∃ g', A' = some ⟨g', 0, none⟩ ∧ w.heap.size + 1 + 1 ≤ g' ∧ g' < wr.heap.size := by
                    rcases hA' with ⟨_, h⟩ | h
                    · omega
                    · exact h
                  obtain ⟨m, rfl⟩ : ∃ m, M = m + 1 := ⟨M - 1, by omega⟩
                  obtain ⟨x, -, l0, -, -⟩ := cells_own3 hrow2 HM.out m (by omega)
                  obtain ⟨p, hp⟩ : ∃ p, x.1 = p := ⟨_, rfl⟩
                  rw [hp] at l0
                  have e5 : ((m : Int) + 1 == 0) = false := by rw [beq_eq_false_iff_ne]; omega
                  have e6 : (m : Int) + 1 - 1 = (m : Int) := by omega
                  have i7 : (m : Int) < (m : Int) + 1 := by omega
                  have i5 : (0 : Int) ≤ (m : Int) := by omega
                  have i6 : (m : Int) < ((m + 1 : Nat) : Int) := by omega
                  clear hrow2 hp hA'
                  by_cases hps : p < s
                  · have e7 : decide (p < s) = true := decide_eq_true hps
                    go_wp2
                    go_quiet (fail)
                    obtain ⟨v', w', hrun, hown, hgr⟩ := HAP.out nq
                    have hrun2 : Sem.run Try.prog (appN #[22, 22] 22 #[.slice (some ⟨g', 0, none⟩) (m + 1) c', .slice (some ⟨wc.heap.size, 0, none⟩) 1 1]) ((wc.drewN nq).alloc (.cells #[.int .i64 s, .int .i64 lo, .int .i64 ((k : Int) + z2)] 48)) = .ok v' w' := hrun
                    obtain ⟨A2, c2', hv2, -, -, -⟩ := own_slice hown
                    subst hv2
                    obtain ⟨fz, cz, hmd⟩ := HFIN.out nq _ w' hown hgr
                    have HMD := Lib.hid hmd
                    clear hrun hown hgr hmd
                    go_wp2
                    go_roundw
                    case rel => exact ⟨j + 1, by omega, by omega, by go_num, HMD⟩
                    case measure => simp [intOf]; omega
                  · have e7 : decide (p < s) = false := decide_eq_false hps
                    go_wp2
                    go_quiet (fail)
                    go_wp2
                    go_roundw
                    case rel => exact ⟨j + 1, by omega, by omega, by go_num, Lib.hid ⟨rs, _, by have := HM.out; omega, HG.out, HROW2.out, HCB2.out, HRA2.out, belowN HBW2.out _⟩⟩
                    case measure => simp [intOf]; omega
            · have e1 : (z0 == (k : Int)) = false := by rw [beq_eq_false_iff_ne]; exact hq
              clear hrow hcb hra hbw
              go_wp2_with (go_at_call 34; refine (HP2.out _).mono ?_; rintro e w' ⟨rfl, rfl⟩)
              go_roundw
              case rel => exact ⟨j + 1, by omega, by omega, by go_num, Lib.hid (HJ.out.more (by omega))⟩
              case measure => simp [intOf]; omega
          · have j3 : ¬ (j : Int) < 12 := by omega
            clear hrow hcb hra hbw
            go_wp2
            go_roundw
            case rel => exact ⟨k + 1, by omega, by go_num, Lib.hid (HJ.out.more (by omega))⟩
            case measure => simp [intOf]; omega
        · have j3 : ¬ (j : Int) < (N : Int) := by omega
          clear hrow hcb hra hbw
          go_wp2
          go_roundw
          case rel => exact ⟨k + 1, by omega, by go_num, Lib.hid (HJ.out.more (by omega))⟩
          case measure => simp [intOf]; omega
    · obtain ⟨rs, v, hlen, hgood, hrow, hcb, hra, hbw⟩ := HI.out
      have b0 := hcb.cell 0
      have b1 := hcb.cell 1
      have r0 := hra.cell 0
      have r1 := hra.cell 1
      have f0 := hra.free 0
      have f1 := hra.free 1
      simp only [List.getElem?_toArray, List.getElem?_cons_zero, List.getElem?_cons_succ] at b0 b1 r0 r1
      have HROW := Lib.hid hrow; have HRA := Lib.hid hra; have HBW := Lib.hid hbw; have HG := Lib.hid hgood
      obtain ⟨A', c', rfl, -, -, -⟩ := own_slice hrow
      clear hrow hcb hra hbw hgood
      go_wp2
      have hfin : Row ((wr.setCell ⟨w.heap.size, 0, none⟩ (.int .i64 d)).setCell ⟨w.heap.size, 1, none⟩ (.slice A' rs.length c')) w.heap.size 24 #[.int .i64 d, .slice A' rs.length c'] := by
        have := (HRA.out.put 0 (.int .i64 d)).put 1 (.slice A' rs.length c')
        simpa using this
      have hown2 := ownsRow_setCell_below (ownsRow_setCell_below HROW.out (a := ⟨w.heap.size, 0, none⟩) (by show w.heap.size < _; omega) (.int .i64 d)) (a := ⟨w.heap.size, 1, none⟩) (by show w.heap.size < _; omega) (.slice A' rs.length c')
      refine bodyPost_ret (results_cell_row rfl _ _ w.heap.size 24 #[.int .i64 d, .slice A' rs.length c'] (0, 0) _ rfl hfin Try.underlying24 rfl (by kernel_rfl)) rfl ?_
      exact ⟨d, rs, _, rfl, ⟨_, _, rfl, recs3_of_own hown2 rfl⟩, d1, by omega, HG.out, by omega, (HBW.out.setCell (Nat.le_refl _) _).setCell (Nat.le_refl _) _⟩
end Go.Proofs.Ytfbgfcpehlimfaa
