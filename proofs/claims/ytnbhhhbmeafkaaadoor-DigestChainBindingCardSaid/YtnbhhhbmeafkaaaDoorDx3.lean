/- Contract of VerifyExtension within the range. -/
import Derived.Test.YtnbhhhbmeafkaaaDoorDx2
namespace Go.Proofs.YtnbhhhbmeafkaaaDoor
open Go.RowKit

set_option maxRecDepth 100000 in
set_option maxHeartbeats 4000000 in
theorem vex_in (old root : List UInt8) (n m : Nat) (v : Value) (ps : List (List UInt8)) (w : World) (hv : Strs w w.heap.size v ps) (hl : ∀ s ∈ ps, s.length ≤ 1000) (ho : old.length ≤ 1000) (hr : root.length ≤ 1000)
    (hd1 : Dm.digs [old, root] = true) (hd2 : Dm.digs ps = true) (hm1 : 1 ≤ m) (hm : m ≤ n) (hn : n ≤ 9223372036854775807) (ht : TabOk w) :
    Calls Tryd.prog 31 #[strOf old, .int .i64 (m : Int), strOf root, .int .i64 (n : Int), v] w (VexPost (vexIn old root n m ps) w) := by
  have hb1 : Below w.heap.size w (w.alloc (.cells #[strOf old, strOf root] 9)) := (Below.refl _ w).alloc (Nat.le_refl _) _
  have ha1 := areDigs_any _ [old, root] (w.alloc (.cells #[strOf old, strOf root] 9)) (strs_new w [old, root] #[strOf old, strOf root] 2 rfl rfl (by omega)) (fun s hs => by simp at hs; rcases hs with rfl | rfl <;> omega)
  have ha2 := areDigs_any v ps (w.alloc (.cells #[strOf old, strOf root] 9)) (hv.next hb1) (fun s hs => by have := hl s hs; omega)
  rw [hd1] at ha1; rw [hd2] at ha2
  have hway := way_any n m hn (by omega) hm1 (w.alloc (.cells #[strOf old, strOf root] 9))
  have hol : old.length = 32 := digs_get [old, root] hd1 0 (by simp)
  have hpost : vexIn old root n m ps = vexWith old root (upto m (Dm.forks 64 0 n (m - 1))).reverse (fromOf (upto m (Dm.forks 64 0 n (m - 1)))) ps := rfl
  have hfl := Dm.forks_len 64 0 n (m - 1)
  have hul : (upto m (Dm.forks 64 0 n (m - 1))).length ≤ 64 := Nat.le_trans (List.takeWhile_prefix _).length_le hfl
  unfold WayPost at hway
  obtain ⟨fs, hfs⟩ : ∃ fs, upto m (Dm.forks 64 0 n (m - 1)) = fs := ⟨_, rfl⟩
  rw [hfs] at hway hul hpost
  rw [hpost]
  obtain ⟨fm, hfme⟩ : ∃ fm, fromOf fs = fm := ⟨_, rfl⟩
  rw [hfme] at hway ⊢
  have hfs1 : 0 < fm → 0 < fs.length := by
    intro h
    cases fs with
    | nil => simp [fromOf] at hfme; omega
    | cons f fs => simp
  clear hfl hfs hpost hfme
  obtain ⟨wa0, hwa0⟩ : ∃ x, w.alloc (.cells #[strOf old, strOf root] 9) = x := ⟨_, rfl⟩
  have hs0 : w.heap.size < wa0.heap.size := by rw [← hwa0]; simp
  have HA := Lib.hid ha1; have HA2 := Lib.hid ha2; have HW := Lib.hid hway; have HD2 := Lib.hid hd2; have HV := Lib.hid hv
  have HB1 := Lib.hid hb1
  clear ha1 ha2 hway hd1 hd2 hwa0 hs0 hb1 ho hr hl
  have hd0 : decide ((n : Int) < (m : Int)) = false := by simp; omega
  have hm0 : ((m : Int) == 0) = false := by simp; omega
  unfold vexWith
  by_cases h0 : 0 < fm
  · rw [if_pos h0]
    have i6 : (0 : Int) < (fm : Int) := by omega
    cases ps with
    | nil =>
      obtain ⟨A, c, rfl, hc1, hc2, hA⟩ := hv
      show Calls _ _ _ _ (VexPost false w)
      go_enter Tryd.func31, Tryd.ntmps31
      go_wp2_with (first | (go_at_call 50; refine HA.out.mono ?_; rintro e w' ⟨rfl, rfl⟩) | (go_at_call 50; refine HA2.out.mono ?_; rintro e w' ⟨rfl, rfl⟩) | (go_at_call 47; refine HW.out.mono ?_; rintro e w1 ⟨vv, rfl, hrow1, hbw1⟩; obtain ⟨A', c', rfl⟩ := own_slice hrow1))
      go_ret
      exact ⟨rfl, HB1.out.trans (hbw1.mono HB1.out.size)⟩
    | cons p rs =>
      have hdp : p.length = 32 ∧ Dm.digs rs = true := by have := HD2.out; simpa [Dm.digs] using this
      obtain ⟨A, c, rfl, hc1, hc2, hA⟩ := hv
      rcases hA with ⟨_, h⟩ | ⟨g, off, rfl, hg, hcell⟩
      · cases h
      have ha2 := HA2.out
      clear HA2 HV
      rw [List.length_cons] at hc1 ha2 ⊢
      have hf0 := hfs1 h0
      have hc0 : w.cell? ⟨g, off, none⟩ = some (strOf p) := hcell 0 p rfl
      show Calls _ _ _ _ (VexPost (vexEnd old root fs.reverse p rs) w)
      by_cases hlen : rs.length = fs.length
      · have he : vexEnd old root fs.reverse p rs = (climb2 fs.reverse rs p == old && Dm.climb fs.reverse rs p == root) := by unfold vexEnd; rw [show (rs.length == fs.reverse.length) = true from by simpa using hlen, Bool.true_and]
        rw [he]
        have HRS0 := Lib.hid (show Strs w w.heap.size (.slice (some ⟨g, off + 1, none⟩) fs.length (c - 1)) rs from ⟨_, _, by rw [hlen], by omega, by omega, .inr ⟨g, off + 1, rfl, hg, fun j s hj => by rw [show off + 1 + j = off + (j + 1) by omega]; exact hcell (j + 1) s (by simpa using hj)⟩⟩)
        rw [hlen] at hc1 ha2 ⊢
        have HA2 := Lib.hid ha2; have HXL := Lib.hid hdp.1; have HDP := Lib.hid hdp.2; have HLEN := Lib.hid hlen
        have hne : ((fs.length : Int) != (fs.length : Int)) = false := by simp
        unfold maxLen at hc2
        clear ha2 hdp hlen hcell he
        have j1 : ¬ c = 1 := by omega
        have j2 : (1 : Int) ≤ (c : Int) := by omega
        have j3 : (fs.length : Int) + 1 ≤ (c : Int) := by omega
        go_enter Tryd.func31, Tryd.ntmps31
        go_wp2_with (first | (go_at_call 50; refine HA.out.mono ?_; rintro e w' ⟨rfl, rfl⟩) | (go_at_call 50; refine HA2.out.mono ?_; rintro e w' ⟨rfl, rfl⟩) | (go_at_call 47; refine HW.out.mono ?_; rintro e w1 ⟨vv, rfl, hrow1, hbw1⟩; obtain ⟨A', c', rfl⟩ := own_slice hrow1; have cp0 := ((HB1.out.trans (hbw1.mono HB1.out.size)).cell (p := ⟨g, off, none⟩) hg).trans hc0))
        go_quiet (fail)
        go_wp2
        generalize Value.slice (some ⟨g, off, none⟩) (fs.length + 1) c = v4 at *
        generalize off + 1 = off1 at *
        generalize c - 1 = c1 at *
        try generalize Value.int .i64 ((fs.length : Int) + 1) = v58 at *
        try generalize Value.int .i64 ((fs.length + 1 : Nat) : Int) = v59 at *
        have HRS := Lib.hid HRS0.out
        clear HRS0 cp0
        have hxl : p.length = 32 := HXL.out
        have HBW1 := Lib.hid ((HB1.out.trans (hbw1.mono HB1.out.size))); have HROW1 := Lib.hid hrow1
        clear hrow1 hbw1
        go_loopw [13, 15, 16, 17, 73] (fun bf af _ _ i wr => ∃ k : Nat, k ≤ fs.length ∧ i = .int .i64 (k : Int) ∧ bf = strOf (climb2 (fs.reverse.take k) (rs.take k) p) ∧ af = strOf (Dm.climb (fs.reverse.take k) (rs.take k) p) ∧ wr.ownsRow (w.alloc (.cells #[strOf old, strOf root] 9)).heap.size 57 4 (.slice A' fs.length c') fs.length (fkCells fs.reverse) ∧ Below w.heap.size w wr)
          (fun _ _ _ _ i _ => fs.length - (intOf i).toNat)
        case atStart => exact ⟨0, by omega, rfl, rfl, rfl, HROW1.out, HBW1.out.trans ⟨rfl, rfl, rfl, Nat.le_refl _, fun _ _ => rfl⟩⟩
        case round =>
          obtain ⟨k, hk, rfl, rfl, rfl, hrw, hbw⟩ := hrel
          by_cases hlt : k < fs.length
          · obtain ⟨gr, cap, hve⟩ : ∃ gr cap, Value.slice A' fs.length c' = .slice (some ⟨gr, 0, none⟩) fs.length cap := by
              rcases hrw.2 with ⟨_, h0⟩ | ⟨gr, cap, cur, h, _⟩
              · omega
              · exact ⟨gr, cap, h⟩
            cases hve
            obtain ⟨A2, c2, he2, hc3, hc4, hA2⟩ := HRS.out
            obtain ⟨hq1, -, hq2⟩ := Value.slice.inj he2
            subst hq1; subst hq2
            clear he2
            rcases hA2 with ⟨_, hp⟩ | ⟨gp, of, hA3, hgp, hcell⟩
            · have := HLEN.out; rw [hp] at this; simp at this; omega
            have hA4 : gp = g ∧ of = off1 := by cases hA3; exact ⟨rfl, rfl⟩
            clear hA3
            obtain ⟨hA5, hA6⟩ := hA4
            subst hA5; subst hA6
            have hkp : k < rs.length := by have := HLEN.out; omega
            have hkr : k < fs.reverse.length := by simpa using hlt
            have hsn := climb_snoc fs.reverse rs p k hkr hkp
            have hsn2 := climb2_snoc fs.reverse rs p k hkr hkp
            have hvl := climb_len (fs.reverse.take k) (rs.take k) p hxl
            have hvl2 := climb2_len (fs.reverse.take k) (rs.take k) p hxl
            have hpl := digs_get rs HDP.out k hkp
            obtain ⟨f, hf⟩ : ∃ f, fs.reverse[k] = f := ⟨_, rfl⟩
            obtain ⟨pk, hp⟩ : ∃ pk, rs[k] = pk := ⟨_, rfl⟩
            obtain ⟨a1, hx1⟩ : ∃ x, Dm.climb (fs.reverse.take k) (rs.take k) p = x := ⟨_, rfl⟩
            obtain ⟨a2, hx2⟩ : ∃ x, climb2 (fs.reverse.take k) (rs.take k) p = x := ⟨_, rfl⟩
            have c0 := own_fk hrw k 0 (by omega) hkr (by simp)
            have c1 := own_fk hrw k 1 (by omega) hkr (by simp)
            have c2 := own_fk hrw k 2 (by omega) hkr (by simp)
            have c3 := own_fk hrw k 3 (by omega) hkr (by simp)
            rw [hf] at c0 c1 c2 c3 hsn hsn2
            rw [hp] at hsn hsn2 hpl
            rw [hx1] at hsn hvl ⊢
            rw [hx2] at hsn2 hvl2 ⊢
            simp only [List.getElem?_cons_zero, List.getElem?_cons_succ, Nat.add_zero] at c0 c1 c2 c3
            have cp := hcell k pk (by rw [List.getElem?_eq_getElem hkp, hp])
            replace cp := (hbw.cell (p := ⟨gp, of + k, none⟩) hgp).trans cp
            have hgw : gp < wr.heap.size := by have := hbw.size; omega
            have HJ1 := Lib.hid (fun u (hu : Below w.heap.size w u) => join_any f a1 pk u (by omega) (ht.next hu))
            have HJ2 := Lib.hid (fun u (hu : Below w.heap.size w u) => join_any f a2 pk u (by omega) (ht.next hu))
            have HSN := Lib.hid hsn; have HSN2 := Lib.hid hsn2; have HRW := Lib.hid hrw; have HBW := Lib.hid hbw; have HGW := Lib.hid hgw
            clear hsn hsn2 hrw hf hp hx1 hx2 hcell hvl hvl2 hpl hbw
            obtain ⟨fr, mid, to, sec⟩ := f
            dsimp only at c0 c1 c2 c3
            have i1 : (k : Int) < (fs.length : Int) := by omega
            have i2 : (0 : Int) ≤ (k : Int) := by omega
            have rf := Row.new wr 57 #[.int .i64 (fr : Int), .int .i64 (mid : Int), .int .i64 (to : Int), .bool sec]
            have q0 := rf.cell 0; have q1 := rf.cell 1; have q2 := rf.cell 2; have q3 := rf.cell 3
            simp only [List.getElem?_toArray, List.getElem?_cons_zero, List.getElem?_cons_succ] at q0 q1 q2 q3
            have qp : (wr.alloc (.cells #[.int .i64 (fr : Int), .int .i64 (mid : Int), .int .i64 (to : Int), .bool sec] 57)).cell? ⟨gp, of + k, none⟩ = some (strOf pk) := (World.cell?_alloc_lt _ _ _ hgw).trans cp
            have HWB := Lib.hid (show Below wr.heap.size wr (wr.alloc (.cells #[.int .i64 (fr : Int), .int .i64 (mid : Int), .int .i64 (to : Int), .bool sec] 57)) from (Below.refl _ _).alloc (Nat.le_refl _) _)
            have HBA := Lib.hid (show Below w.heap.size w (wr.alloc (.cells #[.int .i64 (fr : Int), .int .i64 (mid : Int), .int .i64 (to : Int), .bool sec] 57)) from HBW.out.alloc HBW.out.size _)
            have HWA := Lib.hid (show (wr.alloc (.cells #[.int .i64 (fr : Int), .int .i64 (mid : Int), .int .i64 (to : Int), .bool sec] 57)).heap.size = wr.heap.size + 1 from by simp)
            clear rf
            rcases sec with _ | _
            · go_wp2
              generalize wr.alloc (.cells #[.int .i64 (fr : Int), .int .i64 (mid : Int), .int .i64 (to : Int), .bool false] 57) = wa at *
              clear c0 c1 c2 c3 cp
              go_still_tail 6, (by kernel_rfl)
              change wpList _ _ _ _ _ wa.drew
              go_wp2_with fail
              refine (HJ1.out _ HBA.out.drew).mono ?_
              rintro e w5 ⟨rfl, hb5⟩
              have hb6 : Below wr.heap.size wr w5 := (HWB.out.drew).trans (hb5.mono HWB.out.size)
              have hlt5 : wr.heap.size < wa.heap.size := by (have := HWA.out; omega)
              have hlt6 : gp < wa.heap.size := by (have := HWA.out; have := HGW.out; omega)
              replace q0 := (hb5.cell (p := ⟨wr.heap.size, 0, none⟩) hlt5).trans q0
              replace q1 := (hb5.cell (p := ⟨wr.heap.size, 1, none⟩) hlt5).trans q1
              replace q2 := (hb5.cell (p := ⟨wr.heap.size, 2, none⟩) hlt5).trans q2
              replace q3 := (hb5.cell (p := ⟨wr.heap.size, 3, none⟩) hlt5).trans q3
              replace qp := (hb5.cell (p := ⟨gp, of + k, none⟩) hlt6).trans qp
              have HB6 := Lib.hid hb6
              clear hb5 hb6 hlt5 hlt6
              go_wp2
              go_roundw
              case rel => first | exact ⟨k + 1, by omega, by go_num, by rw [HSN2.out]; rfl, by rw [HSN.out], own_below HRW.out HB6.out (own_lt HRW.out), HBW.out.trans (HB6.out.mono HBW.out.size)⟩ | ((repeat apply Exists.intro); refine ⟨?_, rfl⟩; exact ⟨k + 1, by omega, by go_num, by rw [HSN2.out]; rfl, by rw [HSN.out], own_below HRW.out HB6.out (own_lt HRW.out), HBW.out.trans (HB6.out.mono HBW.out.size)⟩) | ((repeat apply Exists.intro); refine ⟨rfl, ?_⟩; exact ⟨k + 1, by omega, by go_num, by rw [HSN2.out]; rfl, by rw [HSN.out], own_below HRW.out HB6.out (own_lt HRW.out), HBW.out.trans (HB6.out.mono HBW.out.size)⟩)
              case measure => simp [intOf]; omega
            · go_wp2
              generalize wr.alloc (.cells #[.int .i64 (fr : Int), .int .i64 (mid : Int), .int .i64 (to : Int), .bool true] 57) = wa at *
              clear c0 c1 c2 c3 cp
              go_still_tail 6, (by kernel_rfl)
              change wpList _ _ _ _ _ wa.drew
              go_wp2_with fail
              refine (HJ1.out _ HBA.out.drew).mono ?_
              rintro e w5 ⟨rfl, hb5⟩
              have hb6 : Below wr.heap.size wr w5 := (HWB.out.drew).trans (hb5.mono HWB.out.size)
              have hlt5 : wr.heap.size < wa.heap.size := by (have := HWA.out; omega)
              have hlt6 : gp < wa.heap.size := by (have := HWA.out; have := HGW.out; omega)
              replace q0 := (hb5.cell (p := ⟨wr.heap.size, 0, none⟩) hlt5).trans q0
              replace q1 := (hb5.cell (p := ⟨wr.heap.size, 1, none⟩) hlt5).trans q1
              replace q2 := (hb5.cell (p := ⟨wr.heap.size, 2, none⟩) hlt5).trans q2
              replace q3 := (hb5.cell (p := ⟨wr.heap.size, 3, none⟩) hlt5).trans q3
              replace qp := (hb5.cell (p := ⟨gp, of + k, none⟩) hlt6).trans qp
              have HB6 := Lib.hid hb6
              clear hb5 hb6 hlt5 hlt6
              go_wp2
              go_still_tail 6, (by kernel_rfl)
              change wpList _ _ _ _ _ w5.drew
              go_wp2_with fail
              refine (HJ2.out _ (HBW.out.trans (HB6.out.mono HBW.out.size)).drew).mono ?_
              rintro e w7 ⟨rfl, hb7⟩
              have HB7 := Lib.hid ((HB6.out.drew).trans (hb7.mono HB6.out.size))
              clear hb7
              go_wp2
              go_roundw
              case rel => first | exact ⟨k + 1, by omega, by go_num, by rw [HSN2.out]; rfl, by rw [HSN.out], own_below HRW.out HB7.out (own_lt HRW.out), HBW.out.trans (HB7.out.mono HBW.out.size)⟩ | ((repeat apply Exists.intro); refine ⟨?_, rfl⟩; exact ⟨k + 1, by omega, by go_num, by rw [HSN2.out]; rfl, by rw [HSN.out], own_below HRW.out HB7.out (own_lt HRW.out), HBW.out.trans (HB7.out.mono HBW.out.size)⟩) | ((repeat apply Exists.intro); refine ⟨rfl, ?_⟩; exact ⟨k + 1, by omega, by go_num, by rw [HSN2.out]; rfl, by rw [HSN.out], own_below HRW.out HB7.out (own_lt HRW.out), HBW.out.trans (HB7.out.mono HBW.out.size)⟩)
              case measure => simp [intOf]; omega
          · have ht1 : fs.reverse.take k = fs.reverse := List.take_of_length_le (by simp; omega)
            have ht2 : rs.take k = rs := List.take_of_length_le (by have := HLEN.out; omega)
            rw [ht1, ht2]
            obtain ⟨a1, hx1⟩ : ∃ x, Dm.climb fs.reverse rs p = x := ⟨_, rfl⟩
            obtain ⟨a2, hx2⟩ : ∃ x, climb2 fs.reverse rs p = x := ⟨_, rfl⟩
            rw [hx1, hx2]
            have HX1 := Lib.hid hx1; have HX2 := Lib.hid hx2; have HBW := Lib.hid hbw
            clear hrw hbw hx1 hx2 ht1 ht2
            by_cases hq : a2 = old
            · rw [hq] at HX2 ⊢
              clear hq
              go_wp2
              go_ret
              exact ⟨ret_bool (by rw [HX2.out, HX1.out, bs_eqb]; simp), HBW.out⟩
            · have hq2 : (a2 == old) = false := by simpa using hq
              have HQ := Lib.hid hq2
              rw [← bs_eqb] at hq2
              go_wp2
              go_ret
              exact ⟨ret_bool (by rw [HX2.out, HQ.out]; rfl), HBW.out⟩
      · have hne : ((rs.length : Int) != (fs.length : Int)) = true := by simp; omega
        have he : vexEnd old root fs.reverse p rs = false := by unfold vexEnd; rw [show (rs.length == fs.reverse.length) = false from by simpa using hlen, Bool.false_and]
        rw [he]
        have HA2 := Lib.hid ha2
        unfold maxLen at hc2
        clear ha2 hdp hcell he
        have j2 : (1 : Int) ≤ (c : Int) := by omega
        have j3 : (rs.length : Int) + 1 ≤ (c : Int) := by omega
        by_cases j1 : c = 1
        case' pos => subst j1
        all_goals
          go_enter Tryd.func31, Tryd.ntmps31
          go_wp2_with (first | (go_at_call 50; refine HA.out.mono ?_; rintro e w' ⟨rfl, rfl⟩) | (go_at_call 50; refine HA2.out.mono ?_; rintro e w' ⟨rfl, rfl⟩) | (go_at_call 47; refine HW.out.mono ?_; rintro e w1 ⟨vv, rfl, hrow1, hbw1⟩; obtain ⟨A', c', rfl⟩ := own_slice hrow1; have cp0 := ((HB1.out.trans (hbw1.mono HB1.out.size)).cell (p := ⟨g, off, none⟩) hg).trans hc0))
          go_quiet (fail)
          go_wp2
          go_ret
          exact ⟨rfl, (HB1.out.trans (hbw1.mono HB1.out.size)).trans ⟨rfl, rfl, rfl, Nat.le_refl _, fun _ _ => rfl⟩⟩
  · rw [if_neg h0]
    have i6 : decide ((0 : Int) < (fm : Int)) = false := by simp; omega
    by_cases hlen : ps.length = fs.length
    · have HXL := Lib.hid hol; have HDP := Lib.hid HD2.out
      have hlenN := hlen
      obtain ⟨A, c, rfl, hc1, hc2, hA⟩ := hv
      have ha2 := HA2.out
      rw [hlen] at hc1 ha2 ⊢
      clear HA2
      have HA2 := Lib.hid ha2
      clear ha2
      have HRS := Lib.hid (show Strs w w.heap.size (.slice A fs.length c) ps from by have := HV.out; rw [hlen] at this; exact this)
      have hne : ((fs.length : Int) != (fs.length : Int)) = false := by simp
      have HLEN := Lib.hid hlen
      have he : vexEnd old root fs.reverse old ps = (climb2 fs.reverse ps old == old && Dm.climb fs.reverse ps old == root) := by unfold vexEnd; rw [show (ps.length == fs.reverse.length) = true from by simpa using hlen, Bool.true_and]
      rw [he]
      clear hlen hlenN he hA
      go_enter Tryd.func31, Tryd.ntmps31
      go_wp2_with (first | (go_at_call 50; refine HA.out.mono ?_; rintro e w' ⟨rfl, rfl⟩) | (go_at_call 50; refine HA2.out.mono ?_; rintro e w' ⟨rfl, rfl⟩) | (go_at_call 47; refine HW.out.mono ?_; rintro e w1 ⟨vv, rfl, hrow1, hbw1⟩; obtain ⟨A', c', rfl⟩ := own_slice hrow1))
      have hxl : old.length = 32 := HXL.out
      have HBW1 := Lib.hid (HB1.out.trans (hbw1.mono HB1.out.size)); have HROW1 := Lib.hid hrow1
      clear hrow1 hbw1
      go_loopw [13, 15, 16, 17, 73] (fun bf af _ _ i wr => ∃ k : Nat, k ≤ fs.length ∧ i = .int .i64 (k : Int) ∧ bf = strOf (climb2 (fs.reverse.take k) (ps.take k) old) ∧ af = strOf (Dm.climb (fs.reverse.take k) (ps.take k) old) ∧ wr.ownsRow (w.alloc (.cells #[strOf old, strOf root] 9)).heap.size 57 4 (.slice A' fs.length c') fs.length (fkCells fs.reverse) ∧ Below w.heap.size w wr)
        (fun _ _ _ _ i _ => fs.length - (intOf i).toNat)
      case atStart => exact ⟨0, by omega, rfl, rfl, rfl, HROW1.out, HBW1.out⟩
      case round =>
        obtain ⟨k, hk, rfl, rfl, rfl, hrw, hbw⟩ := hrel
        by_cases hlt : k < fs.length
        · obtain ⟨gr, cap, hve⟩ : ∃ gr cap, Value.slice A' fs.length c' = .slice (some ⟨gr, 0, none⟩) fs.length cap := by
            rcases hrw.2 with ⟨_, h0⟩ | ⟨gr, cap, cur, h, _⟩
            · omega
            · exact ⟨gr, cap, h⟩
          cases hve
          obtain ⟨A2, c2, he2, hc3, hc4, hA2⟩ := HRS.out
          obtain ⟨hq1, -, hq2⟩ := Value.slice.inj he2
          subst hq1; subst hq2
          clear he2
          rcases hA2 with ⟨_, hp⟩ | ⟨gp, of, hA3, hgp, hcell⟩
          · have := HLEN.out; rw [hp] at this; simp at this; omega
          cases hA3
          have hkp : k < ps.length := by have := HLEN.out; omega
          have hkr : k < fs.reverse.length := by simpa using hlt
          have hsn := climb_snoc fs.reverse ps old k hkr hkp
          have hsn2 := climb2_snoc fs.reverse ps old k hkr hkp
          have hvl := climb_len (fs.reverse.take k) (ps.take k) old hxl
          have hvl2 := climb2_len (fs.reverse.take k) (ps.take k) old hxl
          have hpl := digs_get ps HDP.out k hkp
          obtain ⟨f, hf⟩ : ∃ f, fs.reverse[k] = f := ⟨_, rfl⟩
          obtain ⟨pk, hp⟩ : ∃ pk, ps[k] = pk := ⟨_, rfl⟩
          obtain ⟨a1, hx1⟩ : ∃ x, Dm.climb (fs.reverse.take k) (ps.take k) old = x := ⟨_, rfl⟩
          obtain ⟨a2, hx2⟩ : ∃ x, climb2 (fs.reverse.take k) (ps.take k) old = x := ⟨_, rfl⟩
          have c0 := own_fk hrw k 0 (by omega) hkr (by simp)
          have c1 := own_fk hrw k 1 (by omega) hkr (by simp)
          have c2 := own_fk hrw k 2 (by omega) hkr (by simp)
          have c3 := own_fk hrw k 3 (by omega) hkr (by simp)
          rw [hf] at c0 c1 c2 c3 hsn hsn2
          rw [hp] at hsn hsn2 hpl
          rw [hx1] at hsn hvl ⊢
          rw [hx2] at hsn2 hvl2 ⊢
          simp only [List.getElem?_cons_zero, List.getElem?_cons_succ, Nat.add_zero] at c0 c1 c2 c3
          have cp := hcell k pk (by rw [List.getElem?_eq_getElem hkp, hp])
          replace cp := (hbw.cell (p := ⟨gp, of + k, none⟩) hgp).trans cp
          have hgw : gp < wr.heap.size := by have := hbw.size; omega
          have HJ1 := Lib.hid (fun u (hu : Below w.heap.size w u) => join_any f a1 pk u (by omega) (ht.next hu))
          have HJ2 := Lib.hid (fun u (hu : Below w.heap.size w u) => join_any f a2 pk u (by omega) (ht.next hu))
          have HSN := Lib.hid hsn; have HSN2 := Lib.hid hsn2; have HRW := Lib.hid hrw; have HBW := Lib.hid hbw; have HGW := Lib.hid hgw
          clear hsn hsn2 hrw hf hp hx1 hx2 hcell hvl hvl2 hpl hbw
          obtain ⟨fr, mid, to, sec⟩ := f
          dsimp only at c0 c1 c2 c3
          have i1 : (k : Int) < (fs.length : Int) := by omega
          have i2 : (0 : Int) ≤ (k : Int) := by omega
          have rf := Row.new wr 57 #[.int .i64 (fr : Int), .int .i64 (mid : Int), .int .i64 (to : Int), .bool sec]
          have q0 := rf.cell 0; have q1 := rf.cell 1; have q2 := rf.cell 2; have q3 := rf.cell 3
          simp only [List.getElem?_toArray, List.getElem?_cons_zero, List.getElem?_cons_succ] at q0 q1 q2 q3
          have qp : (wr.alloc (.cells #[.int .i64 (fr : Int), .int .i64 (mid : Int), .int .i64 (to : Int), .bool sec] 57)).cell? ⟨gp, of + k, none⟩ = some (strOf pk) := (World.cell?_alloc_lt _ _ _ hgw).trans cp
          have HWB := Lib.hid (show Below wr.heap.size wr (wr.alloc (.cells #[.int .i64 (fr : Int), .int .i64 (mid : Int), .int .i64 (to : Int), .bool sec] 57)) from (Below.refl _ _).alloc (Nat.le_refl _) _)
          have HBA := Lib.hid (show Below w.heap.size w (wr.alloc (.cells #[.int .i64 (fr : Int), .int .i64 (mid : Int), .int .i64 (to : Int), .bool sec] 57)) from HBW.out.alloc HBW.out.size _)
          have HWA := Lib.hid (show (wr.alloc (.cells #[.int .i64 (fr : Int), .int .i64 (mid : Int), .int .i64 (to : Int), .bool sec] 57)).heap.size = wr.heap.size + 1 from by simp)
          clear rf
          rcases sec with _ | _
          · go_wp2
            generalize wr.alloc (.cells #[.int .i64 (fr : Int), .int .i64 (mid : Int), .int .i64 (to : Int), .bool false] 57) = wa at *
            clear c0 c1 c2 c3 cp
            go_still_tail 6, (by kernel_rfl)
            change wpList _ _ _ _ _ wa.drew
            go_wp2_with fail
            refine (HJ1.out _ HBA.out.drew).mono ?_
            rintro e w5 ⟨rfl, hb5⟩
            have hb6 : Below wr.heap.size wr w5 := (HWB.out.drew).trans (hb5.mono HWB.out.size)
            have hlt5 : wr.heap.size < wa.heap.size := by (have := HWA.out; omega)
            have hlt6 : gp < wa.heap.size := by (have := HWA.out; have := HGW.out; omega)
            replace q0 := (hb5.cell (p := ⟨wr.heap.size, 0, none⟩) hlt5).trans q0
            replace q1 := (hb5.cell (p := ⟨wr.heap.size, 1, none⟩) hlt5).trans q1
            replace q2 := (hb5.cell (p := ⟨wr.heap.size, 2, none⟩) hlt5).trans q2
            replace q3 := (hb5.cell (p := ⟨wr.heap.size, 3, none⟩) hlt5).trans q3
            replace qp := (hb5.cell (p := ⟨gp, of + k, none⟩) hlt6).trans qp
            have HB6 := Lib.hid hb6
            clear hb5 hb6 hlt5 hlt6
            go_wp2
            go_roundw
            case rel => exact ⟨k + 1, by omega, by go_num, by rw [HSN2.out]; rfl, by rw [HSN.out], own_below HRW.out HB6.out (own_lt HRW.out), HBW.out.trans (HB6.out.mono HBW.out.size)⟩
            case measure => simp [intOf]; omega
          · go_wp2
            generalize wr.alloc (.cells #[.int .i64 (fr : Int), .int .i64 (mid : Int), .int .i64 (to : Int), .bool true] 57) = wa at *
            clear c0 c1 c2 c3 cp
            go_still_tail 6, (by kernel_rfl)
            change wpList _ _ _ _ _ wa.drew
            go_wp2_with fail
            refine (HJ1.out _ HBA.out.drew).mono ?_
            rintro e w5 ⟨rfl, hb5⟩
            have hb6 : Below wr.heap.size wr w5 := (HWB.out.drew).trans (hb5.mono HWB.out.size)
            have hlt5 : wr.heap.size < wa.heap.size := by (have := HWA.out; omega)
            have hlt6 : gp < wa.heap.size := by (have := HWA.out; have := HGW.out; omega)
            replace q0 := (hb5.cell (p := ⟨wr.heap.size, 0, none⟩) hlt5).trans q0
            replace q1 := (hb5.cell (p := ⟨wr.heap.size, 1, none⟩) hlt5).trans q1
            replace q2 := (hb5.cell (p := ⟨wr.heap.size, 2, none⟩) hlt5).trans q2
            replace q3 := (hb5.cell (p := ⟨wr.heap.size, 3, none⟩) hlt5).trans q3
            replace qp := (hb5.cell (p := ⟨gp, of + k, none⟩) hlt6).trans qp
            have HB6 := Lib.hid hb6
            clear hb5 hb6 hlt5 hlt6
            go_wp2
            go_still_tail 6, (by kernel_rfl)
            change wpList _ _ _ _ _ w5.drew
            go_wp2_with fail
            refine (HJ2.out _ (HBW.out.trans (HB6.out.mono HBW.out.size)).drew).mono ?_
            rintro e w7 ⟨rfl, hb7⟩
            have HB7 := Lib.hid ((HB6.out.drew).trans (hb7.mono HB6.out.size))
            clear hb7
            go_wp2
            go_roundw
            case rel => exact ⟨k + 1, by omega, by go_num, by rw [HSN2.out]; rfl, by rw [HSN.out], own_below HRW.out HB7.out (own_lt HRW.out), HBW.out.trans (HB7.out.mono HBW.out.size)⟩
            case measure => simp [intOf]; omega
        · have ht1 : fs.reverse.take k = fs.reverse := List.take_of_length_le (by simp; omega)
          have ht2 : ps.take k = ps := List.take_of_length_le (by have := HLEN.out; omega)
          rw [ht1, ht2]
          obtain ⟨a1, hx1⟩ : ∃ x, Dm.climb fs.reverse ps old = x := ⟨_, rfl⟩
          obtain ⟨a2, hx2⟩ : ∃ x, climb2 fs.reverse ps old = x := ⟨_, rfl⟩
          rw [hx1, hx2]
          have HX1 := Lib.hid hx1; have HX2 := Lib.hid hx2; have HBW := Lib.hid hbw
          clear hrw hbw hx1 hx2 ht1 ht2
          by_cases hq : a2 = old
          · rw [hq] at HX2 ⊢
            clear hq
            go_wp2
            go_ret
            exact ⟨ret_bool (by rw [HX2.out, HX1.out, bs_eqb]; simp), HBW.out⟩
          · have hq2 : (a2 == old) = false := by simpa using hq
            have HQ := Lib.hid hq2
            rw [← bs_eqb] at hq2
            go_wp2
            go_ret
            exact ⟨ret_bool (by rw [HX2.out, HQ.out]; rfl), HBW.out⟩
    · have hne : ((ps.length : Int) != (fs.length : Int)) = true := by simp; omega
      have he : vexEnd old root fs.reverse old ps = false := by unfold vexEnd; rw [show (ps.length == fs.reverse.length) = false from by simpa using hlen, Bool.false_and]
      rw [he]
      obtain ⟨A, c, rfl, hc1, hc2, hA⟩ := hv
      go_enter Tryd.func31, Tryd.ntmps31
      go_wp2_with (first | (go_at_call 50; refine HA.out.mono ?_; rintro e w' ⟨rfl, rfl⟩) | (go_at_call 50; refine HA2.out.mono ?_; rintro e w' ⟨rfl, rfl⟩) | (go_at_call 47; refine HW.out.mono ?_; rintro e w1 ⟨vv, rfl, hrow1, hbw1⟩; obtain ⟨A', c', rfl⟩ := own_slice hrow1))
      go_ret
      exact ⟨rfl, HB1.out.trans (hbw1.mono HB1.out.size)⟩
end Go.Proofs.YtnbhhhbmeafkaaaDoor
