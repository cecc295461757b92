/- The reference's block: the schedule of its words, as a walk of its first two loops. -/
import Derived.Test.YtnbhhhbmeafkaaaDoorE13
import Derived.BigRegion
namespace Go.Proofs.YtnbhhhbmeafkaaaDoor
open Go.RowKit
attribute [local go_sem ↓] append_appN

theorem own_drewN {w : World} {base : Nat} {e : TypeId} {size : Nat} {v : Value} {n : Nat} {xs : List Value} (h : w.ownsRow base e size v n xs) (m : Nat) : (w.drewN m).ownsRow base e size v n xs := h
set_option maxRecDepth 100000 in
set_option maxHeartbeats 4000000 in
theorem refBlock_any (s : Dm.St) (hs : s.ok) (b : List UInt8) (hb : b.length = 64) (gh ch gb ob cb : Nat) (w : World) (hgh : gh < w.heap.size) (hgb : gb < w.heap.size)
    (hcb : ∀ i, i < 64 → w.cell? ⟨gb, ob + i, none⟩ = some (.int .u8 ((b.getD i 0).toNat : Int))) (hchh : ∀ i, i < 8 → w.cell? ⟨gh, i, none⟩ = some (.int .u32 ((s.l.getD i 0 : Nat) : Int))) :
    Calls Tryd.prog 42 #[.slice (some ⟨gh, 0, none⟩) 8 ch, .slice (some ⟨gb, ob, none⟩) 64 cb] w fun e w' => ∃ v, e = .returned v ∧ w'.ownsRow w.heap.size 48 1 v 8 (wordCells (Dm.mix s b).l) ∧ Below w.heap.size w w' := by
  obtain ⟨i0, hi0, hz0, hz1, hz2⟩ := info_parts Tryd.infoU32
  have HCB := Lib.hid hcb; have HCH := Lib.hid hchh; have HS := Lib.hid hs; have HB := Lib.hid hb
  clear hcb hchh hs hb
  go_enter Tryd.func42, Tryd.ntmps42
  go_wp2
  go_loopw [5, 6] (fun v i wr => ∃ k : Nat, k ≤ 16 ∧ i = .int .i64 (k : Int) ∧ wr.ownsRow w.heap.size 48 1 v k (wordCells ((Dm.words b).take k)) ∧ Below w.heap.size w wr) (fun _ i _ => 16 - (intOf i).toNat)
  case atStart => exact ⟨0, by omega, rfl, World.ownsRow_nil _ _ _ _, Below.refl _ _⟩
  case round =>
    obtain ⟨k, hk, rfl, hown, hbw⟩ := hrel
    by_cases hlt : k < 16
    · have cc := fun i (hi : i < 64) => (hbw.cell (p := ⟨gb, ob + i, none⟩) hgb).trans (HCB.out i hi)
      have c0 := cc (4 * k) (by omega)
      have c1 := cc (4 * k + 1) (by omega)
      have c2 := cc (4 * k + 2) (by omega)
      have c3 := cc (4 * k + 3) (by omega)
      have u0 := (b.getD (4 * k) 0).toNat_lt
      have u1 := (b.getD (4 * k + 1) 0).toNat_lt
      have u2 := (b.getD (4 * k + 2) 0).toNat_lt
      have u3 := (b.getD (4 * k + 3) 0).toNat_lt
      generalize hx0 : (b.getD (4 * k) 0).toNat = x0 at c0 u0
      generalize hx1 : (b.getD (4 * k + 1) 0).toNat = x1 at c1 u1
      generalize hx2 : (b.getD (4 * k + 2) 0).toNat = x2 at c2 u2
      generalize hx3 : (b.getD (4 * k + 3) 0).toNat = x3 at c3 u3
      have q0 : IntKind.u32.wrap (x0 : Int) = x0 := by rw [IntKind.wrap_u32]; omega
      have q1 : IntKind.u32.wrap (x1 : Int) = x1 := by rw [IntKind.wrap_u32]; omega
      have q2 : IntKind.u32.wrap (x2 : Int) = x2 := by rw [IntKind.wrap_u32]; omega
      have q3 : IntKind.u32.wrap (x3 : Int) = x3 := by rw [IntKind.wrap_u32]; omega
      obtain ⟨y0, hy0⟩ : ∃ y, x0 * 16777216 = y := ⟨_, rfl⟩
      obtain ⟨y1, hy1⟩ : ∃ y, x1 * 65536 = y := ⟨_, rfl⟩
      obtain ⟨y2, hy2⟩ : ∃ y, x2 * 256 = y := ⟨_, rfl⟩
      have z0 : IntKind.u32.wrap ((x0 : Int) * 16777216) = (y0 : Int) := by rw [IntKind.wrap_u32]; omega
      have z1 : IntKind.u32.wrap ((x1 : Int) * 65536) = (y1 : Int) := by rw [IntKind.wrap_u32]; omega
      have z2 : IntKind.u32.wrap ((x2 : Int) * 256) = (y2 : Int) := by rw [IntKind.wrap_u32]; omega
      have o1 := or_u32 y0 y1 (by omega) (by omega)
      have o1' := Dm.or_lt y0 y1 (by omega) (by omega)
      obtain ⟨s1, hs1⟩ : ∃ y, y0 ||| y1 = y := ⟨_, rfl⟩
      rw [hs1] at o1 o1'
      have o2 := or_u32 s1 y2 (by omega) (by omega)
      have o2' := Dm.or_lt s1 y2 (by omega) (by omega)
      obtain ⟨s2, hs2⟩ : ∃ y, s1 ||| y2 = y := ⟨_, rfl⟩
      rw [hs2] at o2 o2'
      have o3 := or_u32 s2 x3 (by omega) (by omega)
      obtain ⟨s3, hs3⟩ : ∃ y, s2 ||| x3 = y := ⟨_, rfl⟩
      rw [hs3] at o3
      have hw : Dm.word b k = s3 := by unfold Dm.word; rw [hx0, hx1, hx2, hx3, hy0, hy1, hy2, hs1, hs2, hs3]
      have htk : (Dm.words b).take (k + 1) = (Dm.words b).take k ++ [s3] := by
        have h1 : k < (Dm.words b).length := by rw [Dm.words_len]; omega
        have h2 : (Dm.words b)[k] = s3 := by simp [Dm.words, hw]
        rw [List.take_succ_eq_append_getElem h1, h2]
      obtain ⟨v2, w2, hrun, hown2, hb2⟩ := snoc_u32 (b := s3) hi0 hz0 hz1 hz2 hown.drew hbw.drew (by omega)
      have hrun2 : Sem.run Tryd.prog (appN #[49, 49] 49 #[_, .slice (some ⟨wr.heap.size, 0, none⟩) 1 1]) (wr.alloc (.cells #[.int .u32 (s3 : Int)] 48)).drew = .ok v2 w2 := hrun
      rw [← htk] at hown2
      have HO := Lib.hid hown2; have HB2 := Lib.hid hb2
      clear hy0 hy1 hy2 hs1 hs2 hs3 o1' o2' hw htk hx0 hx1 hx2 hx3 cc hrun hown2 hb2 hown hbw
      have a1 : (0 : Int) ≤ 4 * (k : Int) + 1 := by omega
      have a2 : (0 : Int) ≤ 4 * (k : Int) + 2 := by omega
      have a3 : (0 : Int) ≤ 4 * (k : Int) + 3 := by omega
      have a0 : (0 : Int) ≤ 4 * (k : Int) := by omega
      have l0 : 4 * (k : Int) < 64 := by omega
      have l1 : 4 * (k : Int) + 1 < 64 := by omega
      have l2 : 4 * (k : Int) + 2 < 64 := by omega
      have l3 : 4 * (k : Int) + 3 < 64 := by omega
      have t0 : (4 * (k : Int)).toNat = 4 * k := by omega
      have t1 : (4 * (k : Int) + 1).toNat = 4 * k + 1 := by omega
      have t2 : (4 * (k : Int) + 2).toNat = 4 * k + 2 := by omega
      have t3 : (4 * (k : Int) + 3).toNat = 4 * k + 3 := by omega
      have w0 : IntKind.i64.wrap (4 * (k : Int)) = 4 * (k : Int) := IntWalk.i64_in _ (by omega)
      have w1 : IntKind.i64.wrap (4 * (k : Int) + 1) = 4 * (k : Int) + 1 := IntWalk.i64_in _ (by omega)
      have w2' : IntKind.i64.wrap (4 * (k : Int) + 2) = 4 * (k : Int) + 2 := IntWalk.i64_in _ (by omega)
      have w3 : IntKind.i64.wrap (4 * (k : Int) + 3) = 4 * (k : Int) + 3 := IntWalk.i64_in _ (by omega)
      go_wp2
      go_region
      go_wp2
      go_roundw
      case rel => exact ⟨k + 1, by omega, by go_num, HO.out, HB2.out⟩
      case measure => simp [intOf]; omega
    · have hk16 : k = 16 := by omega
      rw [hk16, List.take_of_length_le (by rw [Dm.words_len]; omega)] at hown
      have HO := Lib.hid hown; have HB2 := Lib.hid hbw
      clear hown hbw hk16
      go_wp2
      go_loopw [5, 7, 8, 9] (fun v i _ _ wr => ∃ k : Nat, 16 ≤ k ∧ k ≤ 64 ∧ i = .int .i64 (k : Int) ∧ wr.ownsRow w.heap.size 48 1 v k (wordCells (Dm.sched (k - 16) (Dm.words b))) ∧ Below w.heap.size w wr) (fun _ i _ _ _ => 64 - (intOf i).toNat)
      case atStart => exact ⟨16, by omega, by omega, rfl, HO.out, HB2.out⟩
      case round =>
        obtain ⟨k, hk1, hk, rfl, hown, hbw⟩ := hrel
        obtain ⟨gv, cv, rfl, hgv, -, hcv, hcv2⟩ := word_slice hown (by omega)
        have hl := Dm.sched_len (k - 16) (Dm.words b)
        rw [Dm.words_len] at hl
        obtain ⟨ws, hws⟩ : ∃ ws, Dm.sched (k - 16) (Dm.words b) = ws := ⟨_, rfl⟩
        have hwl := Dm.sched_lt (k - 16) (Dm.words b) (Dm.words_lt b)
        rw [hws] at hl hown hwl
        unfold maxLen at hcv2
        by_cases hlt : k < 64
        · have c15 := word_cell hown (k - 15) (by omega)
          have c2 := word_cell hown (k - 2) (by omega)
          have c16 := word_cell hown (k - 16) (by omega)
          have c7 := word_cell hown (k - 7) (by omega)
          have l15 := Dm.getD_lt ws hwl (k - 15)
          have l2 := Dm.getD_lt ws hwl (k - 2)
          have l16 := Dm.getD_lt ws hwl (k - 16)
          have l7 := Dm.getD_lt ws hwl (k - 7)
          generalize hv15 : ws.getD (k - 15) 0 = v15 at c15 l15
          generalize hv2 : ws.getD (k - 2) 0 = v2 at c2 l2
          generalize hv16 : ws.getD (k - 16) 0 = v16 at c16 l16
          generalize hv7 : ws.getD (k - 7) 0 = v7 at c7 l7
          obtain ⟨r7, r18, s1, h7, h18, x1, x2⟩ := lo_eqs v15 l15
          obtain ⟨r17, r19, s2, h17, h19, y1, y2⟩ := hi_eqs v2 l2
          have K7 := Lib.hid (fun w => refRot_any v15 7 w l15 (by decide) (by decide))
          have K18 := Lib.hid (fun w => refRot_any v15 18 w l15 (by decide) (by decide))
          have K17 := Lib.hid (fun w => refRot_any v2 17 w l2 (by decide) (by decide))
          have K19 := Lib.hid (fun w => refRot_any v2 19 w l2 (by decide) (by decide))
          rw [h7] at K7; rw [h18] at K18; rw [h17] at K17; rw [h19] at K19
          clear h7 h18 h17 h19
          have hlo := Dm.lo_lt v15 l15
          have hhi := Dm.hi_lt v2 l2
          obtain ⟨L, hL⟩ : ∃ L, Dm.lo v15 = L := ⟨_, rfl⟩
          obtain ⟨Hh, hH⟩ : ∃ L, Dm.hi v2 = L := ⟨_, rfl⟩
          rw [hL] at x2 hlo; rw [hH] at y2 hhi
          obtain ⟨p1, hp1⟩ : ∃ y, Dm.add v16 L = y := ⟨_, rfl⟩
          obtain ⟨p2, hp2⟩ : ∃ y, Dm.add p1 v7 = y := ⟨_, rfl⟩
          obtain ⟨p3, hp3⟩ : ∃ y, Dm.add p2 Hh = y := ⟨_, rfl⟩
          have z1 := add_u32 _ _ _ hp1
          have z2 := add_u32 _ _ _ hp2
          have z3 := add_u32 _ _ _ hp3
          have hn : Dm.next ws ws.length = p3 := by
            unfold Dm.next; rw [show ws.length = k from by omega, hv15, hv2, hv16, hv7, hL, hH, hp1, hp2, hp3]
          have hsn : Dm.sched (k + 1 - 16) (Dm.words b) = ws ++ [p3] := by
            rw [show k + 1 - 16 = (k - 16) + 1 from by omega, Dm.sched_snoc, hws, hn]
          have HSN := Lib.hid hsn
          have HOW := Lib.hid hown; have HBW := Lib.hid hbw
          clear hp1 hp2 hp3 hn hL hH hv15 hv2 hv16 hv7 hws hwl hl hsn hown hbw HO HB2
          have b15 : (15 : Int) ≤ (k : Int) := by omega
          have b2 : (2 : Int) ≤ (k : Int) := by omega
          have b16 : (16 : Int) ≤ (k : Int) := by omega
          have b7 : (7 : Int) ≤ (k : Int) := by omega
          have b0 : (0 : Int) ≤ (k : Int) := by omega
          have d15 : (0 : Int) ≤ (k : Int) - 15 := by omega
          have d2 : (0 : Int) ≤ (k : Int) - 2 := by omega
          have d16 : (0 : Int) ≤ (k : Int) - 16 := by omega
          have d7 : (0 : Int) ≤ (k : Int) - 7 := by omega
          have e15 : (k : Int) - 15 < (k : Int) := by omega
          have e2 : (k : Int) - 2 < (k : Int) := by omega
          have e16 : (k : Int) - 16 < (k : Int) := by omega
          have e7 : (k : Int) - 7 < (k : Int) := by omega
          have t15 : ((k : Int) - 15).toNat = k - 15 := by omega
          have t2 : ((k : Int) - 2).toNat = k - 2 := by omega
          have t16 : ((k : Int) - 16).toNat = k - 16 := by omega
          have t7 : ((k : Int) - 7).toNat = k - 7 := by omega
          have w15 : IntKind.i64.wrap ((k : Int) - 15) = (k : Int) - 15 := IntWalk.i64_in _ (by omega)
          have w2 : IntKind.i64.wrap ((k : Int) - 2) = (k : Int) - 2 := IntWalk.i64_in _ (by omega)
          have w16 : IntKind.i64.wrap ((k : Int) - 16) = (k : Int) - 16 := IntWalk.i64_in _ (by omega)
          have w7 : IntKind.i64.wrap ((k : Int) - 7) = (k : Int) - 7 := IntWalk.i64_in _ (by omega)
          go_wp2
          go_quiet (first | (go_at_call 60; (with_reducible refine Calls.quiet_of (K7.out _))) | (go_at_call 60; (with_reducible refine Calls.quiet_of (K18.out _))))
          replace HOW := Lib.hid (own_drewN HOW.out nq)
          replace HBW := Lib.hid (belowN HBW.out nq)
          replace c2 : (wr.drewN nq).cell? ⟨gv, k - 2, none⟩ = _ := c2
          replace c16 : (wr.drewN nq).cell? ⟨gv, k - 16, none⟩ = _ := c16
          replace c7 : (wr.drewN nq).cell? ⟨gv, k - 7, none⟩ = _ := c7
          clear c15 hgv
          generalize wr.drewN nq = u at *
          clear nq
          go_wp2
          go_quiet (first | (go_at_call 60; (with_reducible refine Calls.quiet_of (K17.out _))) | (go_at_call 60; (with_reducible refine Calls.quiet_of (K19.out _))))
          go_wp2
          replace HOW := Lib.hid (own_drewN HOW.out nq)
          replace HBW := Lib.hid (belowN HBW.out nq)
          replace c16 : (u.drewN nq).cell? ⟨gv, k - 16, none⟩ = _ := c16
          replace c7 : (u.drewN nq).cell? ⟨gv, k - 7, none⟩ = _ := c7
          clear c2
          generalize u.drewN nq = v at *
          clear nq
          obtain ⟨v3, w3, hrun, hown3, hb3⟩ := snoc_u32 (b := p3) hi0 hz0 hz1 hz2 HOW.out.drew HBW.out.drew (by omega)
          have hrun2 : Sem.run Tryd.prog (appN #[49, 49] 49 #[.slice (some ⟨gv, 0, none⟩) k cv, .slice (some ⟨v.heap.size, 0, none⟩) 1 1]) (v.alloc (.cells #[.int .u32 (p3 : Int)] 48)).drew = .ok v3 w3 := hrun
          rw [← HSN.out] at hown3
          have HO3 := Lib.hid hown3; have HB3 := Lib.hid hb3
          clear hrun hown3 hb3
          go_region
          go_wp2
          go_roundw
          case rel => exact ⟨k + 1, by omega, by omega, by go_num, HO3.out, HB3.out⟩
          case measure => simp [intOf]; omega
        · have hk64 : k = 64 := by omega
          have hws' : ws = Dm.full b := by rw [← hws, hk64]; rfl
          rw [hk64, hws'] at hown
          have hF := fun i (hi : i < 64) => word_cell hown i hi
          have HF := Lib.hid hF; have HBW := Lib.hid hbw
          have hsz := hbw.size
          clear hws hws' hwl hl hown hbw HO HB2 hF
          go_wp2_with fail
          refine (constants_any _).mono ?_
          rintro e wc ⟨rfl, hwc⟩
          have hbc : Below wr.heap.size wr wc := by rw [hwc]; exact (Below.refl _ _).alloc (Nat.le_refl _) _
          have rk : Row wc wr.heap.size 48 (u32row Dm.K) := by rw [hwc]; exact Row.new _ _ _
          have hbc0 : Below w.heap.size w wc := HBW.out.trans (hbc.mono hsz)
          obtain ⟨gk, hgk⟩ : ∃ g, wr.heap.size = g := ⟨_, rfl⟩
          rw [hgk] at rk ⊢
          have HGK := Lib.hid hgk
          clear hgk
          obtain ⟨v3, w3, hrun, hown3, hgr, _⟩ := run_append_own (P := Tryd.prog) wc w.heap.size 49 49 48 i0 (.int .u32 0) 1 4 Tryd.underlying49 hi0 hz0 hz1 hz2 rfl (by decide)
            (.slice none 0 0) 0 [] (World.ownsRow_nil _ _ _ _) ⟨gh, 0, none⟩ 8 ch (wordCells s.l) rfl (fun j u hj => by
              have hj8 : j < 8 := by have := (List.getElem?_eq_some_iff.1 hj).1; rw [wordCells_len] at this; exact this
              have := (hbc0.cell (p := ⟨gh, j, none⟩) hgh).trans (HCH.out j hj8)
              rw [show (⟨gh, 0, none⟩ : Addr).add j = ⟨gh, j, none⟩ from by simp [Addr.add]; omega, this, ← wordCells_get s.l j hj8]; exact hj)
            (fun x hx => by obtain ⟨t, _, rfl⟩ := List.mem_map.1 hx; rfl) (by unfold maxLen; omega) (by omega) hbc0.size
          rw [append_appN] at hrun
          rw [Nat.zero_add, List.nil_append] at hown3
          have hb3 : Below w.heap.size w w3 := ⟨hgr.os.trans hbc0.os, hgr.tape.trans hbc0.tape, hgr.output.trans hbc0.output, Nat.le_trans hbc0.size hgr.size, fun j hj => (hgr.block j (by have := hbc0.size; omega) (by simp [Value.ownBlock])).trans (hbc0.block j hj)⟩
          have hb4 : Below wc.heap.size wc w3 := ⟨hgr.os, hgr.tape, hgr.output, hgr.size, fun j hj => hgr.block j hj (by simp [Value.ownBlock])⟩
          obtain ⟨gs, cs, rfl, hgs, -, hcs, hcs2⟩ := word_slice hown3 (by omega)
          have hS3 := fun r (hr : r < 8) => word_cell hown3 r hr
          have hF3 := fun i (hi : i < 64) => (hb4.cell (p := ⟨gv, i, none⟩) (by have := hbc.size; show gv < _; omega)).trans ((hbc.cell (p := ⟨gv, i, none⟩) hgv).trans (HF.out i hi))
          have hK3 := fun i (hi : i < 64) => (hb4.cell (p := ⟨gk, i, none⟩) rk.lt).trans ((rk.cell i).trans (u32row_get Dm.K i hi))
          have hgv3 : gv < w3.heap.size := by have := hbc.size; have := hb4.size; omega
          have hgk3 : gk < w3.heap.size := by have := rk.lt; have := hb4.size; omega
          have S3 := Lib.hid hS3; have F3 := Lib.hid hF3; have K3 := Lib.hid hK3; have HB3 := Lib.hid hb3
          clear hwc hbc rk hbc0 hown3 hgr hb3 hb4 hS3 hF3 hK3 HF HBW
          go_wp2
          go_loopw [11, 12, 13, 14, 15, 16] (fun v i _ _ _ _ wr' => ∃ (k : Nat) (S : Dm.St) (gs cs : Nat), k ≤ 64 ∧ S.ok ∧ Hid (Dm.rounds (Dm.full b) k 0 s = S) ∧ i = .int .i64 (k : Int) ∧ v = .slice (some ⟨gs, 0, none⟩) 8 cs ∧ 8 ≤ cs ∧ cs ≤ maxLen ∧ gs < wr'.heap.size ∧
              (∀ r, r < 8 → wr'.cell? ⟨gs, r, none⟩ = some (.int .u32 ((S.l.getD r 0 : Nat) : Int))) ∧ Below w3.heap.size w3 wr') (fun _ i _ _ _ _ _ => 64 - (intOf i).toNat)
          case atStart => exact ⟨0, s, gs, cs, by omega, HS.out, Lib.hid (Dm.rounds_zero _ _ _), rfl, rfl, hcs, hcs2, hgs, S3.out, Below.refl _ _⟩
          case round =>
            obtain ⟨k, S, gs, cs, hk, hSok, hrd, rfl, rfl, hcs, hcs2, hgs, hcell, hbw⟩ := hrel
            have HSS := Lib.hid hSok
            obtain ⟨va, vb, vc, vd, ve, vf, vg, vh⟩ := S
            obtain ⟨ba, bb, bc, bd, be, bf, bg, bh⟩ := hSok
            dsimp only at ba bb bc bd be bf bg bh
            unfold maxLen at hcs2
            have HBW := Lib.hid hbw
            by_cases hlt : k < 64
            · have c0 : wr.cell? ⟨gs, 0, none⟩ = some (.int .u32 (va : Int)) := hcell 0 (by decide)
              have c1 : wr.cell? ⟨gs, 1, none⟩ = some (.int .u32 (vb : Int)) := hcell 1 (by decide)
              have c2 : wr.cell? ⟨gs, 2, none⟩ = some (.int .u32 (vc : Int)) := hcell 2 (by decide)
              have c3 : wr.cell? ⟨gs, 3, none⟩ = some (.int .u32 (vd : Int)) := hcell 3 (by decide)
              have c4 : wr.cell? ⟨gs, 4, none⟩ = some (.int .u32 (ve : Int)) := hcell 4 (by decide)
              have c5 : wr.cell? ⟨gs, 5, none⟩ = some (.int .u32 (vf : Int)) := hcell 5 (by decide)
              have c6 : wr.cell? ⟨gs, 6, none⟩ = some (.int .u32 (vg : Int)) := hcell 6 (by decide)
              have c7 : wr.cell? ⟨gs, 7, none⟩ = some (.int .u32 (vh : Int)) := hcell 7 (by decide)
              have ck := (hbw.cell (p := ⟨gk, k, none⟩) hgk3).trans (K3.out k hlt)
              have cw := (hbw.cell (p := ⟨gv, k, none⟩) hgv3).trans (F3.out k hlt)
              have lk := Dm.K_lt k
              have lw := Dm.full_lt b k
              generalize hkk : Dm.K.getD k 0 = kk at ck lk
              generalize hww : (Dm.full b).getD k 0 = ww at cw lw
              obtain ⟨r6, r11, r25, xs1, h6, h11, h25, xe1, xe2⟩ := e1_eqs ve be
              obtain ⟨r2, r13, r22, xs2, h2, h13, h22, ye1, ye2⟩ := e0_eqs va ba
              obtain ⟨cp, cn, cq, ce1, ce2, ce3, ce4⟩ := ch_eqs ve vf vg be bf bg
              obtain ⟨mp, mq, mr, ms, me1, me2, me3, me4, me5⟩ := maj_eqs va vb vc ba bb bc
              have K6 := Lib.hid (fun w => refRot_any ve 6 w be (by decide) (by decide))
              have K11 := Lib.hid (fun w => refRot_any ve 11 w be (by decide) (by decide))
              have K25 := Lib.hid (fun w => refRot_any ve 25 w be (by decide) (by decide))
              have K2 := Lib.hid (fun w => refRot_any va 2 w ba (by decide) (by decide))
              have K13 := Lib.hid (fun w => refRot_any va 13 w ba (by decide) (by decide))
              have K22 := Lib.hid (fun w => refRot_any va 22 w ba (by decide) (by decide))
              rw [h6] at K6; rw [h11] at K11; rw [h25] at K25; rw [h2] at K2; rw [h13] at K13; rw [h22] at K22
              clear h6 h11 h25 h2 h13 h22
              have l1 := Dm.e1_lt ve be
              have l0 := Dm.e0_lt va ba
              have lc := Dm.ch_lt ve vf vg be
              have lm := Dm.maj_lt va vb vc ba bb
              obtain ⟨E1, hE1⟩ : ∃ x, Dm.e1 ve = x := ⟨_, rfl⟩
              obtain ⟨E0, hE0⟩ : ∃ x, Dm.e0 va = x := ⟨_, rfl⟩
              obtain ⟨CH, hCH⟩ : ∃ x, Dm.ch ve vf vg = x := ⟨_, rfl⟩
              obtain ⟨MJ, hMJ⟩ : ∃ x, Dm.maj va vb vc = x := ⟨_, rfl⟩
              rw [hE1] at xe2 l1; rw [hE0] at ye2 l0; rw [hCH] at ce4 lc; rw [hMJ] at me5 lm
              obtain ⟨p1, hp1⟩ : ∃ y, Dm.add vh E1 = y := ⟨_, rfl⟩
              obtain ⟨p2, hp2⟩ : ∃ y, Dm.add p1 CH = y := ⟨_, rfl⟩
              obtain ⟨p3, hp3⟩ : ∃ y, Dm.add p2 kk = y := ⟨_, rfl⟩
              obtain ⟨p4, hp4⟩ : ∃ y, Dm.add p3 ww = y := ⟨_, rfl⟩
              obtain ⟨u1, hu1⟩ : ∃ y, Dm.add E0 MJ = y := ⟨_, rfl⟩
              obtain ⟨na, hna⟩ : ∃ y, Dm.add p4 u1 = y := ⟨_, rfl⟩
              obtain ⟨ne, hne⟩ : ∃ y, Dm.add vd p4 = y := ⟨_, rfl⟩
              have z1 := add_u32 _ _ _ hp1
              have z2 := add_u32 _ _ _ hp2
              have z3 := add_u32 _ _ _ hp3
              have z4 := add_u32 _ _ _ hp4
              have z5 := add_u32 _ _ _ hu1
              have z6 := add_u32 _ _ _ hna
              have z7 := add_u32 _ _ _ hne
              have hnew : Dm.round ⟨va, vb, vc, vd, ve, vf, vg, vh⟩ (Dm.K.getD k 0) ((Dm.full b).getD k 0) = ⟨na, va, vb, vc, ne, ve, vf, vg⟩ := by
                rw [hkk, hww]; unfold Dm.round Dm.t1 Dm.t2; dsimp only; rw [hE1, hE0, hCH, hMJ, hp1, hp2, hp3, hp4, hu1, hna, hne]
              have hrd2 : Hid (Dm.rounds (Dm.full b) (k + 1) 0 s = ⟨na, va, vb, vc, ne, ve, vf, vg⟩) := Lib.hid (by rw [Dm.rounds_snoc, hrd.out, Nat.zero_add, hnew])
              have hok2 : Hid (Dm.St.ok ⟨na, va, vb, vc, ne, ve, vf, vg⟩) := Lib.hid (by rw [← hnew]; exact Dm.round_ok HSS.out _ _)
              clear hp1 hp2 hp3 hp4 hu1 hna hne hE1 hE0 hCH hMJ hkk hww hnew hcell hbw hrd
              have sg : IntKind.u32.signed = false := rfl
              have kz : (0 : Int) ≤ (k : Int) := by omega
              have kl : (k : Int) < 64 := by omega
              go_wp2
              go_quiet (first | (go_at_call 60; (with_reducible refine Calls.quiet_of (K6.out _))) | (go_at_call 60; (with_reducible refine Calls.quiet_of (K11.out _))) | (go_at_call 60; (with_reducible refine Calls.quiet_of (K25.out _))))
              replace HBW := Lib.hid (belowN HBW.out nq)
              replace c1 : (wr.drewN nq).cell? ⟨gs, 1, none⟩ = _ := c1
              replace c2 : (wr.drewN nq).cell? ⟨gs, 2, none⟩ = _ := c2
              replace c3 : (wr.drewN nq).cell? ⟨gs, 3, none⟩ = _ := c3
              replace c5 : (wr.drewN nq).cell? ⟨gs, 5, none⟩ = _ := c5
              replace c6 : (wr.drewN nq).cell? ⟨gs, 6, none⟩ = _ := c6
              clear c0 c4 c7 ck cw hgs
              generalize wr.drewN nq = u at *
              clear nq
              go_wp2
              go_quiet (first | (go_at_call 60; (with_reducible refine Calls.quiet_of (K2.out _))) | (go_at_call 60; (with_reducible refine Calls.quiet_of (K13.out _))) | (go_at_call 60; (with_reducible refine Calls.quiet_of (K22.out _))))
              replace HBW := Lib.hid (belowN HBW.out nq)
              replace c1 : (u.drewN nq).cell? ⟨gs, 1, none⟩ = _ := c1
              replace c2 : (u.drewN nq).cell? ⟨gs, 2, none⟩ = _ := c2
              replace c3 : (u.drewN nq).cell? ⟨gs, 3, none⟩ = _ := c3
              replace c5 : (u.drewN nq).cell? ⟨gs, 5, none⟩ = _ := c5
              replace c6 : (u.drewN nq).cell? ⟨gs, 6, none⟩ = _ := c6
              generalize u.drewN nq = x at *
              clear nq
              go_wp2
              go_region
              go_wp2
              go_roundw
              case rel =>
                refine ⟨k + 1, ⟨na, va, vb, vc, ne, ve, vf, vg⟩, x.heap.size, 8, by omega, hok2.out, hrd2, by go_num, rfl, by omega, by decide, by simp, fun r hr => ?_, (HBW.out.alloc HBW.out.size _).drew⟩
                have hc := (Row.new x 48 #[.int .u32 (na : Int), .int .u32 (va : Int), .int .u32 (vb : Int), .int .u32 (vc : Int), .int .u32 (ne : Int), .int .u32 (ve : Int), .int .u32 (vf : Int), .int .u32 (vg : Int)]).cell r
                refine Eq.trans hc ?_
                have : r = 0 ∨ r = 1 ∨ r = 2 ∨ r = 3 ∨ r = 4 ∨ r = 5 ∨ r = 6 ∨ r = 7 := by omega
                rcases this with rfl | rfl | rfl | rfl | rfl | rfl | rfl | rfl <;> rfl
              case measure => simp [intOf]; omega
            · have hk64 : k = 64 := by omega
              have hm : Dm.mix s b = Dm.plus s ⟨va, vb, vc, vd, ve, vf, vg, vh⟩ := by
                unfold Dm.mix; rw [← hk64, hrd.out]
              have hml : ∀ r, r < 8 → (Dm.mix s b).l.getD r 0 = Dm.add (s.l.getD r 0) ((Dm.St.l ⟨va, vb, vc, vd, ve, vf, vg, vh⟩).getD r 0) := fun r hr => by
                rw [hm]
                have : r = 0 ∨ r = 1 ∨ r = 2 ∨ r = 3 ∨ r = 4 ∨ r = 5 ∨ r = 6 ∨ r = 7 := by omega
                rcases this with rfl | rfl | rfl | rfl | rfl | rfl | rfl | rfl <;> rfl
              obtain ⟨we, hwe⟩ : ∃ we : World, we = wr := ⟨_, rfl⟩
              subst hwe
              have HCE := Lib.hid hcell; have HML := Lib.hid hml
              have HBE := Lib.hid (show Below w.heap.size w we from HB3.out.trans (hbw.mono HB3.out.size))
              clear hm hk64 hml hcell hbw hrd
              go_wp2
              go_loopw [17, 18] (fun o i wr' => ∃ j : Nat, j ≤ 8 ∧ i = .int .i64 (j : Int) ∧ wr'.ownsRow we.heap.size 48 1 o j (wordCells ((Dm.mix s b).l.take j)) ∧ Below we.heap.size we wr') (fun _ i _ => 8 - (intOf i).toNat)
              case atStart => exact ⟨0, by omega, rfl, World.ownsRow_nil _ _ _ _, Below.refl _ _⟩
              case round =>
                obtain ⟨j, hj, rfl, hown, hbj⟩ := hrel
                have hbw0 : Below w.heap.size w wr := HBE.out.trans (hbj.mono HBE.out.size)
                by_cases hj8 : j < 8
                · have ch0 := (hbw0.cell (p := ⟨gh, j, none⟩) hgh).trans (HCH.out j hj8)
                  have cv0 := (hbj.cell (p := ⟨gs, j, none⟩) hgs).trans (HCE.out j hj8)
                  have hmj := HML.out j hj8
                  have hml2 : (Dm.mix s b).l.length = 8 := rfl
                  have htk : (Dm.mix s b).l.take (j + 1) = (Dm.mix s b).l.take j ++ [(Dm.mix s b).l.getD j 0] := by
                    rw [List.take_succ_eq_append_getElem (by omega), List.getD_eq_getElem?_getD, List.getElem?_eq_getElem (by omega)]; rfl
                  obtain ⟨y, hy⟩ : ∃ y, (Dm.mix s b).l.getD j 0 = y := ⟨_, rfl⟩
                  rw [hy] at htk hmj
                  obtain ⟨x1, hx1⟩ : ∃ x, s.l.getD j 0 = x := ⟨_, rfl⟩
                  obtain ⟨x2, hx2⟩ : ∃ x, (Dm.St.l ⟨va, vb, vc, vd, ve, vf, vg, vh⟩).getD j 0 = x := ⟨_, rfl⟩
                  rw [hx1] at ch0 hmj; rw [hx2] at cv0 hmj
                  have z1 := add_u32 _ _ _ hmj.symm
                  obtain ⟨v5, w5, hrun, hown5, hb5⟩ := snoc_u32 (w := we) (b := y) hi0 hz0 hz1 hz2 hown.drew hbj.drew (by omega)
                  have hrun2 : Sem.run Tryd.prog (appN #[49, 49] 49 #[_, .slice (some ⟨wr.heap.size, 0, none⟩) 1 1]) (wr.alloc (.cells #[.int .u32 (y : Int)] 48)).drew = .ok v5 w5 := hrun
                  have hb6 := hb5
                  rw [← htk] at hown5
                  have HO5 := Lib.hid hown5; have HB6 := Lib.hid hb6
                  clear hrun hown5 hb5 hb6 hown hbj hbw0 htk hy hx1 hx2 hmj hml2
                  have j1 : (j : Int) < 8 := by omega
                  have j2 : (0 : Int) ≤ (j : Int) := by omega
                  go_wp2
                  go_region
                  go_wp2
                  go_roundw
                  case rel => exact ⟨j + 1, by omega, by go_num, HO5.out, HB6.out⟩
                  case measure => simp [intOf]; omega
                · have hj9 : j = 8 := by omega
                  subst hj9
                  have h8 : (Dm.mix s b).l.take 8 = (Dm.mix s b).l := List.take_of_length_le (Nat.le_refl _)
                  rw [h8] at hown
                  have HO5 := Lib.hid hown; have HB6 := Lib.hid hbw0
                  clear hown hbw0 h8
                  go_wp2
                  go_ret
                  exact ⟨_, rfl, own_base HO5.out HBE.out.size, HB6.out⟩
end Go.Proofs.YtnbhhhbmeafkaaaDoor
