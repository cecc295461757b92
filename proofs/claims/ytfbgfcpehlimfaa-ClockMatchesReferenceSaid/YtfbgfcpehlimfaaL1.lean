/- The law ClockMatchesReference answers true. -/
import Derived.Test.YtfbgfcpehlimfaaL1a
import Derived.Deep.RegionHeld3
namespace Go.Proofs.Ytfbgfcpehlimfaa
open Go.RowKit

set_option maxRecDepth 100000 in
set_option maxHeartbeats 1000000 in
theorem rspread_any (d n : Int) (w : World) : Calls Try.prog 11 #[.int .i64 d, .int .i64 n] w fun e w' => e = .returned (.tuple #[.int .i64 (spr d n).1, .int .i64 (spr d n).2]) ∧ w = w' := by
  by_cases d1 : d < 0
  · rw [show spr d n = (0, 0) by unfold spr; rw [if_neg (fun h => by have := (Ca.isD_iff d).1 h.1; omega)]]
    go_enter Try.func11, Try.ntmps11
    go_wp2
    go_ret2
    exact ⟨rfl, rfl⟩
  by_cases d2 : 100 < d
  · rw [show spr d n = (0, 0) by unfold spr; rw [if_neg (fun h => by have := (Ca.isD_iff d).1 h.1; omega)]]
    go_enter Try.func11, Try.ntmps11
    go_wp2
    go_ret2
    exact ⟨rfl, rfl⟩
  by_cases n1 : n < 0
  · rw [show spr d n = (0, 0) by unfold spr; rw [if_neg (fun h => by have := (Ca.isT_iff n).1 h.2; omega)]]
    go_enter Try.func11, Try.ntmps11
    go_wp2
    go_ret2
    exact ⟨rfl, rfl⟩
  by_cases n2 : 10000000 < n
  · rw [show spr d n = (0, 0) by unfold spr; rw [if_neg (fun h => by have := (Ca.isT_iff n).1 h.2; omega)]]
    go_enter Try.func11, Try.ntmps11
    go_wp2
    go_ret2
    exact ⟨rfl, rfl⟩
  rw [spr_ok ((Ca.isD_iff d).2 ⟨by omega, by omega⟩) ((Ca.isT_iff n).2 ⟨by omega, by omega⟩)]
  exact rspread_ok d n w (by omega) (by omega) (by omega) (by omega)
theorem hold2 {W u u2 : World} {a b : Addr} {x y : Value} (h : Below W.heap.size W u ∧ u.cell? a = some x ∧ u.cell? b = some y) (hb : Below u.heap.size u u2) : Below W.heap.size W u2 ∧ u2.cell? a = some x ∧ u2.cell? b = some y :=
  ⟨below_to h.1 hb, (hb.cell (World.block_lt_of_cell? u a h.2.1)).trans h.2.1, (hb.cell (World.block_lt_of_cell? u b h.2.2)).trans h.2.2⟩
theorem hold4 {W u u2 : World} {a b c d : Addr} {x y z t : Value} (h : Below W.heap.size W u ∧ u.cell? a = some x ∧ u.cell? b = some y ∧ u.cell? c = some z ∧ u.cell? d = some t) (hb : Below u.heap.size u u2) : Below W.heap.size W u2 ∧ u2.cell? a = some x ∧ u2.cell? b = some y ∧ u2.cell? c = some z ∧ u2.cell? d = some t :=
  ⟨below_to h.1 hb, (hb.cell (World.block_lt_of_cell? u a h.2.1)).trans h.2.1, (hb.cell (World.block_lt_of_cell? u b h.2.2.1)).trans h.2.2.1, (hb.cell (World.block_lt_of_cell? u c h.2.2.2.1)).trans h.2.2.2.1, (hb.cell (World.block_lt_of_cell? u d h.2.2.2.2)).trans h.2.2.2.2⟩
theorem rbefore_c {d : Int} {rs : List Ca.R3} {v : Value} {w : World} (hv : Clk w v d rs) (l t : Int) (u : World) (hu : Below w.heap.size w u) : Calls Try.prog 24 #[v, .int .i64 l, .int .i64 t] u fun e w' => e = .returned (.bool (beforeM d rs l t)) ∧ Below u.heap.size u w' := rbefore_any d l t rs v u (hv.next hu)
theorem rafter_c {d : Int} {rs : List Ca.R3} {v : Value} {w : World} (hv : Clk w v d rs) (l t : Int) (u : World) (hu : Below w.heap.size w u) : Calls Try.prog 26 #[v, .int .i64 l, .int .i64 t] u fun e w' => e = .returned (.bool (afterM d rs l t)) ∧ Below u.heap.size u w' := rafter_any d l t rs v u (hv.next hu)
theorem before_c {d : Int} {rs : List Ca.R3} {v : Value} {w : World} (hv : Clk w v d rs) (l t : Int) (u : World) (hu : Below w.heap.size w u) : Calls Try.prog 23 #[v, .int .i64 l, .int .i64 t] u fun e w' => e = .returned (.bool (beforeM d rs l t)) ∧ Below u.heap.size u w' := before_any d l t rs v u (hv.next hu)
theorem after_c {d : Int} {rs : List Ca.R3} {v : Value} {w : World} (hv : Clk w v d rs) (l t : Int) (u : World) (hu : Below w.heap.size w u) : Calls Try.prog 25 #[v, .int .i64 l, .int .i64 t] u fun e w' => e = .returned (.bool (afterM d rs l t)) ∧ Below u.heap.size u w' := after_any d l t rs v u (hv.next hu)
set_option maxRecDepth 100000 in
set_option maxHeartbeats 8000000 in
theorem clockMatches_any (xd : Int) (xs : Value) (xl : List Ca.R3) (drift start : Int) (vr : Value) (lr : List Int) (va : Value) (la : List Ca.R3) (locl t0 : Int) (vs : Value) (ls : List (Int × Int)) (w : World)
    (_ : I64 xd) (hxr : Recs enc3 3 w w.heap.size xs xl) (_ : ∀ x ∈ xl, I64 x.1 ∧ I64 x.2.1 ∧ I64 x.2.2) (h1 : I64 drift) (h2 : I64 start) (hr : Recs enc1 1 w w.heap.size vr lr) (hqr : ∀ x ∈ lr, I64 x) (ha : Recs enc3 3 w w.heap.size va la) (hqa : ∀ x ∈ la, I64 x.1 ∧ I64 x.2.1 ∧ I64 x.2.2) (h3 : I64 locl) (h4 : I64 t0) (hs : Recs enc2 2 w w.heap.size vs ls) (_ : ∀ x ∈ ls, I64 x.1 ∧ I64 x.2) :
    Calls Try.prog 3 #[.agg #[.int .i64 xd, xs], .int .i64 drift, .int .i64 start, vr, va, .int .i64 locl, .int .i64 t0, vs] w fun e w' => e = .returned (.bool true) ∧ Below w.heap.size w w' := by
  have HMD := Lib.hid (fun u hu => made_c hr hqr ha hqa h1 h2 u hu)
  have HL := Lib.hid (fun u => pick_any locl 5000 (by omega) (by omega) h3.1 h3.2 u)
  have HT := Lib.hid (fun u => pick_any t0 5000 (by omega) (by omega) h4.1 h4.2 u)
  obtain ⟨pl, hpl⟩ : ∃ l, pickI locl 5000 = l := ⟨_, rfl⟩
  obtain ⟨pt, hpt⟩ : ∃ t, pickI t0 5000 = t := ⟨_, rfl⟩
  rw [hpl] at HL
  rw [hpt] at HT
  have HS1 := Lib.hid (fun u => spread_any drift locl u)
  have HS2 := Lib.hid (fun u => rspread_any drift locl u)
  obtain ⟨sp, hsp⟩ : ∃ s, spr drift locl = s := ⟨_, rfl⟩
  rw [hsp] at HS1 HS2
  obtain ⟨sp1, sp2⟩ := sp
  dsimp only at HS1 HS2
  -- the spells, cut
  obtain ⟨As, cs, rfl, hcs1, hcs2⟩ := recs_form hs
  obtain ⟨ns, hns⟩ : ∃ n, ls.length = n := ⟨_, rfl⟩
  obtain ⟨Ms, hMs⟩ : ∃ M, min ns 20 = M := ⟨_, rfl⟩
  have hsv : Recs enc2 2 w w.heap.size (.slice As Ms cs) (ls.take Ms) := recs_pre hs Ms (by omega)
  have hsl : (ls.take Ms).length ≤ 1000 := by rw [List.length_take]; omega
  have HA1 := Lib.hid (fun u (hu : Below w.heap.size w u) => agree_any (ls.take Ms) _ u (hsv.next hu) hsl)
  have HA2 := Lib.hid (fun u (hu : Below w.heap.size w u) => ragree_any (ls.take Ms) _ u (hsv.next hu) hsl)
  have hmns := fun (w : World) => run_min2 (P := Try.prog) (w := w) #[3, 3] 3 .i64 .i64 (ns : Int) 20 (Ms : Int) (by omega)
  rw [hns] at hcs1 ⊢
  have hMcs : Ms ≤ cs := by omega
  have hMns : Ms ≤ ns := by omega
  -- the clock, cut
  obtain ⟨Ax, cx, rfl, hcx1, hcx2⟩ := recs_form hxr
  obtain ⟨nx, hnx⟩ : ∃ n, xl.length = n := ⟨_, rfl⟩
  obtain ⟨Mx, hMx⟩ : ∃ M, min nx 13 = M := ⟨_, rfl⟩
  have hxv : Recs enc3 3 w w.heap.size (.slice Ax Mx cx) (xl.take Mx) := recs_pre hxr Mx (by omega)
  have hlx : (xl.take Mx).length = Mx := by rw [List.length_take]; omega
  have HXV := Lib.hid (show Clk w (.agg #[.int .i64 xd, .slice Ax Mx cx]) xd (xl.take Mx) from ⟨Ax, cx, by rw [hlx], by rw [hlx]; exact hxv⟩)
  rw [hnx] at hcx1 ⊢
  have HFW := Lib.hid (fun u => few_any xd Ax nx cx Mx u hMx hcx1 hcx2)
  clear hr hqr ha hqa h1 h2 h3 h4 hpl hpt hsp hs hns hMs hsv hsl hxr hnx hMx hxv hlx
  go_enter Try.func3, Try.ntmps3
  go_wp2_with (first | (go_at_call 9; with_reducible refine Calls.mono (sane_any _) ?_; rintro e w1 ⟨rfl, hb1⟩; obtain ⟨-, -, hk1, hs1, hr1⟩ := kept2 hb1; have HB1 := Lib.hid hk1; have HRW := Lib.hid hr1; clear hb1 hk1 hr1) | (go_at_call 10; with_reducible refine Calls.mono (HS1.out _) ?_; rintro e w2 ⟨rfl, hb2⟩; have HB2 := Lib.hid (below_to HB1.out hb2); have HRW2 := Lib.hid (HRW.out.below hb2 HRW.out.lt); clear hb2) | (go_at_call 11; with_reducible refine Calls.mono (HS2.out _) ?_; rintro e w' ⟨rfl, rfl⟩) | (go_at_call 12; with_reducible refine Calls.mono (HA1.out _ HB2.out) ?_; unfold AgrPost; rintro e w3 ⟨af, at_, am, rfl, hag, am0, am1, hb3⟩; have HAG := Lib.hid hag; have HB3 := Lib.hid (below_to HB2.out hb3); have HRW3 := Lib.hid (HRW2.out.below hb3 HRW2.out.lt); clear hag am1 hb3) | (go_at_call 13; with_reducible refine Calls.mono (HA2.out _ (HB3.out.alloc HB3.out.size _)) ?_; rintro e w4 ⟨f', t', m', rfl, hag, hb4⟩; obtain ⟨rfl, rfl, rfl⟩ := HAG.out.unique hag; obtain ⟨q0, q1, hk4, hs4, hr4⟩ := kept2 hb4; have hs9 := Nat.lt_of_succ_le hs4; have HB4 := Lib.hid (below_to HB3.out hk4); have HRW4 := Lib.hid (HRW3.out.below hk4 HRW3.out.lt); have r0 := HRW4.out.cell 0; have r1 := HRW4.out.cell 1; have rlt := HRW4.out.lt; simp only [List.getElem?_toArray, List.getElem?_cons_zero, List.getElem?_cons_succ] at r0 r1; clear hag hb4 hk4 hr4) | (go_at_call 14; with_reducible refine Calls.mono (HFW.out _) ?_; rintro e w5 ⟨rfl, hb5⟩; have HB5 := Lib.hid (below_to (HB4.out.alloc HB4.out.size _) hb5); clear hb5) | (go_at_call 15; with_reducible refine Calls.mono (HMD.out _ HB5.out) ?_; unfold MadePost; rintro e w6 ⟨d, rs, v, rfl, hclk, d1, d2, hg, hlen, hb6⟩; have HB6 := Lib.hid (below_to HB5.out hb6); have HCK := Lib.hid hclk; obtain ⟨A, c, rfl, -⟩ := hclk.form; obtain ⟨N, hN⟩ : ∃ N, rs.length = N := ⟨_, rfl⟩; rw [hN] at HCK ⊢; clear hb6 hg hclk hN))
  have HX6 := Lib.hid (HXV.out.next HB6.out)
  clear HS1 HS2 HA1 HA2 HFW HMD HXV
  go_loopw [27, 28, 29, 30, 31, 32, 33, 34, 35, 36, 37, 38, 39, 40, 41, 42, 43] (fun i _ _ _ _ _ _ _ _ _ _ _ _ _ _ _ _ wr => ∃ k : Nat, k ≤ 2 ∧ i = .int .i64 (k : Int) ∧ Below w6.heap.size w6 wr ∧ Row wr w6.heap.size 24 #[.int .i64 xd, .slice Ax Mx cx, .int .i64 d, .slice A N c]) (fun i _ _ _ _ _ _ _ _ _ _ _ _ _ _ _ _ _ => 2 - (intOf i).toNat)
  case atStart => exact ⟨0, by omega, rfl, (Below.refl _ _).alloc (Nat.le_refl _) _, Row.new _ _ _⟩
  case round =>
    obtain ⟨k, hk, rfl, hbw, hrow⟩ := hrel
    have HBW := Lib.hid hbw; have HROW := Lib.hid hrow
    have hlw := hrow.lt
    by_cases hlt : k < 2
    · obtain ⟨D, RS, A0, N0, c0, hD, hck, g0, g1⟩ : ∃ (D : Int) (RS : List Ca.R3) (A0 : Option Addr) (N0 c0 : Nat), RS.length = N0 ∧ Clk w6 (.agg #[.int .i64 D, .slice A0 N0 c0]) D RS ∧ wr.cell? ⟨w6.heap.size, k * 2, none⟩ = some (.int .i64 D) ∧ wr.cell? ⟨w6.heap.size, k * 2 + 1, none⟩ = some (.slice A0 N0 c0) := by
        have : k = 0 ∨ k = 1 := by omega
        rcases this with rfl | rfl
        · obtain ⟨A', c', h1, h2⟩ := HX6.out.form
          injection h1 with h1
          simp only [Array.mk.injEq, List.cons.injEq, and_true, true_and] at h1
          injection h1 with e1 e2 e3
          exact ⟨xd, _, Ax, Mx, cx, e2.symm, HX6.out, hrow.cell 0, hrow.cell 1⟩
        · obtain ⟨A', c', h1, h2⟩ := HCK.out.form
          injection h1 with h1
          simp only [Array.mk.injEq, List.cons.injEq, and_true, true_and] at h1
          injection h1 with e1 e2 e3
          exact ⟨d, _, A, N, c, e2.symm, HCK.out, hrow.cell 2, hrow.cell 3⟩
      have HV1 := Lib.hid (fun u hu => valid_c hck u hu)
      have HV2 := Lib.hid (fun u hu => rvalid_c hck u hu)
      have HQ1 := Lib.hid (fun z u hu => at_c hck z u hu)
      have HQ2 := Lib.hid (fun z u hu => rat_c hck z u hu)
      have HR1 := Lib.hid (fun z u (hu : Below w6.heap.size w6 u) => reads_any D z RS _ u (hck.next hu))
      have HR2 := Lib.hid (fun z u (hu : Below w6.heap.size w6 u) => rreads_any D z RS _ u (hck.next hu))
      have HE1 := Lib.hid (fun z t u hu => before_c hck z t u hu)
      have HE2 := Lib.hid (fun z t u hu => rbefore_c hck z t u hu)
      have HF1 := Lib.hid (fun z t u hu => after_c hck z t u hu)
      have HF2 := Lib.hid (fun z t u hu => rafter_c hck z t u hu)
      have i1 : (0 : Int) ≤ (k : Int) := by omega
      have i2 : (k : Int) < 2 := by omega
      clear hck hD hrow hbw
      go_upto_region 15 with fail
      have hw15 : Below w6.heap.size w6 (wr.alloc (.cells #[.int .i64 D, .slice A0 N0 c0] 24)) := HBW.out.alloc (by omega) _
      have hc15 := Row.new wr 24 #[.int .i64 D, .slice A0 N0 c0]
      have HW15 := Lib.hid hw15; have HC15 := Lib.hid hc15
      go_cut [115] (fun s wx => s = .bool false ∧ Hid (Below w6.heap.size w6 wx ∧ Row wx wr.heap.size 24 #[.int .i64 D, .slice A0 N0 c0] ∧ Row wx w6.heap.size 24 #[.int .i64 xd, .slice Ax Mx cx, .int .i64 d, .slice A N c]))
      case first =>
        obtain ⟨W5, hW5⟩ : ∃ W5, wr.alloc (.cells #[.int .i64 D, .slice A0 N0 c0] 24) = W5 := ⟨_, rfl⟩
        rw [hW5] at hw15 hc15 HW15 HC15 ⊢
        have hb15 : Below W5.heap.size W5 W5 := Below.refl _ _
        have HR15 := Lib.hid (show Row W5 w6.heap.size 24 #[.int .i64 xd, .slice Ax Mx cx, .int .i64 d, .slice A N c] by rw [← hW5]; exact HROW.out.alloc _)
        have b0 := hc15.cell 0
        have b1 := hc15.cell 1
        simp only [List.getElem?_toArray, List.getElem?_cons_zero, List.getElem?_cons_succ] at b0 b1
        obtain ⟨vb, hvb⟩ : ∃ b, Ca.valid D RS = b := ⟨_, rfl⟩
        rw [hvb] at HV1 HV2
        have hbase : Below W5.heap.size W5 W5 ∧ W5.cell? ⟨wr.heap.size, 0, none⟩ = some (.int .i64 D) ∧ W5.cell? ⟨wr.heap.size, 1, none⟩ = some (.slice A0 N0 c0) := ⟨Below.refl _ _, b0, b1⟩
        clear hW5 hvb hc15 g0 g1
        go_region_held3 (fun u => Below W5.heap.size W5 u ∧ u.cell? ⟨wr.heap.size, 0, none⟩ = some (.int .i64 D) ∧ u.cell? ⟨wr.heap.size, 1, none⟩ = some (.slice A0 N0 c0)) (first | assumption | (exact ⟨Below.drew (by assumption), by assumption, by assumption⟩) | (exact ⟨by assumption, by assumption, by assumption⟩) | (exact hold2 (‹Below W5.heap.size W5 _ ∧ _ ∧ _›) b5)) (first | (go_at_call 16; ((with_reducible refine Calls.mono (HV1.out _ ?hb1) ?_); (case hb1 => (first | exact below_to HW15.out (Below.drew hb15) | exact below_to HW15.out (‹Below W5.heap.size W5 _ ∧ _›).1)); rintro e w9 ⟨rfl, b5⟩)) | (go_at_call 17; ((with_reducible refine Calls.mono (HV2.out _ ?hb1) ?_); (case hb1 => (first | exact below_to HW15.out (Below.drew hb15) | exact below_to HW15.out (‹Below W5.heap.size W5 _ ∧ _›).1)); rintro e w9 ⟨rfl, b5⟩)))
        all_goals go_wp2_with fail
        all_goals go_meet
        all_goals
          have hf := (‹Below W5.heap.size W5 _ ∧ _ ∧ _›).1
          exact ⟨by simp, Lib.hid ⟨below_to HW15.out hf, HC15.out.below hf HC15.out.lt, HR15.out.below hf HR15.out.lt⟩⟩
      case rest =>
        obtain ⟨rfl, hcc⟩ := hcut
        obtain ⟨hwc, hrc, hrr⟩ := hcc.out
        obtain ⟨BC, hBC⟩ : ∃ B, wr.heap.size = B := ⟨_, rfl⟩
        rw [hBC] at hrc ⊢
        have HWC := Lib.hid hwc; have HRC0 := Lib.hid hrc; have HRR0 := Lib.hid hrr
        clear hBC hwc hrc hrr hcc g0 g1 hw15 hc15 HW15 HC15
        go_wp2_with (first | (go_at_call 18; (first | (with_reducible refine Calls.mono (HL.out _) ?_) | (with_reducible refine Calls.mono (HT.out _) ?_)); rintro e w' ⟨rfl, rfl⟩))
        obtain ⟨BL, hBL⟩ : ∃ B, wc.heap.size = B := ⟨_, rfl⟩
        obtain ⟨BT, hBT⟩ : ∃ B, wc.heap.size + 1 = B := ⟨_, rfl⟩
        obtain ⟨W8, hW8⟩ : ∃ W, (wc.alloc (.cells #[.int .i64 locl, .int .i64 pl] 3)).alloc (.cells #[.int .i64 t0, .int .i64 pt] 3) = W := ⟨_, rfl⟩
        have hb8 : Below wc.heap.size wc W8 := by rw [← hW8]; exact ((Below.refl _ _).alloc (Nat.le_refl _) _).alloc (by simp) _
        have HRL0 := Lib.hid (show Row W8 BL 3 #[.int .i64 locl, .int .i64 pl] by rw [← hW8, ← hBL]; exact (Row.new wc _ _).alloc _)
        have HRT0 := Lib.hid (show Row W8 BT 3 #[.int .i64 t0, .int .i64 pt] by
          rw [← hW8, ← hBT]
          have := Row.new (wc.alloc (.cells #[.int .i64 locl, .int .i64 pl] 3)) 3 #[.int .i64 t0, .int .i64 pt]
          simpa using this)
        have HRC8 := Lib.hid (HRC0.out.below hb8 HRC0.out.lt)
        have HRR8 := Lib.hid (HRR0.out.below hb8 HRR0.out.lt)
        have HW8 := Lib.hid (below_to HWC.out hb8)
        try rw [hW8]
        try rw [hBT]
        try rw [hBL]
        clear hb8 hW8 hBL hBT
        go_loopw [31, 32, 33, 34, 35, 36, 37, 38, 39, 40, 41, 42, 43] (fun i _ _ _ _ _ _ _ _ _ _ _ _ wr => ∃ kk : Nat, kk ≤ 2 ∧ i = .int .i64 (kk : Int) ∧ Below w6.heap.size w6 wr ∧ Row wr BC 24 #[.int .i64 D, .slice A0 N0 c0] ∧ Row wr BL 3 #[.int .i64 locl, .int .i64 pl] ∧ Row wr BT 3 #[.int .i64 t0, .int .i64 pt] ∧ Row wr w6.heap.size 24 #[.int .i64 xd, .slice Ax Mx cx, .int .i64 d, .slice A N c]) (fun i _ _ _ _ _ _ _ _ _ _ _ _ _ => 2 - (intOf i).toNat)
        case atStart => exact ⟨0, by omega, rfl, HW8.out, HRC8.out, HRL0.out, HRT0.out, HRR8.out⟩
        case round =>
          obtain ⟨kk, hkk, rfl, hbw, hrc, hrl, hrt, hrr⟩ := hrel
          by_cases hlt2 : kk < 2
          · obtain ⟨zl, hzl⟩ : ∃ zl : Int, wr.cell? ⟨BL, kk, none⟩ = some (.int .i64 zl) := by
              have : kk = 0 ∨ kk = 1 := by omega
              rcases this with rfl | rfl
              · exact ⟨_, hrl.cell 0⟩
              · exact ⟨_, hrl.cell 1⟩
            obtain ⟨zt, hzt⟩ : ∃ zt : Int, wr.cell? ⟨BT, kk, none⟩ = some (.int .i64 zt) := by
              have : kk = 0 ∨ kk = 1 := by omega
              rcases this with rfl | rfl
              · exact ⟨_, hrt.cell 0⟩
              · exact ⟨_, hrt.cell 1⟩
            have e0 := hrc.cell 0
            have e1 := hrc.cell 1
            simp only [List.getElem?_toArray, List.getElem?_cons_zero, List.getElem?_cons_succ] at e0 e1
            have k1 : (0 : Int) ≤ (kk : Int) := by omega
            have k2 : (kk : Int) < 2 := by omega
            have HW := Lib.hid hbw; have HRC := Lib.hid hrc; have HRL := Lib.hid hrl; have HRT := Lib.hid hrt; have HRR := Lib.hid hrr
            have HQ1 := Lib.hid (fun u hu => HQ1.out zl u hu)
            have HQ2 := Lib.hid (fun u hu => HQ2.out zl u hu)
            obtain ⟨tr, htr⟩ : ∃ t, atM D RS zl = t := ⟨_, rfl⟩
            rw [htr] at HQ1 HQ2
            obtain ⟨x1, x2, x3⟩ := tr
            dsimp only at HQ1 HQ2
            have HR1 := Lib.hid (fun u hu => HR1.out zt u hu)
            have HR2 := Lib.hid (fun u hu => HR2.out zt u hu)
            have HE1 := Lib.hid (fun u hu => HE1.out zl zt u hu)
            have HE2 := Lib.hid (fun u hu => HE2.out zl zt u hu)
            have HF1 := Lib.hid (fun u hu => HF1.out zl zt u hu)
            have HF2 := Lib.hid (fun u hu => HF2.out zl zt u hu)
            obtain ⟨vb, hvb⟩ : ∃ b, beforeM D RS zl zt = b := ⟨_, rfl⟩
            obtain ⟨va', hva⟩ : ∃ b, afterM D RS zl zt = b := ⟨_, rfl⟩
            rw [hvb] at HE1 HE2
            rw [hva] at HF1 HF2
            clear htr hvb hva hbw hrc hrl hrt hrr
            have hbase : Below wr.heap.size wr wr ∧ wr.cell? ⟨BC, 0, none⟩ = some (.int .i64 D) ∧ wr.cell? ⟨BC, 1, none⟩ = some (.slice A0 N0 c0) ∧ wr.cell? ⟨BL, kk, none⟩ = some (.int .i64 zl) ∧ wr.cell? ⟨BT, kk, none⟩ = some (.int .i64 zt) := ⟨Below.refl _ _, e0, e1, hzl, hzt⟩
            have hs0 : Below wr.heap.size wr wr := Below.refl _ _
            go_wp2
            go_region_held3 (fun u => Below wr.heap.size wr u ∧ u.cell? ⟨BC, 0, none⟩ = some (.int .i64 D) ∧ u.cell? ⟨BC, 1, none⟩ = some (.slice A0 N0 c0) ∧ u.cell? ⟨BL, kk, none⟩ = some (.int .i64 zl) ∧ u.cell? ⟨BT, kk, none⟩ = some (.int .i64 zt)) (first | assumption | (exact ⟨Below.drew (by assumption), by assumption, by assumption, by assumption, by assumption⟩) | (exact ⟨by assumption, by assumption, by assumption, by assumption, by assumption⟩) | (exact hold4 (‹Below wr.heap.size wr _ ∧ _ ∧ _ ∧ _ ∧ _›) b5)) (first | (go_at_call 19; ((with_reducible refine Calls.mono (HQ1.out _ ?hb1) ?_); (case hb1 => (first | exact below_to HW.out (‹Below wr.heap.size wr _ ∧ _ ∧ _ ∧ _ ∧ _›).1 | exact below_to HW.out (Below.drew (by assumption)))); rintro e w9 ⟨rfl, b5⟩)))
            obtain ⟨hS_w9, d0_w9, d1_w9, d2_w9, d3_w9⟩ := (‹Below wr.heap.size wr w9 ∧ _ ∧ _ ∧ _ ∧ _›)
            clear b5
            go_wp2
            go_region_held3 (fun u => Below wr.heap.size wr u ∧ u.cell? ⟨BC, 0, none⟩ = some (.int .i64 D) ∧ u.cell? ⟨BC, 1, none⟩ = some (.slice A0 N0 c0) ∧ u.cell? ⟨BL, kk, none⟩ = some (.int .i64 zl) ∧ u.cell? ⟨BT, kk, none⟩ = some (.int .i64 zt)) (first | assumption | (exact ⟨Below.drew (by assumption), by assumption, by assumption, by assumption, by assumption⟩) | (exact ⟨by assumption, by assumption, by assumption, by assumption, by assumption⟩) | (exact hold4 (‹Below wr.heap.size wr _ ∧ _ ∧ _ ∧ _ ∧ _›) b5)) (first | (go_at_call 20; ((with_reducible refine Calls.mono (HQ2.out _ ?hb1) ?_); (case hb1 => (first | exact below_to HW.out (‹Below wr.heap.size wr _ ∧ _ ∧ _ ∧ _ ∧ _›).1 | exact below_to HW.out (Below.drew (by assumption)))); rintro e w10 ⟨rfl, b5⟩)))
            obtain ⟨hS_w10, d0_w10, d1_w10, d2_w10, d3_w10⟩ := (‹Below wr.heap.size wr w10 ∧ _ ∧ _ ∧ _ ∧ _›)
            clear b5
            clear hS_w9 d0_w9 d1_w9 d2_w9 d3_w9
            go_wp2
            go_region_held3 (fun u => Below wr.heap.size wr u ∧ u.cell? ⟨BC, 0, none⟩ = some (.int .i64 D) ∧ u.cell? ⟨BC, 1, none⟩ = some (.slice A0 N0 c0) ∧ u.cell? ⟨BL, kk, none⟩ = some (.int .i64 zl) ∧ u.cell? ⟨BT, kk, none⟩ = some (.int .i64 zt)) (first | assumption | (exact ⟨Below.drew (by assumption), by assumption, by assumption, by assumption, by assumption⟩) | (exact ⟨by assumption, by assumption, by assumption, by assumption, by assumption⟩) | (exact hold4 (‹Below wr.heap.size wr _ ∧ _ ∧ _ ∧ _ ∧ _›) b5)) (first | (go_at_call 21; ((with_reducible refine Calls.mono (HR1.out _ ?hb1) ?_); (case hb1 => (first | exact below_to HW.out (‹Below wr.heap.size wr _ ∧ _ ∧ _ ∧ _ ∧ _›).1 | exact below_to HW.out (Below.drew (by assumption)))); rintro e w11 ⟨x, y, z, rfl, hm, b5⟩)))
            obtain ⟨hS_w11, d0_w11, d1_w11, d2_w11, d3_w11⟩ := (‹Below wr.heap.size wr w11 ∧ _ ∧ _ ∧ _ ∧ _›)
            clear b5
            clear hS_w10 d0_w10 d1_w10 d2_w10 d3_w10
            have HM := Lib.hid hm
            clear hm
            go_wp2
            go_region_held3 (fun u => Below wr.heap.size wr u ∧ u.cell? ⟨BC, 0, none⟩ = some (.int .i64 D) ∧ u.cell? ⟨BC, 1, none⟩ = some (.slice A0 N0 c0) ∧ u.cell? ⟨BL, kk, none⟩ = some (.int .i64 zl) ∧ u.cell? ⟨BT, kk, none⟩ = some (.int .i64 zt)) (first | assumption | (exact ⟨Below.drew (by assumption), by assumption, by assumption, by assumption, by assumption⟩) | (exact ⟨by assumption, by assumption, by assumption, by assumption, by assumption⟩) | (exact hold4 (‹Below wr.heap.size wr _ ∧ _ ∧ _ ∧ _ ∧ _›) b5)) (first | (go_at_call 22; ((with_reducible refine Calls.mono (HR2.out _ ?hb1) ?_); (case hb1 => (first | exact below_to HW.out (‹Below wr.heap.size wr _ ∧ _ ∧ _ ∧ _ ∧ _›).1 | exact below_to HW.out (Below.drew (by assumption)))); rintro e w12 ⟨x', y', z', rfl, hm, b5⟩; obtain ⟨rfl, rfl, rfl⟩ := HM.out.unique hm)))
            obtain ⟨hS_w12, d0_w12, d1_w12, d2_w12, d3_w12⟩ := (‹Below wr.heap.size wr w12 ∧ _ ∧ _ ∧ _ ∧ _›)
            clear b5
            clear hS_w11 d0_w11 d1_w11 d2_w11 d3_w11 hm
            go_upto_region 28 with fail
            go_cut [239] (fun s wx => s = .bool false ∧ Hid (Below wr.heap.size wr wx))
            case first =>
              go_region_held3 (fun u => Below wr.heap.size wr u ∧ u.cell? ⟨BC, 0, none⟩ = some (.int .i64 D) ∧ u.cell? ⟨BC, 1, none⟩ = some (.slice A0 N0 c0) ∧ u.cell? ⟨BL, kk, none⟩ = some (.int .i64 zl) ∧ u.cell? ⟨BT, kk, none⟩ = some (.int .i64 zt)) (first | assumption | (exact ⟨Below.drew (by assumption), by assumption, by assumption, by assumption, by assumption⟩) | (exact ⟨by assumption, by assumption, by assumption, by assumption, by assumption⟩) | (exact hold4 (‹Below wr.heap.size wr _ ∧ _ ∧ _ ∧ _ ∧ _›) b5)) (first | (go_at_call 23; ((with_reducible refine Calls.mono (HE1.out _ ?hb1) ?_); (case hb1 => (first | exact below_to HW.out (‹Below wr.heap.size wr _ ∧ _ ∧ _ ∧ _ ∧ _›).1 | exact below_to HW.out (Below.drew (by assumption)))); rintro e w13 ⟨rfl, b5⟩)) | (go_at_call 24; ((with_reducible refine Calls.mono (HE2.out _ ?hb1) ?_); (case hb1 => (first | exact below_to HW.out (‹Below wr.heap.size wr _ ∧ _ ∧ _ ∧ _ ∧ _›).1 | exact below_to HW.out (Below.drew (by assumption)))); rintro e w13 ⟨rfl, b5⟩)) | (go_at_call 25; ((with_reducible refine Calls.mono (HF1.out _ ?hb1) ?_); (case hb1 => (first | exact below_to HW.out (‹Below wr.heap.size wr _ ∧ _ ∧ _ ∧ _ ∧ _›).1 | exact below_to HW.out (Below.drew (by assumption)))); rintro e w13 ⟨rfl, b5⟩)) | (go_at_call 26; ((with_reducible refine Calls.mono (HF2.out _ ?hb1) ?_); (case hb1 => (first | exact below_to HW.out (‹Below wr.heap.size wr _ ∧ _ ∧ _ ∧ _ ∧ _›).1 | exact below_to HW.out (Below.drew (by assumption)))); rintro e w13 ⟨rfl, b5⟩)))
              all_goals go_wp2_with fail
              all_goals go_meet
              all_goals
                have hf := (‹Below wr.heap.size wr _ ∧ _ ∧ _ ∧ _ ∧ _›).1
                exact ⟨by simp, Lib.hid hf⟩
            case rest =>
              obtain ⟨rfl, hcc⟩ := hcut
              go_wp2
              go_roundw
              case rel => exact ⟨kk + 1, by omega, by go_num, below_to HW.out hcc.out, HRC.out.below hcc.out HRC.out.lt, HRL.out.below hcc.out HRL.out.lt, HRT.out.below hcc.out HRT.out.lt, HRR.out.below hcc.out HRR.out.lt⟩
              case measure => simp [intOf]; omega
          · have hk2 : kk = 2 := by omega
            subst hk2
            have HW := Lib.hid hbw; have HRR := Lib.hid hrr
            clear hbw hrc hrl hrt hrr
            go_wp2
            go_roundw
            case rel => exact ⟨k + 1, by omega, by go_num, HW.out, HRR.out⟩
            case measure => simp [intOf]; omega
    · have hk2 : k = 2 := by omega
      subst hk2
      clear hrow hbw
      go_wp2
      go_ret
      exact ⟨rfl, below_to HB6.out HBW.out⟩
end Go.Proofs.Ytfbgfcpehlimfaa
