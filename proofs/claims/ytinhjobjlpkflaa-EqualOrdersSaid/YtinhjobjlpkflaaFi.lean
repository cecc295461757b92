/- EqualOrders. -/
import Derived.Test.YtinhjobjlpkflaaFh
import Derived.Deep.CutBlock
namespace Go.Proofs.Ytinhjobjlpkflaa
open Go.RowKit Go.Shelf

set_option maxRecDepth 100000 in
set_option maxHeartbeats 16000000 in
theorem orders_true (x0 : Int) (v1 : Value) (xs : List I4) (v2 : Value) (ts : List I2) (w : World) (h0 : -9223372036854775808 ≤ x0 ∧ x0 ≤ 9223372036854775807) (hr1 : Recs enc4 4 w w.heap.size v1 xs) (hx : ∀ x ∈ xs, OkI4 x) (hr2 : Recs encT 2 w w.heap.size v2 ts) (ht : ∀ x ∈ ts, OkI2 x) :
    Calls Try.prog 5 #[.int .i64 x0, v1, v2] w fun e w' => e = .returned (.bool true) ∧ Below w.heap.size w w' := by
  obtain ⟨A1, c1, rfl, -⟩ := recs_form hr1
  obtain ⟨T1, k1, rfl, -, hk1⟩ := recs_form hr2
  obtain ⟨L, hL⟩ : ∃ L, madeA x0 xs = L := ⟨_, rfl⟩
  have HM := Lib.hid (fun u (h : Below w.heap.size w u) => made_at2 x0 h0 xs hx hL A1 _ c1 u (hr1.next h))
  have hva := made_valid x0 xs
  have hml := made_len x0 xs
  obtain ⟨m, hm, m2, m5⟩ := count_nat x0
  rw [hL] at hml
  rw [hL, hm] at hva
  have HCT := Lib.hid (fun u => count_any x0 h0.1 h0.2 u)
  rw [hm] at HCT
  have hll : L.length ≤ 20 := hml.1
  have HVA := Lib.hid hva
  have HMX0 := Lib.hid (Mix.self hva)
  have HNB := Lib.hid (show nowB 10000000 = true by decide)
  obtain ⟨O, hO⟩ : ∃ O, owV m L 10000000 = O := ⟨_, rfl⟩
  have HO0 := Lib.hid hO
  have HTR := Lib.hid hr2
  have HTK := Lib.hid ht
  have m0 : ((m : Int) == (m : Int)) = true := by simp
  have t9 : ts.length ≤ 9223372036854775807 := by have := (recs_cap hr2).2.1; omega
  have l9 : L.length ≤ 9223372036854775807 := by omega
  clear hr1 hx hr2 ht h0 hL hva hm hml hO hk1
  go_enter Try.func5, Try.ntmps5
  go_wp2_with (first | (go_at_call 10; (with_reducible refine Calls.mono (sane_any _) ?_); rintro r u1 ⟨rfl, hb⟩; have B1 := Lib.hid hb; clear hb) | (go_at_call 11; (with_reducible refine Calls.mono (HM.out _ B1.out) ?_); rintro r u2 ⟨A2, c2, rfl, ho, hr2, hb⟩; have B2 := Lib.hid (below_to B1.out hb); have HL2 := Lib.hid hr2; clear hr2 ho; clear hb) | (go_at_call 11; (with_reducible refine Calls.mono (HM.out _ B2.out) ?_); rintro r u3 ⟨A3, c3, rfl, ho, hr3, hb⟩; have B3 := Lib.hid (below_to B2.out hb); have HO := Lib.hid ho; have BB := Lib.hid hb; clear hr3 ho; clear hb))
  have HTR2 := Lib.hid (HTR.out.next B2.out)
  have HL0 := HL2
  go_loopw [10] (fun z wr => ∃ (k : Nat) (D : List Ap), z = .int .i64 (k : Int) ∧ k ≤ ts.length ∧ k ≤ 20 ∧ Hid (Mix m L D) ∧ Hid (wr.ownsRow u2.heap.size 49 4 (.slice A3 L.length c3) L.length (flatE encP D)) ∧ Hid (Below u2.heap.size u2 wr)) (fun z _ => 20 - (intOf z).toNat)
  case atStart => exact ⟨0, L, rfl, Nat.zero_le _, by decide, HMX0, HO, BB⟩
  case round =>
    obtain ⟨k, D, rfl, hk, hk20, HMX, HOW, HBW⟩ := hrel
    have k0 : (0 : Int) ≤ (k : Int) := by omega
    have e7 : IntKind.i64.wrap ((k : Int) + 1) = (k : Int) + 1 := IntWalk.i64_in _ (by omega)
    by_cases hgo : k < ts.length ∧ k < 20 ∧ 0 < L.length
    · obtain ⟨hk1, hk2, hl0⟩ := hgo
      have z1 : (k : Int) < (ts.length : Int) := by omega
      have z2 : (k : Int) < 20 := by omega
      have z3 : (0 : Int) < (L.length : Int) := by omega
      obtain ⟨t, htk⟩ : ∃ t, ts[k]? = some t := ⟨_, List.getElem?_eq_getElem hk1⟩
      have hok := HTK.out t (List.mem_of_getElem? htk)
      obtain ⟨bt, ot, rfl, hbt, htcell⟩ := recs_at HTR2.out k hk1
      have s0 : wr.cell? ⟨bt, ot + k * 2, none⟩ = some (.int .i64 t.a) := (HBW.out.cell hbt).trans (htcell k t htk 0 _ rfl)
      have s1 : wr.cell? ⟨bt, ot + k * 2 + 1, none⟩ = some (.int .i64 t.b) := (HBW.out.cell hbt).trans (htcell k t htk 1 _ rfl)
      have lw := HBW.out.size
      have g9 : bt < wr.heap.size := by omega
      have PA := Lib.hid (fun u => pick_any t.a (L.length : Int) (by omega) (by omega) hok.a.1 hok.a.2 u)
      have PB := Lib.hid (fun u => pick_any t.b (L.length : Int) (by omega) (by omega) hok.b.1 hok.b.2 u)
      have ba := pickI_lt t.a (L.length : Int) (by omega)
      have bb := pickI_lt t.b (L.length : Int) (by omega)
      obtain ⟨a, ha⟩ : ∃ a : Nat, pickI t.a (L.length : Int) = (a : Int) := ⟨(pickI t.a (L.length : Int)).toNat, by omega⟩
      obtain ⟨b, hb⟩ : ∃ b : Nat, pickI t.b (L.length : Int) = (b : Int) := ⟨(pickI t.b (L.length : Int)).toNat, by omega⟩
      rw [ha] at PA ba
      rw [hb] at PB bb
      obtain ⟨ta, tb⟩ := t
      dsimp only at s0 s1 PA PB ha hb
      have hDl : D.length = L.length := HMX.out.len
      obtain ⟨c, hc⟩ : ∃ c, D[a]? = some c := ⟨_, List.getElem?_eq_getElem (by omega)⟩
      obtain ⟨d, hd⟩ : ∃ d, D[b]? = some d := ⟨_, List.getElem?_eq_getElem (by omega)⟩
      have HSW := Lib.hid (HMX.out.swap hc hd)
      have a0 : (0 : Int) ≤ (a : Int) := by omega
      have b0 : (0 : Int) ≤ (b : Int) := by omega
      have a1 : (a : Int) < (L.length : Int) := by omega
      have b1 : (b : Int) < (L.length : Int) := by omega
      obtain ⟨g, hgA, hg1, hg2⟩ : ∃ g, A3 = some ⟨g, 0, none⟩ ∧ u2.heap.size ≤ g ∧ g < wr.heap.size := by
        obtain ⟨A, cc, e, _, _, h⟩ := own_slice HOW.out
        injection e with e1 e2 e3
        rcases h with ⟨_, h⟩ | ⟨g, h1, h2, h3⟩
        · omega
        · exact ⟨g, e1.trans h1, h2, h3⟩
      subst hgA
      obtain ⟨_, _, xa⟩ := own_cellsP HOW.out hc
      obtain ⟨_, _, xb⟩ := own_cellsP HOW.out hd
      have p0 : wr.cell? ⟨g, a * 4, none⟩ = some (.int .i64 c.cand) := (xa 0 (by decide)).1
      have q0 : wr.cell? ⟨g, b * 4, none⟩ = some (.int .i64 d.cand) := (xb 0 (by decide)).1
      have p1 : wr.cell? ⟨g, a * 4 + 1, none⟩ = some (.int .i64 c.at_) := (xa 1 (by decide)).1
      have q1 : wr.cell? ⟨g, b * 4 + 1, none⟩ = some (.int .i64 d.at_) := (xb 1 (by decide)).1
      have p2 : wr.cell? ⟨g, a * 4 + 2, none⟩ = some (.int .i64 c.secs) := (xa 2 (by decide)).1
      have q2 : wr.cell? ⟨g, b * 4 + 2, none⟩ = some (.int .i64 d.secs) := (xb 2 (by decide)).1
      have p3 : wr.cell? ⟨g, a * 4 + 3, none⟩ = some (.int .i64 c.weight) := (xa 3 (by decide)).1
      have q3 : wr.cell? ⟨g, b * 4 + 3, none⟩ = some (.int .i64 d.weight) := (xb 3 (by decide)).1
      obtain ⟨W2, hW2⟩ : ∃ W2, ((wr.alloc (.cells #[.int .i64 c.cand, .int .i64 c.at_, .int .i64 c.secs, .int .i64 c.weight] 49)).alloc (.cells #[.int .i64 d.cand, .int .i64 d.at_, .int .i64 d.secs, .int .i64 d.weight] 49)) = W2 := ⟨_, rfl⟩
      have RC := Lib.hid (show Row W2 wr.heap.size 49 #[.int .i64 c.cand, .int .i64 c.at_, .int .i64 c.secs, .int .i64 c.weight] by rw [← hW2]; exact (Row.new wr 49 #[.int .i64 c.cand, .int .i64 c.at_, .int .i64 c.secs, .int .i64 c.weight]).alloc _)
      have RD := Lib.hid (show Row W2 (wr.heap.size + 1) 49 #[.int .i64 d.cand, .int .i64 d.at_, .int .i64 d.secs, .int .i64 d.weight] by rw [← hW2]; have h := Row.new (wr.alloc (.cells #[.int .i64 c.cand, .int .i64 c.at_, .int .i64 c.secs, .int .i64 c.weight] 49)) 49 #[.int .i64 d.cand, .int .i64 d.at_, .int .i64 d.secs, .int .i64 d.weight]; simp only [World.size_alloc] at h; exact h)
      have hb2 : Below wr.heap.size wr W2 := by rw [← hW2]; exact ((Below.refl _ wr).alloc (Nat.le_refl _) _).alloc (by simp) _
      have HOW2 := Lib.hid (own_below HOW.out hb2)
      have HBW2 := Lib.hid (below_to HBW.out (hb2.mono (Nat.le_refl _)))
      have HW2 := Lib.hid hW2
      have ng1 : g ≠ wr.heap.size := by omega
      have ng2 : g ≠ wr.heap.size + 1 := by omega
      have lg2 : g < W2.heap.size := by have := hb2.size; omega
      obtain ⟨_, _, ya⟩ := own_cellsP HOW2.out hc
      obtain ⟨W3, hW3⟩ : ∃ W3, ((((W2.setCell ⟨g, a * 4, none⟩ (.int .i64 d.cand)).setCell ⟨g, a * 4 + 1, none⟩ (.int .i64 c.at_)).setCell ⟨g, a * 4 + 2, none⟩ (.int .i64 d.secs)).setCell ⟨g, a * 4 + 3, none⟩ (.int .i64 d.weight)) = W3 := ⟨_, rfl⟩
      have hown3 := own_setP HOW2.out hDl (show a < L.length by omega) ⟨d.cand, c.at_, d.secs, d.weight⟩
      rw [show ((((W2.setCell ⟨g, a * 4, none⟩ (.int .i64 d.cand)).setCell ⟨g, a * 4 + 1, none⟩ (.int .i64 c.at_)).setCell ⟨g, a * 4 + 2, none⟩ (.int .i64 d.secs)).setCell ⟨g, a * 4 + 3, none⟩ (.int .i64 d.weight)) = W3 from hW3] at hown3
      have HOW3 := Lib.hid hown3
      have RC3 := Lib.hid (show Row W3 wr.heap.size 49 #[.int .i64 c.cand, .int .i64 c.at_, .int .i64 c.secs, .int .i64 c.weight] by rw [← hW3]; exact (((RC.out.far (p := ⟨g, a * 4, none⟩) ng1.symm _).far (p := ⟨g, a * 4 + 1, none⟩) ng1.symm _).far (p := ⟨g, a * 4 + 2, none⟩) ng1.symm _).far (p := ⟨g, a * 4 + 3, none⟩) ng1.symm _)
      have RD3 := Lib.hid (show Row W3 (wr.heap.size + 1) 49 #[.int .i64 d.cand, .int .i64 d.at_, .int .i64 d.secs, .int .i64 d.weight] by rw [← hW3]; exact (((RD.out.far (p := ⟨g, a * 4, none⟩) ng2.symm _).far (p := ⟨g, a * 4 + 1, none⟩) ng2.symm _).far (p := ⟨g, a * 4 + 2, none⟩) ng2.symm _).far (p := ⟨g, a * 4 + 3, none⟩) ng2.symm _)
      have HBW3 := Lib.hid (show Below u2.heap.size u2 W3 by rw [← hW3]; exact (((HBW2.out.setCell (p := ⟨g, a * 4, none⟩) hg1 _).setCell (p := ⟨g, a * 4 + 1, none⟩) hg1 _).setCell (p := ⟨g, a * 4 + 2, none⟩) hg1 _).setCell (p := ⟨g, a * 4 + 3, none⟩) hg1 _)
      have lg3 : g < W3.heap.size := by rw [← hW3]; simpa using lg2
      have HW3 := Lib.hid hW3
      obtain ⟨y3, hy3⟩ : ∃ y, (D.set a ⟨d.cand, c.at_, d.secs, d.weight⟩)[b]? = some y := ⟨_, List.getElem?_eq_getElem (by rw [List.length_set]; omega)⟩
      obtain ⟨_, _, yb⟩ := own_cellsP HOW3.out hy3
      have HOW4 := Lib.hid (own_setP HOW3.out (by rw [List.length_set]; exact hDl) (show b < L.length by omega) ⟨c.cand, d.at_, c.secs, c.weight⟩)
      have HBW4 := Lib.hid ((((HBW3.out.setCell (p := ⟨g, b * 4, none⟩) hg1 (.int .i64 c.cand)).setCell (p := ⟨g, b * 4 + 1, none⟩) hg1 (.int .i64 d.at_)).setCell (p := ⟨g, b * 4 + 2, none⟩) hg1 (.int .i64 c.secs)).setCell (p := ⟨g, b * 4 + 3, none⟩) hg1 (.int .i64 c.weight))
      clear htk hok htcell lw ba bb ha hb hc hd xa xb hb2 hW2 hown3 hW3 hDl
      go_upto_region 13 with (go_at_call 13; (first | (with_reducible refine Calls.mono (PA.out _) ?_) | (with_reducible refine Calls.mono (PB.out _) ?_)); rintro r y1 ⟨rfl, rfl⟩)
      rw [HW2.out]
      clear s0 s1 p0 q0 p1 q1 p2 q2 p3 q3
      have rc0 := RC.out.cell 0
      have rc1 := RC.out.cell 1
      have rc2 := RC.out.cell 2
      have rc3 := RC.out.cell 3
      simp only [List.getElem?_toArray, List.getElem?_cons_zero, List.getElem?_cons_succ] at rc0 rc1 rc2 rc3
      have rd0 := RD.out.cell 0
      have rd1 := RD.out.cell 1
      have rd2 := RD.out.cell 2
      have rd3 := RD.out.cell 3
      simp only [List.getElem?_toArray, List.getElem?_cons_zero, List.getElem?_cons_succ] at rd0 rd1 rd2 rd3
      have lc := RC.out.lt
      have ld := RD.out.lt
      have p0 : W2.cell? ⟨g, a * 4, none⟩ = some (.int .i64 c.cand) := (ya 0 (by decide)).1
      have f0 : W2.frozen? ⟨g, a * 4, none⟩ = false := (ya 0 (by decide)).2
      have p1 : W2.cell? ⟨g, a * 4 + 1, none⟩ = some (.int .i64 c.at_) := (ya 1 (by decide)).1
      have f1 : W2.frozen? ⟨g, a * 4 + 1, none⟩ = false := (ya 1 (by decide)).2
      have p2 : W2.cell? ⟨g, a * 4 + 2, none⟩ = some (.int .i64 c.secs) := (ya 2 (by decide)).1
      have f2 : W2.frozen? ⟨g, a * 4 + 2, none⟩ = false := (ya 2 (by decide)).2
      have p3 : W2.cell? ⟨g, a * 4 + 3, none⟩ = some (.int .i64 c.weight) := (ya 3 (by decide)).1
      have f3 : W2.frozen? ⟨g, a * 4 + 3, none⟩ = false := (ya 3 (by decide)).2
      clear ya
      go_upto_region 14 with fail
      rw [HW3.out]
      clear rc0 rd0 p0 f0 rc1 rd1 p1 f1 rc2 rd2 p2 f2 rc3 rd3 p3 f3 lc ld
      have rc0 := RC3.out.cell 0
      have rc1 := RC3.out.cell 1
      have rc2 := RC3.out.cell 2
      have rc3 := RC3.out.cell 3
      simp only [List.getElem?_toArray, List.getElem?_cons_zero, List.getElem?_cons_succ] at rc0 rc1 rc2 rc3
      have rd0 := RD3.out.cell 0
      have rd1 := RD3.out.cell 1
      have rd2 := RD3.out.cell 2
      have rd3 := RD3.out.cell 3
      simp only [List.getElem?_toArray, List.getElem?_cons_zero, List.getElem?_cons_succ] at rd0 rd1 rd2 rd3
      have lc := RC3.out.lt
      have ld := RD3.out.lt
      have p0 : W3.cell? ⟨g, b * 4, none⟩ = some (.int .i64 y3.cand) := (yb 0 (by decide)).1
      have f0 : W3.frozen? ⟨g, b * 4, none⟩ = false := (yb 0 (by decide)).2
      have p1 : W3.cell? ⟨g, b * 4 + 1, none⟩ = some (.int .i64 y3.at_) := (yb 1 (by decide)).1
      have f1 : W3.frozen? ⟨g, b * 4 + 1, none⟩ = false := (yb 1 (by decide)).2
      have p2 : W3.cell? ⟨g, b * 4 + 2, none⟩ = some (.int .i64 y3.secs) := (yb 2 (by decide)).1
      have f2 : W3.frozen? ⟨g, b * 4 + 2, none⟩ = false := (yb 2 (by decide)).2
      have p3 : W3.cell? ⟨g, b * 4 + 3, none⟩ = some (.int .i64 y3.weight) := (yb 3 (by decide)).1
      have f3 : W3.frozen? ⟨g, b * 4 + 3, none⟩ = false := (yb 3 (by decide)).2
      clear yb
      go_wp2
      go_roundw
      case rel => exact ⟨k + 1, swapA D a b c d, by go_num, by omega, by omega, HSW, HOW4, HBW4⟩
      case measure => simp [intOf]; omega
    · have HVD := Lib.hid (HMX.out.valid HVA.out)
      have HO1 := Lib.hid (show owV m D 10000000 = O by rw [← orders HMX.out HVA.out]; exact HO0.out)
      have HD := Lib.hid (recs_of_ownE (enc := encP) (k := 4) (fun _ => rfl) HOW.out HMX.out.len)
      have HL := Lib.hid (show Recs encP 4 wr wr.heap.size (.slice A2 L.length c2) L from HL0.out.next HBW.out)
      have B3 := Lib.hid (below_to B2.out HBW.out)
      by_cases hk1 : k < ts.length
      · have z1 : (k : Int) < (ts.length : Int) := by omega
        by_cases hk2 : k < 20
        · have z2 : (k : Int) < 20 := by omega
          have z3 : ¬ (0 : Int) < (L.length : Int) := by omega
          go_wp2_with (first | (go_at_call 12; (first | (with_reducible refine Calls.mono (HCT.out _) ?_)); rintro r y1 ⟨rfl, rfl⟩) | (go_at_call 21; (with_reducible refine Calls.mono (owed_at m 10000000 L _ _ _ _ HL.out HVA.out HNB.out HO0.out) ?_); rintro r u4 ⟨A4, c4, rfl, h4, hb⟩; have B4 := Lib.hid (below_to B3.out hb); have HL := Lib.hid (HL.out.next hb); have HD := Lib.hid (HD.out.next hb); have HP1 := Lib.hid h4; clear h4; clear hb) | (go_at_call 21; (with_reducible refine Calls.mono (owed_at m 10000000 D _ _ _ _ HD.out HVD.out HNB.out HO1.out) ?_); rintro r u5 ⟨A5, c5, rfl, h5, hb⟩; have B5 := Lib.hid (below_to B4.out hb); have HL := Lib.hid (HL.out.next hb); have HD := Lib.hid (HD.out.next hb); have HP1 := Lib.hid (HP1.out.next hb); have HP2 := Lib.hid h5; clear h5; clear hb) | (go_at_call 27; (with_reducible refine Calls.mono (rints_eq O _ _ _ _ _ _ _ HP1.out HP2.out) ?_); rintro r u6 ⟨rfl, hb⟩; have B6 := Lib.hid (below_to B5.out hb); have HL := Lib.hid (HL.out.next hb); have HD := Lib.hid (HD.out.next hb); have HP1 := Lib.hid (HP1.out.next hb); have HP2 := Lib.hid (HP2.out.next hb); clear hb))
          go_ret
          exact ⟨rfl, B6.out⟩
        · have z2 : ¬ (k : Int) < 20 := by omega
          go_wp2_with (first | (go_at_call 12; (first | (with_reducible refine Calls.mono (HCT.out _) ?_)); rintro r y1 ⟨rfl, rfl⟩) | (go_at_call 21; (with_reducible refine Calls.mono (owed_at m 10000000 L _ _ _ _ HL.out HVA.out HNB.out HO0.out) ?_); rintro r u4 ⟨A4, c4, rfl, h4, hb⟩; have B4 := Lib.hid (below_to B3.out hb); have HL := Lib.hid (HL.out.next hb); have HD := Lib.hid (HD.out.next hb); have HP1 := Lib.hid h4; clear h4; clear hb) | (go_at_call 21; (with_reducible refine Calls.mono (owed_at m 10000000 D _ _ _ _ HD.out HVD.out HNB.out HO1.out) ?_); rintro r u5 ⟨A5, c5, rfl, h5, hb⟩; have B5 := Lib.hid (below_to B4.out hb); have HL := Lib.hid (HL.out.next hb); have HD := Lib.hid (HD.out.next hb); have HP1 := Lib.hid (HP1.out.next hb); have HP2 := Lib.hid h5; clear h5; clear hb) | (go_at_call 27; (with_reducible refine Calls.mono (rints_eq O _ _ _ _ _ _ _ HP1.out HP2.out) ?_); rintro r u6 ⟨rfl, hb⟩; have B6 := Lib.hid (below_to B5.out hb); have HL := Lib.hid (HL.out.next hb); have HD := Lib.hid (HD.out.next hb); have HP1 := Lib.hid (HP1.out.next hb); have HP2 := Lib.hid (HP2.out.next hb); clear hb))
          go_ret
          exact ⟨rfl, B6.out⟩
      · have z1 : ¬ (k : Int) < (ts.length : Int) := by omega
        go_wp2_with (first | (go_at_call 12; (first | (with_reducible refine Calls.mono (HCT.out _) ?_)); rintro r y1 ⟨rfl, rfl⟩) | (go_at_call 21; (with_reducible refine Calls.mono (owed_at m 10000000 L _ _ _ _ HL.out HVA.out HNB.out HO0.out) ?_); rintro r u4 ⟨A4, c4, rfl, h4, hb⟩; have B4 := Lib.hid (below_to B3.out hb); have HL := Lib.hid (HL.out.next hb); have HD := Lib.hid (HD.out.next hb); have HP1 := Lib.hid h4; clear h4; clear hb) | (go_at_call 21; (with_reducible refine Calls.mono (owed_at m 10000000 D _ _ _ _ HD.out HVD.out HNB.out HO1.out) ?_); rintro r u5 ⟨A5, c5, rfl, h5, hb⟩; have B5 := Lib.hid (below_to B4.out hb); have HL := Lib.hid (HL.out.next hb); have HD := Lib.hid (HD.out.next hb); have HP1 := Lib.hid (HP1.out.next hb); have HP2 := Lib.hid h5; clear h5; clear hb) | (go_at_call 27; (with_reducible refine Calls.mono (rints_eq O _ _ _ _ _ _ _ HP1.out HP2.out) ?_); rintro r u6 ⟨rfl, hb⟩; have B6 := Lib.hid (below_to B5.out hb); have HL := Lib.hid (HL.out.next hb); have HD := Lib.hid (HD.out.next hb); have HP1 := Lib.hid (HP1.out.next hb); have HP2 := Lib.hid (HP2.out.next hb); clear hb))
        go_ret
        exact ⟨rfl, B6.out⟩
end Go.Proofs.Ytinhjobjlpkflaa
