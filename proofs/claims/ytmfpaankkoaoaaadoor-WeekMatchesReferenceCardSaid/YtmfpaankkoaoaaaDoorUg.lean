/- Contract of combine. -/
import Derived.Test.YtmfpaankkoaoaaaDoorUf
import Derived.Laws.ResultCell
import Derived.Shelf.RegionOpenPlain
namespace Go.Proofs.YtmfpaankkoaoaaaDoor
open Go.RowKit

theorem results_wt {fn : Func} {p u : Tmp} (h : fn.results = #[.cell p 23, .tmp u]) (tmps : Array Value) (w : World) (g : Nat) (l : List Int)
    (hp : tmps.getD p undef = .pointer (some ⟨g, 0, none⟩)) (hg : Row w g 23 (ints l)) (h7 : l.length = 7) :
    (results fn tmps).run Tryd.prog w = .ok (.tuple #[wv l, tmps.getD u undef]) w := by
  have e := run_loadVar_row (P := Tryd.prog) w g 23 23 (ints l) (0, 0) _ hg Tryd.underlying23 rfl (by rw [show (ints l).size = 7 by simp [ints, h7]]; kernel_rfl)
  rw [results_cell_tmp h, hp]
  simp [asAddr, Result.andThen, e, wv]
/-- The days of two weeks, put together. -/
def combL (F : Nat → Nat → Nat) (la lb : List Int) : List Int := (List.range 7).map fun k => ((F (hrs la k) (hrs lb k) : Nat) : Int)
def partL (F : Nat → Nat → Nat) (la lb : List Int) (n : Nat) : List Int := (List.range 7).map fun k => if k < n then ((F (hrs la k) (hrs lb k) : Nat) : Int) else 0
theorem combL_len (F : Nat → Nat → Nat) (la lb : List Int) : (combL F la lb).length = 7 := by simp [combL]
theorem partL_len (F : Nat → Nat → Nat) (la lb : List Int) (n : Nat) : (partL F la lb n).length = 7 := by simp [partL]
theorem partL_all (F : Nat → Nat → Nat) (la lb : List Int) : partL F la lb 7 = combL F la lb := by
  unfold partL combL
  refine List.map_congr_left fun k hk => ?_
  rw [if_pos (List.mem_range.1 hk)]
theorem partL_zero (F : Nat → Nat → Nat) (la lb : List Int) : partL F la lb 0 = [0, 0, 0, 0, 0, 0, 0] := by simp [partL, List.range, List.range.loop]
theorem partL_put (F : Nat → Nat → Nat) (la lb : List Int) (n : Nat) (hn : n < 7) : (ints (partL F la lb n)).setIfInBounds n (.int .i64 ((F (hrs la n) (hrs lb n) : Nat) : Int)) = ints (partL F la lb (n + 1)) := by
  apply Array.ext_getElem?
  intro k
  rw [Array.getElem?_setIfInBounds, ints_get, ints_get]
  by_cases hk : n = k
  · subst hk
    rw [if_pos rfl]
    simp [ints, partL, hn]
  · rw [if_neg hk]
    by_cases h7 : k < 7
    · simp only [partL, List.getElem?_map, List.getElem?_range h7, Option.map_some]
      by_cases h1 : k < n
      · rw [if_pos h1, if_pos (by omega)]
      · rw [if_neg h1, if_neg (by omega)]
    · rw [List.getElem?_eq_none (by rw [partL_len]; omega), List.getElem?_eq_none (by rw [partL_len]; omega)]
def zeroW : List Int := [0, 0, 0, 0, 0, 0, 0]
/-- What And, Or and Not return. -/
def combM (F : Nat → Nat → Nat) (la lb : List Int) : List Int × Int := if validW la && validW lb then (combL F la lb, 0) else (zeroW, 60)
theorem combM_len (F : Nat → Nat → Nat) (la lb : List Int) : (combM F la lb).1.length = 7 := by
  unfold combM; split
  · exact combL_len F la lb
  · rfl
theorem seven_cells {w : World} {g : Nat} {a b c d e f h : Int} (hr : Row w g 23 (ints [a, b, c, d, e, f, h])) : w.cell? ⟨g, 0, none⟩ = some (.int .i64 a) ∧ w.cell? ⟨g, 1, none⟩ = some (.int .i64 b) ∧ w.cell? ⟨g, 2, none⟩ = some (.int .i64 c) ∧ w.cell? ⟨g, 3, none⟩ = some (.int .i64 d) ∧ w.cell? ⟨g, 4, none⟩ = some (.int .i64 e) ∧ w.cell? ⟨g, 5, none⟩ = some (.int .i64 f) ∧ w.cell? ⟨g, 6, none⟩ = some (.int .i64 h) ∧ w.frozen? ⟨g, 0, none⟩ = false ∧ w.frozen? ⟨g, 1, none⟩ = false ∧ w.frozen? ⟨g, 2, none⟩ = false ∧ w.frozen? ⟨g, 3, none⟩ = false ∧ w.frozen? ⟨g, 4, none⟩ = false ∧ w.frozen? ⟨g, 5, none⟩ = false ∧ w.frozen? ⟨g, 6, none⟩ = false :=
  ⟨hr.cell 0, hr.cell 1, hr.cell 2, hr.cell 3, hr.cell 4, hr.cell 5, hr.cell 6, hr.free 0, hr.free 1, hr.free 2, hr.free 3, hr.free 4, hr.free 5, hr.free 6⟩
set_option maxRecDepth 100000 in
set_option maxHeartbeats 8000000 in
theorem combine_any (g : FuncId) (F : Nat → Nat → Nat) (eg : ∀ args w, (callFunc g args).run Tryd.prog w = .ok (.enter g args) w) (hF : ∀ x y : Nat, x ≤ 16777215 → y ≤ 16777215 → ∀ u, Calls Tryd.prog g #[.int .i64 (x : Int), .int .i64 (y : Int)] u fun e w' => e = .returned (.int .i64 ((F x y : Nat) : Int)) ∧ u = w')
    (la lb : List Int) (ha : la.length = 7) (hb : lb.length = 7) (w : World) :
    Calls Tryd.prog 36 #[wv la, wv lb, .func (.func g) #[] #[]] w fun e w' => e = .returned (.tuple #[wv (combM F la lb).1, .int .i64 (combM F la lb).2]) ∧ Below w.heap.size w w' := by
  have HVA := Lib.hid (fun u => valid_any la ha u)
  have HVB := Lib.hid (fun u => valid_any lb hb u)
  have HAT := Lib.hid (fun (hv : validW la = true) k (hk : k < 7) => hrs_at hv (show k < la.length by omega))
  have HBT := Lib.hid (fun (hv : validW lb = true) k (hk : k < 7) => hrs_at hv (show k < lb.length by omega))
  have HCA := Lib.hid (fun k => ints_get la k)
  have HCB := Lib.hid (fun k => ints_get lb k)
  unfold combM
  obtain ⟨LA, hLA⟩ : ∃ L, la = L := ⟨_, rfl⟩
  obtain ⟨LB, hLB⟩ : ∃ L, lb = L := ⟨_, rfl⟩
  obtain ⟨a1, a2, a3, a4, a5, a6, a7, rfl⟩ := seven ha
  obtain ⟨b1, b2, b3, b4, b5, b6, b7, rfl⟩ := seven hb
  have hwa : wv LA = .agg #[.int .i64 a1, .int .i64 a2, .int .i64 a3, .int .i64 a4, .int .i64 a5, .int .i64 a6, .int .i64 a7] := by rw [← hLA]; rfl
  have hwb : wv LB = .agg #[.int .i64 b1, .int .i64 b2, .int .i64 b3, .int .i64 b4, .int .i64 b5, .int .i64 b6, .int .i64 b7] := by rw [← hLB]; rfl
  have hia : ints LA = #[.int .i64 a1, .int .i64 a2, .int .i64 a3, .int .i64 a4, .int .i64 a5, .int .i64 a6, .int .i64 a7] := by rw [← hLA]; rfl
  have hib : ints LB = #[.int .i64 b1, .int .i64 b2, .int .i64 b3, .int .i64 b4, .int .i64 b5, .int .i64 b6, .int .i64 b7] := by rw [← hLB]; rfl
  simp only [hLA, hLB] at HVA HVB HAT HBT HCA HCB ⊢
  rw [hwa] at HVA ⊢
  rw [hwb] at HVB ⊢
  rw [hia] at HCA
  rw [hib] at HCB
  clear hwa hwb hia hib ha hb hLA hLB
  obtain ⟨W0, hW0⟩ : ∃ W0, ((w.alloc (.cells #[.int .i64 a1, .int .i64 a2, .int .i64 a3, .int .i64 a4, .int .i64 a5, .int .i64 a6, .int .i64 a7] 23)).alloc (.cells #[.int .i64 b1, .int .i64 b2, .int .i64 b3, .int .i64 b4, .int .i64 b5, .int .i64 b6, .int .i64 b7] 23)).alloc (.cells #[.int .i64 0, .int .i64 0, .int .i64 0, .int .i64 0, .int .i64 0, .int .i64 0, .int .i64 0] 23) = W0 := ⟨_, rfl⟩
  have hs0 : W0.heap.size = w.heap.size + 1 + 1 + 1 := by rw [← hW0]; simp
  have hB0 : Below w.heap.size w W0 := by rw [← hW0]; exact (((Below.refl _ _).alloc (Nat.le_refl _) _).alloc (by simp) _).alloc (by simp; omega) _
  have hA : Row W0 w.heap.size 23 #[.int .i64 a1, .int .i64 a2, .int .i64 a3, .int .i64 a4, .int .i64 a5, .int .i64 a6, .int .i64 a7] := by rw [← hW0]; exact ((Row.new w _ _).alloc _).alloc _
  have hBr : Row W0 (w.heap.size + 1) 23 #[.int .i64 b1, .int .i64 b2, .int .i64 b3, .int .i64 b4, .int .i64 b5, .int .i64 b6, .int .i64 b7] := by
    rw [← hW0]
    have := (Row.new (w.alloc (.cells #[.int .i64 a1, .int .i64 a2, .int .i64 a3, .int .i64 a4, .int .i64 a5, .int .i64 a6, .int .i64 a7] 23)) 23 #[.int .i64 b1, .int .i64 b2, .int .i64 b3, .int .i64 b4, .int .i64 b5, .int .i64 b6, .int .i64 b7]).alloc (.cells #[.int .i64 0, .int .i64 0, .int .i64 0, .int .i64 0, .int .i64 0, .int .i64 0, .int .i64 0] 23)
    simpa using this
  have hRr : Row W0 (w.heap.size + 1 + 1) 23 (ints zeroW) := by
    rw [← hW0]
    have := Row.new ((w.alloc (.cells #[.int .i64 a1, .int .i64 a2, .int .i64 a3, .int .i64 a4, .int .i64 a5, .int .i64 a6, .int .i64 a7] 23)).alloc (.cells #[.int .i64 b1, .int .i64 b2, .int .i64 b3, .int .i64 b4, .int .i64 b5, .int .i64 b6, .int .i64 b7] 23)) 23 (ints zeroW)
    simp only [World.size_alloc] at this
    exact this
  have HW0 := Lib.hid hW0; have HA := Lib.hid hA; have HBr := Lib.hid hBr; have HRr := Lib.hid hRr; have HB0 := Lib.hid hB0
  have p0 := hA.cell 0
  have p1 := hA.cell 1
  have p2 := hA.cell 2
  have p3 := hA.cell 3
  have p4 := hA.cell 4
  have p5 := hA.cell 5
  have p6 := hA.cell 6
  have q0 := hBr.cell 0
  have q1 := hBr.cell 1
  have q2 := hBr.cell 2
  have q3 := hBr.cell 3
  have q4 := hBr.cell 4
  have q5 := hBr.cell 5
  have q6 := hBr.cell 6
  simp only [List.getElem?_toArray, List.getElem?_cons_zero, List.getElem?_cons_succ] at p0 p1 p2 p3 p4 p5 p6 q0 q1 q2 q3 q4 q5 q6
  clear hW0 hA hBr hRr hB0
  cases h1 : validW LA with
  | false =>
    have HV := Lib.hid (fun u => h1 ▸ HVA.out u)
    clear HVA HVB HAT HBT HCA HCB h1
    go_enter Tryd.func36, Tryd.ntmps36
    go_upto_region 1 with (fail)
    rw [HW0.out]
    go_wp2_with (go_at_call 6; with_reducible refine Calls.mono (HV.out _) ?_; rintro e' w1 ⟨rfl, hb1⟩; have HB1 := Lib.hid hb1; obtain ⟨z0, z1, z2, z3, z4, z5, z6, y0, y1, y2, y3, y4, y5, y6⟩ := seven_cells (HRr.out.below hb1 (by omega)); clear hb1)
    have hfin : Row (((((((w1.setCell ⟨w.heap.size + 1 + 1, 0, none⟩ (.int .i64 0)).setCell ⟨w.heap.size + 1 + 1, 1, none⟩ (.int .i64 0)).setCell ⟨w.heap.size + 1 + 1, 2, none⟩ (.int .i64 0)).setCell ⟨w.heap.size + 1 + 1, 3, none⟩ (.int .i64 0)).setCell ⟨w.heap.size + 1 + 1, 4, none⟩ (.int .i64 0)).setCell ⟨w.heap.size + 1 + 1, 5, none⟩ (.int .i64 0)).setCell ⟨w.heap.size + 1 + 1, 6, none⟩ (.int .i64 0)) (w.heap.size + 1 + 1) 23 (ints zeroW) := by
      have := (((((((HRr.out.below HB1.out (by omega)).put 0 (.int .i64 0)).put 1 (.int .i64 0)).put 2 (.int .i64 0)).put 3 (.int .i64 0)).put 4 (.int .i64 0)).put 5 (.int .i64 0)).put 6 (.int .i64 0)
      exact this
    refine bodyPost_ret (results_wt rfl _ _ (w.heap.size + 1 + 1) zeroW rfl hfin rfl) rfl ⟨rfl, ?_⟩
    exact (HB0.out.trans (HB1.out.mono (by omega))).trans (((((((((Below.refl w.heap.size w1).setCell (by dsimp only; omega) _).setCell (by dsimp only; omega) _).setCell (by dsimp only; omega) _).setCell (by dsimp only; omega) _).setCell (by dsimp only; omega) _).setCell (by dsimp only; omega) _).setCell (by dsimp only; omega) _))
  | true =>
    have HV := Lib.hid (fun u => h1 ▸ HVA.out u)
    cases h2 : validW LB with
    | false =>
      have HV2 := Lib.hid (fun u => h2 ▸ HVB.out u)
      rw [Bool.true_and, if_neg (by decide)]
      clear HVA HVB HAT HBT HCA HCB h1 h2
      go_enter Tryd.func36, Tryd.ntmps36
      go_upto_region 1 with (fail)
      rw [HW0.out]
      go_wp2_with (first | (go_at_call 6; with_reducible refine Calls.mono (HV.out _) ?_; rintro e' w1 ⟨rfl, hb1⟩; have HB1 := Lib.hid hb1; obtain ⟨z0, z1, z2, z3, z4, z5, z6, y0, y1, y2, y3, y4, y5, y6⟩ := seven_cells (HRr.out.below hb1 (by omega)); obtain ⟨r0, r1, r2, r3, r4, r5, r6, -⟩ := seven_cells (HBr.out.below hb1 (by omega)); clear hb1) | (go_at_call 6; with_reducible refine Calls.mono (HV2.out _) ?_; rintro e' w2 ⟨rfl, hb2⟩; have HB2 := Lib.hid (below_to HB1.out hb2); obtain ⟨z0, z1, z2, z3, z4, z5, z6, y0, y1, y2, y3, y4, y5, y6⟩ := seven_cells (HRr.out.below HB2.out (by omega)); clear hb2))
      have hfin : Row (((((((w2.setCell ⟨w.heap.size + 1 + 1, 0, none⟩ (.int .i64 0)).setCell ⟨w.heap.size + 1 + 1, 1, none⟩ (.int .i64 0)).setCell ⟨w.heap.size + 1 + 1, 2, none⟩ (.int .i64 0)).setCell ⟨w.heap.size + 1 + 1, 3, none⟩ (.int .i64 0)).setCell ⟨w.heap.size + 1 + 1, 4, none⟩ (.int .i64 0)).setCell ⟨w.heap.size + 1 + 1, 5, none⟩ (.int .i64 0)).setCell ⟨w.heap.size + 1 + 1, 6, none⟩ (.int .i64 0)) (w.heap.size + 1 + 1) 23 (ints zeroW) := by
        have := (((((((HRr.out.below HB2.out (by omega)).put 0 (.int .i64 0)).put 1 (.int .i64 0)).put 2 (.int .i64 0)).put 3 (.int .i64 0)).put 4 (.int .i64 0)).put 5 (.int .i64 0)).put 6 (.int .i64 0)
        exact this
      refine bodyPost_ret (results_wt rfl _ _ (w.heap.size + 1 + 1) zeroW rfl hfin rfl) rfl ⟨rfl, ?_⟩
      exact (HB0.out.trans (HB2.out.mono (by omega))).trans (((((((((Below.refl w.heap.size w2).setCell (by dsimp only; omega) _).setCell (by dsimp only; omega) _).setCell (by dsimp only; omega) _).setCell (by dsimp only; omega) _).setCell (by dsimp only; omega) _).setCell (by dsimp only; omega) _).setCell (by dsimp only; omega) _))
    | true =>
      have HV2 := Lib.hid (fun u => h2 ▸ HVB.out u)
      have HAT := Lib.hid (HAT.out h1)
      have HBT := Lib.hid (HBT.out h2)
      rw [Bool.true_and, if_pos rfl]
      clear HVA HVB h1 h2
      go_enter Tryd.func36, Tryd.ntmps36
      go_upto_region 1 with (fail)
      rw [HW0.out]
      clear HW0
      go_wp2_with (first | (go_at_call 6; with_reducible refine Calls.mono (HV.out _) ?_; rintro e' w1 ⟨rfl, hb1⟩; have HB1 := Lib.hid hb1; obtain ⟨z0, z1, z2, z3, z4, z5, z6, y0, y1, y2, y3, y4, y5, y6⟩ := seven_cells (HRr.out.below hb1 (by omega)); obtain ⟨r0, r1, r2, r3, r4, r5, r6, -⟩ := seven_cells (HBr.out.below hb1 (by omega)); clear hb1) | (go_at_call 6; with_reducible refine Calls.mono (HV2.out _) ?_; rintro e' w2 ⟨rfl, hb2⟩; have HB2 := Lib.hid (below_to HB1.out hb2); obtain ⟨z0, z1, z2, z3, z4, z5, z6, y0, y1, y2, y3, y4, y5, y6⟩ := seven_cells (HRr.out.below HB2.out (by omega)); clear hb2))
      have HN := Lib.hid (show Row (w2.alloc (.cells #[.int .i64 0, .int .i64 0, .int .i64 0, .int .i64 0, .int .i64 0, .int .i64 0, .int .i64 0] 23)) w2.heap.size 23 (ints (partL F LA LB 0)) by rw [partL_zero]; exact Row.new w2 _ _)
      have hsw := HB2.out.size
      go_loopw [9, 19] (fun _ i wr => ∃ k : Nat, k ≤ 7 ∧ i = .int .i64 (k : Int) ∧ Hid (Row wr w2.heap.size 23 (ints (partL F LA LB k))) ∧ Hid (Below w2.heap.size w2 wr)) (fun _ i _ => 7 - (intOf i).toNat)
      case atStart => exact ⟨0, by omega, rfl, HN, Lib.hid ((Below.refl _ _).alloc (Nat.le_refl _) _)⟩
      case round =>
        obtain ⟨k, hk, rfl, HO, HBW⟩ := hrel
        by_cases hlt : k < 7
        · obtain ⟨ha1, ha2⟩ := HAT.out k hlt
          obtain ⟨hb1, hb2⟩ := HBT.out k hlt
          have hca := HCA.out k
          have hcb := HCB.out k
          rw [ha1] at hca
          rw [hb1] at hcb
          simp only [Option.map_some] at hca hcb
          have hbb := below_to HB2.out HBW.out
          have s0 : wr.cell? ⟨w.heap.size, k, none⟩ = some (.int .i64 (hrs LA k : Int)) := ((HA.out.below hbb (by omega)).cell k).trans hca
          have s1 : wr.cell? ⟨w.heap.size + 1, k, none⟩ = some (.int .i64 (hrs LB k : Int)) := ((HBr.out.below hbb (by omega)).cell k).trans hcb
          have hput := partL_put F LA LB k hlt
          have hfc := hF (hrs LA k) (hrs LB k) ha2 hb2
          obtain ⟨x, hx⟩ : ∃ x, hrs LA k = x := ⟨_, rfl⟩
          obtain ⟨y, hy⟩ : ∃ y, hrs LB k = y := ⟨_, rfl⟩
          rw [hx] at s0 hput hfc
          rw [hy] at s1 hput hfc
          obtain ⟨v, hv⟩ : ∃ v, F x y = v := ⟨_, rfl⟩
          rw [hv] at hput hfc
          have hol := HO.out.lt
          have s2 := HO.out.free k
          obtain ⟨o1, hs3⟩ : ∃ o, wr.cell? ⟨w2.heap.size, k, none⟩ = some (.int .i64 o) := by
            have hc := HO.out.cell k
            rw [ints_get, List.getElem?_eq_getElem (show k < (partL F LA LB k).length by rw [partL_len]; exact hlt)] at hc
            exact ⟨_, hc⟩
          have HX := Lib.hid (show ∀ n, Row ((wr.setCell ⟨w2.heap.size, k, none⟩ (.int .i64 (v : Int))).drewN n) w2.heap.size 23 (ints (partL F LA LB (k + 1))) from fun n => by
            have := HO.out.put k (.int .i64 (v : Int))
            rw [hput] at this
            exact this)
          have HXB := Lib.hid (show ∀ n, Below w2.heap.size w2 ((wr.setCell ⟨w2.heap.size, k, none⟩ (.int .i64 (v : Int))).drewN n) from fun n => belowN (HBW.out.setCell (Nat.le_refl _) _) n)
          have HFC := Lib.hid hfc
          have i1 : (0 : Int) ≤ (k : Int) := by omega
          have i2 : (k : Int) < 7 := by omega
          clear ha1 ha2 hb1 hb2 hca hcb hbb hput hfc hx hy hv
          go_wp2
          go_region_with (go_at_fn g; with_reducible refine Calls.mono (HFC.out _) ?_; rintro e' w' ⟨rfl, rfl⟩)
          all_goals go_wp2
          all_goals go_roundw
          all_goals first | exact ⟨k + 1, by omega, by go_num, Lib.hid (HX.out 1), Lib.hid (HXB.out 1)⟩ | (simp [intOf]; omega)
        · have hk7 : k = 7 := by omega
          subst hk7
          have ho := HO.out
          rw [partL_all] at ho
          obtain ⟨c0, c1, c2, c3, c4, c5, c6, hc⟩ := seven (combL_len F LA LB)
          rw [hc] at ho
          have HCM := Lib.hid hc
          obtain ⟨n0, n1, n2, n3, n4, n5, n6, -⟩ := seven_cells ho
          obtain ⟨x0, x1, x2, x3, x4, x5, x6, y0, y1, y2, y3, y4, y5, y6⟩ := seven_cells (HRr.out.below (below_to HB2.out HBW.out) (by omega))
          have hsz3 := HBW.out.size
          clear hc ho HO
          go_wp2
          have hfin : Row (((((((wr.setCell ⟨w.heap.size + 1 + 1, 0, none⟩ (.int .i64 c0)).setCell ⟨w.heap.size + 1 + 1, 1, none⟩ (.int .i64 c1)).setCell ⟨w.heap.size + 1 + 1, 2, none⟩ (.int .i64 c2)).setCell ⟨w.heap.size + 1 + 1, 3, none⟩ (.int .i64 c3)).setCell ⟨w.heap.size + 1 + 1, 4, none⟩ (.int .i64 c4)).setCell ⟨w.heap.size + 1 + 1, 5, none⟩ (.int .i64 c5)).setCell ⟨w.heap.size + 1 + 1, 6, none⟩ (.int .i64 c6)) (w.heap.size + 1 + 1) 23 (ints [c0, c1, c2, c3, c4, c5, c6]) := by
            exact (((((((HRr.out.below (below_to HB2.out HBW.out) (by omega)).put 0 (.int .i64 c0)).put 1 (.int .i64 c1)).put 2 (.int .i64 c2)).put 3 (.int .i64 c3)).put 4 (.int .i64 c4)).put 5 (.int .i64 c5)).put 6 (.int .i64 c6)
          refine bodyPost_ret (results_wt rfl _ _ (w.heap.size + 1 + 1) [c0, c1, c2, c3, c4, c5, c6] rfl hfin rfl) rfl ⟨by rw [HCM.out]; rfl, ?_⟩
          exact (HB0.out.trans ((below_to HB2.out HBW.out).mono (by omega))).trans (((((((((Below.refl w.heap.size wr).setCell (by dsimp only; omega) _).setCell (by dsimp only; omega) _).setCell (by dsimp only; omega) _).setCell (by dsimp only; omega) _).setCell (by dsimp only; omega) _).setCell (by dsimp only; omega) _).setCell (by dsimp only; omega) _))
end Go.Proofs.YtmfpaankkoaoaaaDoor
