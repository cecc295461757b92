/- addTo. -/
import Derived.Test.YtmfpaankkoaoaaaDoorUs
namespace Go.Proofs.YtmfpaankkoaoaaaDoor
open Go.RowKit Go.Shelf

/-- The week with the hours of the group on those of its days that are before day n. -/
def addL (days hours : Nat) (l : List Int) (n : Nat) : List Int := (List.range 7).map fun k => if k < n ∧ days.testBit k = true then (hours : Int) else l[k]?.getD 0
theorem addL_len (days hours : Nat) (l : List Int) (n : Nat) : (addL days hours l n).length = 7 := by simp [addL]
theorem addL_zero (days hours : Nat) (l : List Int) (h7 : l.length = 7) : addL days hours l 0 = l := by
  obtain ⟨a, b, c, d, e, f, g, rfl⟩ := seven h7
  simp [addL, List.range, List.range.loop]
theorem addL_put (days hours : Nat) (l : List Int) (n : Nat) (hn : n < 7) (hb : days.testBit n = true) : (ints (addL days hours l n)).setIfInBounds n (.int .i64 (hours : Int)) = ints (addL days hours l (n + 1)) := by
  apply Array.ext_getElem?
  intro k
  rw [Array.getElem?_setIfInBounds, ints_get, ints_get]
  by_cases hk : n = k
  · subst hk
    rw [if_pos rfl]
    simp [ints, addL, hn, hb]
  · rw [if_neg hk]
    by_cases h7 : k < 7
    · simp only [addL, List.getElem?_map, List.getElem?_range h7, Option.map_some]
      by_cases h1 : k < n
      · simp [h1, show k < n + 1 by omega]
      · simp [h1, show ¬ k < n + 1 by omega]
    · rw [List.getElem?_eq_none (by rw [addL_len]; omega), List.getElem?_eq_none (by rw [addL_len]; omega)]
theorem addL_skip (days hours : Nat) (l : List Int) (n : Nat) (hb : days.testBit n = false) : addL days hours l (n + 1) = addL days hours l n := by
  refine List.map_congr_left fun k _ => ?_
  by_cases hk : k = n
  · subst hk; simp [hb]
  · by_cases h1 : k < n
    · simp [h1, show k < n + 1 by omega]
    · simp [h1, show ¬ k < n + 1 by omega]
set_option maxRecDepth 100000 in
set_option maxHeartbeats 4000000 in
theorem addTo_any (days hours : Nat) (hd : days ≤ 16777215) (l : List Int) (h7 : l.length = 7) (w : World) : Calls Tryd.prog 51 #[.agg #[.int .i64 (days : Int), .int .i64 (hours : Int)], wv l] w fun e w' => e = .returned (wv (addL days hours l 7)) ∧ Below w.heap.size w w' := by
  have HHAS := Lib.hid (fun k (hk : k < 7) u => has_any days k hd (show k < 63 by omega) u)
  have HZ := Lib.hid (addL_zero days hours l h7)
  obtain ⟨L, hL⟩ : ∃ L, l = L := ⟨_, rfl⟩
  obtain ⟨a1, a2, a3, a4, a5, a6, a7, rfl⟩ := seven h7
  have HL := Lib.hid hL
  rw [hL] at HZ ⊢
  rw [show wv L = .agg #[.int .i64 a1, .int .i64 a2, .int .i64 a3, .int .i64 a4, .int .i64 a5, .int .i64 a6, .int .i64 a7] by rw [← hL]; rfl]
  have hia : ints L = #[.int .i64 a1, .int .i64 a2, .int .i64 a3, .int .i64 a4, .int .i64 a5, .int .i64 a6, .int .i64 a7] := by rw [← hL]; rfl
  have HIA := Lib.hid hia
  clear hL h7 hia
  obtain ⟨W0, hW0⟩ : ∃ W0, ((w.alloc (.cells #[.int .i64 (days : Int), .int .i64 (hours : Int)] 63)).alloc (.cells #[.int .i64 a1, .int .i64 a2, .int .i64 a3, .int .i64 a4, .int .i64 a5, .int .i64 a6, .int .i64 a7] 23)).alloc (.cells #[.int .i64 0, .int .i64 0, .int .i64 0, .int .i64 0, .int .i64 0, .int .i64 0, .int .i64 0] 23) = W0 := ⟨_, rfl⟩
  have hs0 : W0.heap.size = w.heap.size + 1 + 1 + 1 := by rw [← hW0]; simp
  have hB0 : Below w.heap.size w W0 := by rw [← hW0]; exact (((Below.refl _ _).alloc (Nat.le_refl _) _).alloc (by simp) _).alloc (by simp; omega) _
  have hG : Row W0 w.heap.size 63 #[.int .i64 (days : Int), .int .i64 (hours : Int)] := by rw [← hW0]; exact ((Row.new w _ _).alloc _).alloc _
  have hA : Row W0 (w.heap.size + 1) 23 (ints (addL days hours L 0)) := by
    rw [HZ.out, HIA.out, ← hW0]
    have := (Row.new (w.alloc (.cells #[.int .i64 (days : Int), .int .i64 (hours : Int)] 63)) 23 #[.int .i64 a1, .int .i64 a2, .int .i64 a3, .int .i64 a4, .int .i64 a5, .int .i64 a6, .int .i64 a7]).alloc (.cells #[.int .i64 0, .int .i64 0, .int .i64 0, .int .i64 0, .int .i64 0, .int .i64 0, .int .i64 0] 23)
    simpa using this
  have hRr : Row W0 (w.heap.size + 1 + 1) 23 (ints zeroW) := by
    rw [← hW0]
    have := Row.new ((w.alloc (.cells #[.int .i64 (days : Int), .int .i64 (hours : Int)] 63)).alloc (.cells #[.int .i64 a1, .int .i64 a2, .int .i64 a3, .int .i64 a4, .int .i64 a5, .int .i64 a6, .int .i64 a7] 23)) 23 (ints zeroW)
    simp only [World.size_alloc] at this
    exact this
  have HW0 := Lib.hid hW0; have HG := Lib.hid hG; have HA := Lib.hid hA; have HRr := Lib.hid hRr; have HB0 := Lib.hid hB0
  clear hW0 hG hA hRr hB0
  go_enter Tryd.func51, Tryd.ntmps51
  go_upto_region 1 with (fail)
  rw [HW0.out]
  clear HW0
  go_wp2
  go_loopw [5, 6] (fun _ i wr => ∃ k : Nat, k ≤ 7 ∧ i = .int .i64 (k : Int) ∧ Hid (Row wr w.heap.size 63 #[.int .i64 (days : Int), .int .i64 (hours : Int)]) ∧ Hid (Row wr (w.heap.size + 1) 23 (ints (addL days hours L k))) ∧ Hid (Row wr (w.heap.size + 1 + 1) 23 (ints zeroW)) ∧ Hid (Below w.heap.size w wr)) (fun _ i _ => 7 - (intOf i).toNat)
  case atStart => exact ⟨0, by omega, rfl, HG, HA, HRr, HB0⟩
  case round =>
    obtain ⟨k, hk, rfl, HGW, HAW, HRW, HBW⟩ := hrel
    have i1 : (0 : Int) ≤ (k : Int) := by omega
    have hgl := HGW.out.lt
    have hal := HAW.out.lt
    have hrl := HRW.out.lt
    by_cases hlt : k < 7
    · have i2 : (k : Int) < 7 := by omega
      have HH := Lib.hid (fun u => HHAS.out k hlt u)
      have s0 : wr.cell? ⟨w.heap.size, 0, none⟩ = some (.int .i64 (days : Int)) := HGW.out.cell 0
      have s1 : wr.cell? ⟨w.heap.size, 1, none⟩ = some (.int .i64 (hours : Int)) := HGW.out.cell 1
      have s2 := HAW.out.free k
      obtain ⟨o1, hs3⟩ : ∃ o, wr.cell? ⟨w.heap.size + 1, k, none⟩ = some (.int .i64 o) := by
        have hc := HAW.out.cell k
        rw [ints_get, List.getElem?_eq_getElem (show k < (addL days hours L k).length by rw [addL_len]; exact hlt)] at hc
        exact ⟨_, hc⟩
      cases hq : days.testBit k with
      | true =>
        rw [hq] at HH
        have HX := Lib.hid (show Row (wr.setCell ⟨w.heap.size + 1, k, none⟩ (.int .i64 (hours : Int))) (w.heap.size + 1) 23 (ints (addL days hours L (k + 1))) by
          have := HAW.out.put k (.int .i64 (hours : Int))
          rw [addL_put days hours L k hlt hq] at this
          exact this)
        have HXG := Lib.hid (show Row (wr.setCell ⟨w.heap.size + 1, k, none⟩ (.int .i64 (hours : Int))) w.heap.size 63 #[.int .i64 (days : Int), .int .i64 (hours : Int)] from HGW.out.far (by dsimp only; omega) _)
        have HXR := Lib.hid (show Row (wr.setCell ⟨w.heap.size + 1, k, none⟩ (.int .i64 (hours : Int))) (w.heap.size + 1 + 1) 23 (ints zeroW) from HRW.out.far (by dsimp only; omega) _)
        have HXB := Lib.hid (show Below w.heap.size w (wr.setCell ⟨w.heap.size + 1, k, none⟩ (.int .i64 (hours : Int))) from HBW.out.setCell (by dsimp only; omega) _)
        clear hq
        go_wp2_with (go_at_call 33; ((with_reducible refine Calls.mono (HH.out _) ?_); rintro e' w1 ⟨rfl, rfl⟩))
        go_roundw
        case rel => exact ⟨k + 1, by omega, by go_num, HXG, HX, HXR, HXB⟩
        case measure => simp [intOf]; omega
      | false =>
        rw [hq] at HH
        have HS := Lib.hid (addL_skip days hours L k hq)
        clear hq
        go_wp2_with (go_at_call 33; ((with_reducible refine Calls.mono (HH.out _) ?_); rintro e' w1 ⟨rfl, rfl⟩))
        go_roundw
        case rel => exact ⟨k + 1, by omega, by go_num, HGW, Lib.hid (by rw [HS.out]; exact HAW.out), HRW, HBW⟩
        case measure => simp [intOf]; omega
    · obtain rfl : k = 7 := by omega
      obtain ⟨c1, c2, c3, c4, c5, c6, c7, hc⟩ := seven (addL_len days hours L 7)
      have ha := HAW.out
      rw [hc] at ha
      have HC := Lib.hid hc
      obtain ⟨n0, n1, n2, n3, n4, n5, n6, -⟩ := seven_cells ha
      obtain ⟨x0, x1, x2, x3, x4, x5, x6, y0, y1, y2, y3, y4, y5, y6⟩ := seven_cells (show Row wr (w.heap.size + 1 + 1) 23 (ints [0, 0, 0, 0, 0, 0, 0]) from HRW.out)
      clear ha hc
      go_wp2
      have hfin : Row (((((((wr.setCell ⟨w.heap.size + 1 + 1, 0, none⟩ (.int .i64 c1)).setCell ⟨w.heap.size + 1 + 1, 1, none⟩ (.int .i64 c2)).setCell ⟨w.heap.size + 1 + 1, 2, none⟩ (.int .i64 c3)).setCell ⟨w.heap.size + 1 + 1, 3, none⟩ (.int .i64 c4)).setCell ⟨w.heap.size + 1 + 1, 4, none⟩ (.int .i64 c5)).setCell ⟨w.heap.size + 1 + 1, 5, none⟩ (.int .i64 c6)).setCell ⟨w.heap.size + 1 + 1, 6, none⟩ (.int .i64 c7)) (w.heap.size + 1 + 1) 23 (ints [c1, c2, c3, c4, c5, c6, c7]) := by
        exact (((((((HRW.out).put 0 (.int .i64 c1)).put 1 (.int .i64 c2)).put 2 (.int .i64 c3)).put 3 (.int .i64 c4)).put 4 (.int .i64 c5)).put 5 (.int .i64 c6)).put 6 (.int .i64 c7)
      refine bodyPost_ret (results_cell_row rfl _ _ (w.heap.size + 1 + 1) 23 (ints [c1, c2, c3, c4, c5, c6, c7]) (0, 0) _ rfl hfin Tryd.underlying23 rfl (by kernel_rfl)) rfl ⟨by rw [HC.out]; rfl, ?_⟩
      exact HBW.out.trans (((((((((Below.refl w.heap.size wr).setCell (by dsimp only; omega) _).setCell (by dsimp only; omega) _).setCell (by dsimp only; omega) _).setCell (by dsimp only; omega) _).setCell (by dsimp only; omega) _).setCell (by dsimp only; omega) _).setCell (by dsimp only; omega) _).mono (by omega))
end Go.Proofs.YtmfpaankkoaoaaaDoor
