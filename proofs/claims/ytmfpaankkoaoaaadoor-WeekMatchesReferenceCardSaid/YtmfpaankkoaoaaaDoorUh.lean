/- Contracts of And, Or and Not. -/
import Derived.Test.YtmfpaankkoaoaaaDoorUg
namespace Go.Proofs.YtmfpaankkoaoaaaDoor
open Go.RowKit

set_option maxRecDepth 100000 in
set_option maxHeartbeats 4000000 in
theorem And_any (la lb : List Int) (ha : la.length = 7) (hb : lb.length = 7) (w : World) :
    Calls Tryd.prog 19 #[wv la, wv lb] w fun e w' => e = .returned (.tuple #[wv (combM (fun x y => x &&& y) la lb).1, .int .i64 (combM (fun x y => x &&& y) la lb).2]) ∧ Below w.heap.size w w' := by
  have HC := Lib.hid (fun u => combine_any 37 (fun x y => x &&& y) (fun _ _ => rfl) (fun x y hx hy u => and_c x y hx hy u) la lb ha hb u)
  obtain ⟨c1, c2, c3, c4, c5, c6, c7, hc⟩ := seven (combM_len (fun x y => x &&& y) la lb)
  obtain ⟨er, her⟩ : ∃ er, (combM (fun x y => x &&& y) la lb).2 = er := ⟨_, rfl⟩
  rw [hc, her] at HC ⊢
  have hwc : wv [c1, c2, c3, c4, c5, c6, c7] = .agg #[.int .i64 c1, .int .i64 c2, .int .i64 c3, .int .i64 c4, .int .i64 c5, .int .i64 c6, .int .i64 c7] := rfl
  rw [hwc] at HC ⊢
  obtain ⟨a1, a2, a3, a4, a5, a6, a7, rfl⟩ := seven ha
  obtain ⟨b1, b2, b3, b4, b5, b6, b7, rfl⟩ := seven hb
  rw [show wv [a1, a2, a3, a4, a5, a6, a7] = .agg #[.int .i64 a1, .int .i64 a2, .int .i64 a3, .int .i64 a4, .int .i64 a5, .int .i64 a6, .int .i64 a7] from rfl, show wv [b1, b2, b3, b4, b5, b6, b7] = .agg #[.int .i64 b1, .int .i64 b2, .int .i64 b3, .int .i64 b4, .int .i64 b5, .int .i64 b6, .int .i64 b7] from rfl] at HC ⊢
  clear hwc hc her ha hb
  obtain ⟨W0, hW0⟩ : ∃ W0, ((w.alloc (.cells #[.int .i64 a1, .int .i64 a2, .int .i64 a3, .int .i64 a4, .int .i64 a5, .int .i64 a6, .int .i64 a7] 23)).alloc (.cells #[.int .i64 b1, .int .i64 b2, .int .i64 b3, .int .i64 b4, .int .i64 b5, .int .i64 b6, .int .i64 b7] 23)).alloc (.cells #[.int .i64 0, .int .i64 0, .int .i64 0, .int .i64 0, .int .i64 0, .int .i64 0, .int .i64 0] 23) = W0 := ⟨_, rfl⟩
  have hs0 : W0.heap.size = w.heap.size + 1 + 1 + 1 := by rw [← hW0]; simp
  have hB0 : Below w.heap.size w W0 := by rw [← hW0]; exact (((Below.refl _ _).alloc (Nat.le_refl _) _).alloc (by simp) _).alloc (by simp; omega) _
  have hA : Row W0 w.heap.size 23 #[.int .i64 a1, .int .i64 a2, .int .i64 a3, .int .i64 a4, .int .i64 a5, .int .i64 a6, .int .i64 a7] := by rw [← hW0]; exact ((Row.new w _ _).alloc _).alloc _
  have hBr : Row W0 (w.heap.size + 1) 23 #[.int .i64 b1, .int .i64 b2, .int .i64 b3, .int .i64 b4, .int .i64 b5, .int .i64 b6, .int .i64 b7] := by
    rw [← hW0]
    have := (Row.new (w.alloc (.cells #[.int .i64 a1, .int .i64 a2, .int .i64 a3, .int .i64 a4, .int .i64 a5, .int .i64 a6, .int .i64 a7] 23)) 23 #[.int .i64 b1, .int .i64 b2, .int .i64 b3, .int .i64 b4, .int .i64 b5, .int .i64 b6, .int .i64 b7]).alloc (.cells #[.int .i64 0, .int .i64 0, .int .i64 0, .int .i64 0, .int .i64 0, .int .i64 0, .int .i64 0] 23)
    simpa using this
  have hRr : Row W0 (w.heap.size + 1 + 1) 23 (ints zeroW) := by
    rw [← hW0]
    have := Row.new ((w.alloc (.cells #[.int .i64 a1, .int .i64 a2, .int .i64 a3, .int .i64 a4, .int .i64 a5, .int .i64 a6, .int .i64 a7] 23)).alloc (.cells #[.int .i64 b1, .int .i64 b2, .int .i64 b3, .int .i64 b4, .int .i64 b5, .int .i64 b6, .int .i64 b7] 23)) 23 (ints zeroW)
    simp only [World.size_alloc] at this
    exact this
  have HW0 := Lib.hid hW0; have HRr := Lib.hid hRr; have HB0 := Lib.hid hB0
  obtain ⟨p1, p2, p3, p4, p5, p6, p7, -⟩ := seven_cells (show Row W0 w.heap.size 23 (ints [a1, a2, a3, a4, a5, a6, a7]) from hA)
  obtain ⟨q1, q2, q3, q4, q5, q6, q7, -⟩ := seven_cells (show Row W0 (w.heap.size + 1) 23 (ints [b1, b2, b3, b4, b5, b6, b7]) from hBr)
  clear hW0 hA hBr hRr hB0
  go_enter Tryd.func19, Tryd.ntmps19
  go_upto_region 1 with (fail)
  rw [HW0.out]
  clear HW0
  go_wp2_with (go_at_call 36; with_reducible refine Calls.mono (HC.out _) ?_; rintro e' w1 ⟨rfl, hb1⟩; have HB1 := Lib.hid hb1; obtain ⟨z0, z1, z2, z3, z4, z5, z6, y0, y1, y2, y3, y4, y5, y6⟩ := seven_cells (HRr.out.below hb1 (by omega)); have hsz := hb1.size; clear hb1)
  have hfin : Row (((((((w1.setCell ⟨w.heap.size + 1 + 1, 0, none⟩ (.int .i64 c1)).setCell ⟨w.heap.size + 1 + 1, 1, none⟩ (.int .i64 c2)).setCell ⟨w.heap.size + 1 + 1, 2, none⟩ (.int .i64 c3)).setCell ⟨w.heap.size + 1 + 1, 3, none⟩ (.int .i64 c4)).setCell ⟨w.heap.size + 1 + 1, 4, none⟩ (.int .i64 c5)).setCell ⟨w.heap.size + 1 + 1, 5, none⟩ (.int .i64 c6)).setCell ⟨w.heap.size + 1 + 1, 6, none⟩ (.int .i64 c7)) (w.heap.size + 1 + 1) 23 (ints [c1, c2, c3, c4, c5, c6, c7]) := by
    exact (((((((HRr.out.below HB1.out (by omega)).put 0 (.int .i64 c1)).put 1 (.int .i64 c2)).put 2 (.int .i64 c3)).put 3 (.int .i64 c4)).put 4 (.int .i64 c5)).put 5 (.int .i64 c6)).put 6 (.int .i64 c7)
  refine bodyPost_ret (results_wt rfl _ _ (w.heap.size + 1 + 1) [c1, c2, c3, c4, c5, c6, c7] rfl hfin rfl) rfl ⟨rfl, ?_⟩
  exact (HB0.out.trans (HB1.out.mono (by omega))).trans ((((((((Below.refl w.heap.size w1).setCell (by dsimp only; omega) _).setCell (by dsimp only; omega) _).setCell (by dsimp only; omega) _).setCell (by dsimp only; omega) _).setCell (by dsimp only; omega) _).setCell (by dsimp only; omega) _).setCell (by dsimp only; omega) _)
set_option maxRecDepth 100000 in
set_option maxHeartbeats 4000000 in
theorem Or_any (la lb : List Int) (ha : la.length = 7) (hb : lb.length = 7) (w : World) :
    Calls Tryd.prog 21 #[wv la, wv lb] w fun e w' => e = .returned (.tuple #[wv (combM (fun x y => x ||| y) la lb).1, .int .i64 (combM (fun x y => x ||| y) la lb).2]) ∧ Below w.heap.size w w' := by
  have HC := Lib.hid (fun u => combine_any 38 (fun x y => x ||| y) (fun _ _ => rfl) (fun x y hx hy u => or_c x y hx hy u) la lb ha hb u)
  obtain ⟨c1, c2, c3, c4, c5, c6, c7, hc⟩ := seven (combM_len (fun x y => x ||| y) la lb)
  obtain ⟨er, her⟩ : ∃ er, (combM (fun x y => x ||| y) la lb).2 = er := ⟨_, rfl⟩
  rw [hc, her] at HC ⊢
  have hwc : wv [c1, c2, c3, c4, c5, c6, c7] = .agg #[.int .i64 c1, .int .i64 c2, .int .i64 c3, .int .i64 c4, .int .i64 c5, .int .i64 c6, .int .i64 c7] := rfl
  rw [hwc] at HC ⊢
  obtain ⟨a1, a2, a3, a4, a5, a6, a7, rfl⟩ := seven ha
  obtain ⟨b1, b2, b3, b4, b5, b6, b7, rfl⟩ := seven hb
  rw [show wv [a1, a2, a3, a4, a5, a6, a7] = .agg #[.int .i64 a1, .int .i64 a2, .int .i64 a3, .int .i64 a4, .int .i64 a5, .int .i64 a6, .int .i64 a7] from rfl, show wv [b1, b2, b3, b4, b5, b6, b7] = .agg #[.int .i64 b1, .int .i64 b2, .int .i64 b3, .int .i64 b4, .int .i64 b5, .int .i64 b6, .int .i64 b7] from rfl] at HC ⊢
  clear hwc hc her ha hb
  obtain ⟨W0, hW0⟩ : ∃ W0, ((w.alloc (.cells #[.int .i64 a1, .int .i64 a2, .int .i64 a3, .int .i64 a4, .int .i64 a5, .int .i64 a6, .int .i64 a7] 23)).alloc (.cells #[.int .i64 b1, .int .i64 b2, .int .i64 b3, .int .i64 b4, .int .i64 b5, .int .i64 b6, .int .i64 b7] 23)).alloc (.cells #[.int .i64 0, .int .i64 0, .int .i64 0, .int .i64 0, .int .i64 0, .int .i64 0, .int .i64 0] 23) = W0 := ⟨_, rfl⟩
  have hs0 : W0.heap.size = w.heap.size + 1 + 1 + 1 := by rw [← hW0]; simp
  have hB0 : Below w.heap.size w W0 := by rw [← hW0]; exact (((Below.refl _ _).alloc (Nat.le_refl _) _).alloc (by simp) _).alloc (by simp; omega) _
  have hA : Row W0 w.heap.size 23 #[.int .i64 a1, .int .i64 a2, .int .i64 a3, .int .i64 a4, .int .i64 a5, .int .i64 a6, .int .i64 a7] := by rw [← hW0]; exact ((Row.new w _ _).alloc _).alloc _
  have hBr : Row W0 (w.heap.size + 1) 23 #[.int .i64 b1, .int .i64 b2, .int .i64 b3, .int .i64 b4, .int .i64 b5, .int .i64 b6, .int .i64 b7] := by
    rw [← hW0]
    have := (Row.new (w.alloc (.cells #[.int .i64 a1, .int .i64 a2, .int .i64 a3, .int .i64 a4, .int .i64 a5, .int .i64 a6, .int .i64 a7] 23)) 23 #[.int .i64 b1, .int .i64 b2, .int .i64 b3, .int .i64 b4, .int .i64 b5, .int .i64 b6, .int .i64 b7]).alloc (.cells #[.int .i64 0, .int .i64 0, .int .i64 0, .int .i64 0, .int .i64 0, .int .i64 0, .int .i64 0] 23)
    simpa using this
  have hRr : Row W0 (w.heap.size + 1 + 1) 23 (ints zeroW) := by
    rw [← hW0]
    have := Row.new ((w.alloc (.cells #[.int .i64 a1, .int .i64 a2, .int .i64 a3, .int .i64 a4, .int .i64 a5, .int .i64 a6, .int .i64 a7] 23)).alloc (.cells #[.int .i64 b1, .int .i64 b2, .int .i64 b3, .int .i64 b4, .int .i64 b5, .int .i64 b6, .int .i64 b7] 23)) 23 (ints zeroW)
    simp only [World.size_alloc] at this
    exact this
  have HW0 := Lib.hid hW0; have HRr := Lib.hid hRr; have HB0 := Lib.hid hB0
  obtain ⟨p1, p2, p3, p4, p5, p6, p7, -⟩ := seven_cells (show Row W0 w.heap.size 23 (ints [a1, a2, a3, a4, a5, a6, a7]) from hA)
  obtain ⟨q1, q2, q3, q4, q5, q6, q7, -⟩ := seven_cells (show Row W0 (w.heap.size + 1) 23 (ints [b1, b2, b3, b4, b5, b6, b7]) from hBr)
  clear hW0 hA hBr hRr hB0
  go_enter Tryd.func21, Tryd.ntmps21
  go_upto_region 1 with (fail)
  rw [HW0.out]
  clear HW0
  go_wp2_with (go_at_call 36; with_reducible refine Calls.mono (HC.out _) ?_; rintro e' w1 ⟨rfl, hb1⟩; have HB1 := Lib.hid hb1; obtain ⟨z0, z1, z2, z3, z4, z5, z6, y0, y1, y2, y3, y4, y5, y6⟩ := seven_cells (HRr.out.below hb1 (by omega)); have hsz := hb1.size; clear hb1)
  have hfin : Row (((((((w1.setCell ⟨w.heap.size + 1 + 1, 0, none⟩ (.int .i64 c1)).setCell ⟨w.heap.size + 1 + 1, 1, none⟩ (.int .i64 c2)).setCell ⟨w.heap.size + 1 + 1, 2, none⟩ (.int .i64 c3)).setCell ⟨w.heap.size + 1 + 1, 3, none⟩ (.int .i64 c4)).setCell ⟨w.heap.size + 1 + 1, 4, none⟩ (.int .i64 c5)).setCell ⟨w.heap.size + 1 + 1, 5, none⟩ (.int .i64 c6)).setCell ⟨w.heap.size + 1 + 1, 6, none⟩ (.int .i64 c7)) (w.heap.size + 1 + 1) 23 (ints [c1, c2, c3, c4, c5, c6, c7]) := by
    exact (((((((HRr.out.below HB1.out (by omega)).put 0 (.int .i64 c1)).put 1 (.int .i64 c2)).put 2 (.int .i64 c3)).put 3 (.int .i64 c4)).put 4 (.int .i64 c5)).put 5 (.int .i64 c6)).put 6 (.int .i64 c7)
  refine bodyPost_ret (results_wt rfl _ _ (w.heap.size + 1 + 1) [c1, c2, c3, c4, c5, c6, c7] rfl hfin rfl) rfl ⟨rfl, ?_⟩
  exact (HB0.out.trans (HB1.out.mono (by omega))).trans ((((((((Below.refl w.heap.size w1).setCell (by dsimp only; omega) _).setCell (by dsimp only; omega) _).setCell (by dsimp only; omega) _).setCell (by dsimp only; omega) _).setCell (by dsimp only; omega) _).setCell (by dsimp only; omega) _).setCell (by dsimp only; omega) _)
theorem not_c' (x y : Nat) (hx : x ≤ 16777215) (_ : y ≤ 16777215) (u : World) : Calls Tryd.prog 39 #[.int .i64 (x : Int), .int .i64 (y : Int)] u fun e w' => e = .returned (.int .i64 ((16777215 - x : Nat) : Int)) ∧ u = w' := by
  have h := not_c x (y : Int) hx u
  rwa [show (16777215 : Int) - (x : Int) = ((16777215 - x : Nat) : Int) by omega] at h
set_option maxRecDepth 100000 in
set_option maxHeartbeats 4000000 in
theorem Not_any (la : List Int) (ha : la.length = 7) (w : World) :
    Calls Tryd.prog 23 #[wv la] w fun e w' => e = .returned (.tuple #[wv (combM (fun x _ => 16777215 - x) la la).1, .int .i64 (combM (fun x _ => 16777215 - x) la la).2]) ∧ Below w.heap.size w w' := by
  have HC := Lib.hid (fun u => combine_any 39 (fun x _ => 16777215 - x) (fun _ _ => rfl) not_c' la la ha ha u)
  obtain ⟨c1, c2, c3, c4, c5, c6, c7, hc⟩ := seven (combM_len (fun x _ => 16777215 - x) la la)
  obtain ⟨er, her⟩ : ∃ er, (combM (fun x _ => 16777215 - x) la la).2 = er := ⟨_, rfl⟩
  rw [hc, her] at HC ⊢
  have hwc : wv [c1, c2, c3, c4, c5, c6, c7] = .agg #[.int .i64 c1, .int .i64 c2, .int .i64 c3, .int .i64 c4, .int .i64 c5, .int .i64 c6, .int .i64 c7] := rfl
  rw [hwc] at HC ⊢
  obtain ⟨a1, a2, a3, a4, a5, a6, a7, rfl⟩ := seven ha
  rw [show wv [a1, a2, a3, a4, a5, a6, a7] = .agg #[.int .i64 a1, .int .i64 a2, .int .i64 a3, .int .i64 a4, .int .i64 a5, .int .i64 a6, .int .i64 a7] from rfl] at HC ⊢
  clear hwc hc her ha
  obtain ⟨W0, hW0⟩ : ∃ W0, (w.alloc (.cells #[.int .i64 a1, .int .i64 a2, .int .i64 a3, .int .i64 a4, .int .i64 a5, .int .i64 a6, .int .i64 a7] 23)).alloc (.cells #[.int .i64 0, .int .i64 0, .int .i64 0, .int .i64 0, .int .i64 0, .int .i64 0, .int .i64 0] 23) = W0 := ⟨_, rfl⟩
  have hs0 : W0.heap.size = w.heap.size + 1 + 1 := by rw [← hW0]; simp
  have hB0 : Below w.heap.size w W0 := by rw [← hW0]; exact ((Below.refl _ _).alloc (Nat.le_refl _) _).alloc (by simp) _
  have hA : Row W0 w.heap.size 23 #[.int .i64 a1, .int .i64 a2, .int .i64 a3, .int .i64 a4, .int .i64 a5, .int .i64 a6, .int .i64 a7] := by rw [← hW0]; exact (Row.new w _ _).alloc _
  have hRr : Row W0 (w.heap.size + 1) 23 (ints zeroW) := by
    rw [← hW0]
    have := Row.new (w.alloc (.cells #[.int .i64 a1, .int .i64 a2, .int .i64 a3, .int .i64 a4, .int .i64 a5, .int .i64 a6, .int .i64 a7] 23)) 23 (ints zeroW)
    simp only [World.size_alloc] at this
    exact this
  have HW0 := Lib.hid hW0; have HRr := Lib.hid hRr; have HB0 := Lib.hid hB0
  obtain ⟨p1, p2, p3, p4, p5, p6, p7, -⟩ := seven_cells (show Row W0 w.heap.size 23 (ints [a1, a2, a3, a4, a5, a6, a7]) from hA)
  clear hW0 hA hRr hB0
  go_enter Tryd.func23, Tryd.ntmps23
  go_upto_region 1 with (fail)
  rw [HW0.out]
  clear HW0
  go_wp2_with (go_at_call 36; with_reducible refine Calls.mono (HC.out _) ?_; rintro e' w1 ⟨rfl, hb1⟩; have HB1 := Lib.hid hb1; obtain ⟨z0, z1, z2, z3, z4, z5, z6, y0, y1, y2, y3, y4, y5, y6⟩ := seven_cells (HRr.out.below hb1 (by omega)); have hsz := hb1.size; clear hb1)
  have hfin : Row (((((((w1.setCell ⟨w.heap.size + 1, 0, none⟩ (.int .i64 c1)).setCell ⟨w.heap.size + 1, 1, none⟩ (.int .i64 c2)).setCell ⟨w.heap.size + 1, 2, none⟩ (.int .i64 c3)).setCell ⟨w.heap.size + 1, 3, none⟩ (.int .i64 c4)).setCell ⟨w.heap.size + 1, 4, none⟩ (.int .i64 c5)).setCell ⟨w.heap.size + 1, 5, none⟩ (.int .i64 c6)).setCell ⟨w.heap.size + 1, 6, none⟩ (.int .i64 c7)) (w.heap.size + 1) 23 (ints [c1, c2, c3, c4, c5, c6, c7]) := by
    exact (((((((HRr.out.below HB1.out (by omega)).put 0 (.int .i64 c1)).put 1 (.int .i64 c2)).put 2 (.int .i64 c3)).put 3 (.int .i64 c4)).put 4 (.int .i64 c5)).put 5 (.int .i64 c6)).put 6 (.int .i64 c7)
  refine bodyPost_ret (results_wt rfl _ _ (w.heap.size + 1) [c1, c2, c3, c4, c5, c6, c7] rfl hfin rfl) rfl ⟨rfl, ?_⟩
  exact (HB0.out.trans (HB1.out.mono (by omega))).trans ((((((((Below.refl w.heap.size w1).setCell (by dsimp only; omega) _).setCell (by dsimp only; omega) _).setCell (by dsimp only; omega) _).setCell (by dsimp only; omega) _).setCell (by dsimp only; omega) _).setCell (by dsimp only; omega) _).setCell (by dsimp only; omega) _)
end Go.Proofs.YtmfpaankkoaoaaaDoor
