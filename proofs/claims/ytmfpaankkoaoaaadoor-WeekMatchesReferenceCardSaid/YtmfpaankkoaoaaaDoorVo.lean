/- Parse. -/
import Derived.Test.YtmfpaankkoaoaaaDoorVn
namespace Go.Proofs.YtmfpaankkoaoaaaDoor
open Go.RowKit Go.Shelf
attribute [local go_sem] Oper.semAt_some

/-- What Parse makes of the texts of groups, from a week, a count and a first day on. -/
def psStep : List ByteArray → List Int → Nat → Nat → List Int × Nat × Int
  | [], l, n, _ => (l, n, 0)
  | x :: xs, l, n, f => if grpDays x = 0 ∨ grpHours x = 0 ∨ Lib.ctz 64 (grpDays x) < f ∨ newG (grpDays x) (grpHours x) l = false then (zeroW, n, 60)
    else psStep xs (addL (grpDays x) (grpHours x) l 7) (n + 1) (Lib.ctz 64 (grpDays x))
theorem ps_bad {x : ByteArray} {xs : List ByteArray} {l : List Int} {n f : Nat} (h : grpDays x = 0 ∨ grpHours x = 0 ∨ Lib.ctz 64 (grpDays x) < f ∨ newG (grpDays x) (grpHours x) l = false) : psStep (x :: xs) l n f = (zeroW, n, 60) := by
  rw [psStep, if_pos h]
theorem ps_ok {x : ByteArray} {xs : List ByteArray} {l : List Int} {n f : Nat} (h : ¬ (grpDays x = 0 ∨ grpHours x = 0 ∨ Lib.ctz 64 (grpDays x) < f ∨ newG (grpDays x) (grpHours x) l = false)) : psStep (x :: xs) l n f = psStep xs (addL (grpDays x) (grpHours x) l 7) (n + 1) (Lib.ctz 64 (grpDays x)) := by
  rw [psStep, if_neg h]
/-- The week that a text says, the number of its groups, the error. -/
def parseV (s : ByteArray) : List Int × Nat × Int := if s = never then (zeroW, 0, 0) else psStep (ptl semi (s.size + 1) s) zeroW 0 0
theorem addL_valid {days hours : Nat} {l : List Int} (hh : hours ≤ 16777215) (h7 : l.length = 7) (hv : validW l = true) : validW (addL days hours l 7) = true := by
  unfold validW
  rw [List.all_eq_true]
  intro x hx
  unfold addL at hx
  obtain ⟨k, hk, rfl⟩ := List.mem_map.1 hx
  have hk7 := List.mem_range.1 hk
  split
  · exact (okH_iff _).2 ⟨by omega, by omega⟩
  · rw [List.getElem?_eq_getElem (show k < l.length by omega)]
    exact (okH_iff _).2 (validW_at hv (List.getElem?_eq_getElem (show k < l.length by omega)))
theorem ctz_le (x : Nat) (h : x ≤ 16777215) (h0 : x ≠ 0) : Lib.ctz 64 x ≤ 64 := by
  obtain ⟨m, hm⟩ := ctz_spec x h0 (by omega)
  rcases Nat.lt_or_ge (Lib.ctz 64 x) 64 with h | h
  · omega
  · exfalso
    have h1 : (2 : Nat) ^ 64 ≤ 2 ^ Lib.ctz 64 x := Nat.pow_le_pow_right (by decide) h
    have h2 : 2 ^ Lib.ctz 64 x ≤ x := by rw [hm]; exact (by rw [← hm] ; exact (by have := Nat.le_mul_of_pos_right (2 ^ Lib.ctz 64 x) (show 0 < 2 * m + 1 by omega); omega))
    omega
theorem results_wie {fn : Func} {p q r : Tmp} (h : fn.results = #[.cell p 23, .cell q 3, .cell r 37]) (tmps : Array Value) (w : World) (g k m : Nat) (l : List Int) (x e : Int) (hp : tmps.getD p undef = .pointer (some ⟨g, 0, none⟩)) (hq : tmps.getD q undef = .pointer (some ⟨k, 0, none⟩)) (hr : tmps.getD r undef = .pointer (some ⟨m, 0, none⟩))
    (hg : Row w g 23 (ints l)) (h7 : l.length = 7) (hk : Row w k 3 #[.int .i64 x]) (hm : Row w m 37 #[.int .i64 e]) :
    (results fn tmps).run Tryd.prog w = .ok (.tuple #[wv l, .int .i64 x, .int .i64 e]) w := by
  have hp' : tmps[p]?.getD undef = .pointer (some ⟨g, 0, none⟩) := by simpa using hp
  have hq' : tmps[q]?.getD undef = .pointer (some ⟨k, 0, none⟩) := by simpa using hq
  have hr' : tmps[r]?.getD undef = .pointer (some ⟨m, 0, none⟩) := by simpa using hr
  have e2 := hk.cell 0
  have e3 := hm.cell 0
  obtain ⟨x0, x1, x2, x3, x4, x5, x6, rfl⟩ := seven h7
  obtain ⟨y0, y1, y2, y3, y4, y5, y6, -⟩ := seven_cells hg
  simp [results, h, hp', hq', hr', asAddr, go_sem, y0, y1, y2, y3, y4, y5, y6, e2, e3, wv, ints]
/-- What Parse's loop keeps in memory. -/
structure QInv (w : World) (n0 : Nat) (l : List Int) (n f : Nat) (Y : World) : Prop where
  r0 : Row Y w.heap.size 23 (ints zeroW)
  r1 : Row Y (w.heap.size + 1) 3 #[.int .i64 0]
  r2 : Row Y (w.heap.size + 1 + 1) 37 #[.int .i64 0]
  rw : Row Y (w.heap.size + 1 + 1 + 1) 23 (ints l)
  rc : Row Y (w.heap.size + 1 + 1 + 1 + 1) 3 #[.int .i64 (n : Int)]
  rf : Row Y (w.heap.size + 1 + 1 + 1 + 1 + 1) 3 #[.int .i64 (f : Int)]
  b : Below w.heap.size w Y
  s : n0 ≤ Y.heap.size
theorem QInv.turn {w Y Z : World} {n0 B0 n f : Nat} {l : List Int} {row : Option Nat} (h : QInv w n0 l n f Y) (hg : Y.grownBy Z row) (hr : Turns B0 Y row) (hB : w.heap.size ≤ B0) : QInv w n0 l n f Z :=
  ⟨h.r0.turn hg hr, h.r1.turn hg hr, h.r2.turn hg hr, h.rw.turn hg hr, h.rc.turn hg hr, h.rf.turn hg hr, h.b.grown hg h.b.size (fun k e => Nat.le_trans hB (hr k e).1), Nat.le_trans h.s hg.size⟩
theorem QInv.below {w Y Z : World} {n0 n f : Nat} {l : List Int} (h : QInv w n0 l n f Y) (hb : Below Y.heap.size Y Z) : QInv w n0 l n f Z :=
  ⟨h.r0.below hb h.r0.lt, h.r1.below hb h.r1.lt, h.r2.below hb h.r2.lt, h.rw.below hb h.rw.lt, h.rc.below hb h.rc.lt, h.rf.below hb h.rf.lt, below_to h.b hb, Nat.le_trans h.s hb.size⟩
abbrev NoQ (w : World) (_ : World) (k : Nat) : Prop := w.heap.size ≤ k ∧ k < w.heap.size + 6
theorem Keeps.drew {no : Nat → Prop} {A B : World} (h : Keeps no A B) : Keeps no A B.drew := ⟨h.os, h.tape, h.output, h.size, h.block⟩
theorem parse_ret {w Y u : World} {n0 n f : Nat} {l : List Int} (h : QInv w n0 l n f Y) (hb : Below Y.heap.size Y u) :
    Keeps (NoQ w Y) Y (((((((((u.setCell ⟨w.heap.size, 0, none⟩ (.int .i64 0)).setCell ⟨w.heap.size, 1, none⟩ (.int .i64 0)).setCell ⟨w.heap.size, 2, none⟩ (.int .i64 0)).setCell ⟨w.heap.size, 3, none⟩ (.int .i64 0)).setCell ⟨w.heap.size, 4, none⟩ (.int .i64 0)).setCell ⟨w.heap.size, 5, none⟩ (.int .i64 0)).setCell ⟨w.heap.size, 6, none⟩ (.int .i64 0)).setCell ⟨w.heap.size + 1, 0, none⟩ (.int .i64 (n : Int))).setCell ⟨w.heap.size + 1 + 1, 0, none⟩ (.int .i64 60)) ∧
    Row (((((((((u.setCell ⟨w.heap.size, 0, none⟩ (.int .i64 0)).setCell ⟨w.heap.size, 1, none⟩ (.int .i64 0)).setCell ⟨w.heap.size, 2, none⟩ (.int .i64 0)).setCell ⟨w.heap.size, 3, none⟩ (.int .i64 0)).setCell ⟨w.heap.size, 4, none⟩ (.int .i64 0)).setCell ⟨w.heap.size, 5, none⟩ (.int .i64 0)).setCell ⟨w.heap.size, 6, none⟩ (.int .i64 0)).setCell ⟨w.heap.size + 1, 0, none⟩ (.int .i64 (n : Int))).setCell ⟨w.heap.size + 1 + 1, 0, none⟩ (.int .i64 60)) w.heap.size 23 (ints zeroW) ∧
    Row (((((((((u.setCell ⟨w.heap.size, 0, none⟩ (.int .i64 0)).setCell ⟨w.heap.size, 1, none⟩ (.int .i64 0)).setCell ⟨w.heap.size, 2, none⟩ (.int .i64 0)).setCell ⟨w.heap.size, 3, none⟩ (.int .i64 0)).setCell ⟨w.heap.size, 4, none⟩ (.int .i64 0)).setCell ⟨w.heap.size, 5, none⟩ (.int .i64 0)).setCell ⟨w.heap.size, 6, none⟩ (.int .i64 0)).setCell ⟨w.heap.size + 1, 0, none⟩ (.int .i64 (n : Int))).setCell ⟨w.heap.size + 1 + 1, 0, none⟩ (.int .i64 60)) (w.heap.size + 1) 3 #[.int .i64 (n : Int)] ∧
    Row (((((((((u.setCell ⟨w.heap.size, 0, none⟩ (.int .i64 0)).setCell ⟨w.heap.size, 1, none⟩ (.int .i64 0)).setCell ⟨w.heap.size, 2, none⟩ (.int .i64 0)).setCell ⟨w.heap.size, 3, none⟩ (.int .i64 0)).setCell ⟨w.heap.size, 4, none⟩ (.int .i64 0)).setCell ⟨w.heap.size, 5, none⟩ (.int .i64 0)).setCell ⟨w.heap.size, 6, none⟩ (.int .i64 0)).setCell ⟨w.heap.size + 1, 0, none⟩ (.int .i64 (n : Int))).setCell ⟨w.heap.size + 1 + 1, 0, none⟩ (.int .i64 60)) (w.heap.size + 1 + 1) 37 #[.int .i64 60] ∧
    Below w.heap.size w (((((((((u.setCell ⟨w.heap.size, 0, none⟩ (.int .i64 0)).setCell ⟨w.heap.size, 1, none⟩ (.int .i64 0)).setCell ⟨w.heap.size, 2, none⟩ (.int .i64 0)).setCell ⟨w.heap.size, 3, none⟩ (.int .i64 0)).setCell ⟨w.heap.size, 4, none⟩ (.int .i64 0)).setCell ⟨w.heap.size, 5, none⟩ (.int .i64 0)).setCell ⟨w.heap.size, 6, none⟩ (.int .i64 0)).setCell ⟨w.heap.size + 1, 0, none⟩ (.int .i64 (n : Int))).setCell ⟨w.heap.size + 1 + 1, 0, none⟩ (.int .i64 60)) ∧
    n0 ≤ (((((((((u.setCell ⟨w.heap.size, 0, none⟩ (.int .i64 0)).setCell ⟨w.heap.size, 1, none⟩ (.int .i64 0)).setCell ⟨w.heap.size, 2, none⟩ (.int .i64 0)).setCell ⟨w.heap.size, 3, none⟩ (.int .i64 0)).setCell ⟨w.heap.size, 4, none⟩ (.int .i64 0)).setCell ⟨w.heap.size, 5, none⟩ (.int .i64 0)).setCell ⟨w.heap.size, 6, none⟩ (.int .i64 0)).setCell ⟨w.heap.size + 1, 0, none⟩ (.int .i64 (n : Int))).setCell ⟨w.heap.size + 1 + 1, 0, none⟩ (.int .i64 60)).heap.size := by
  have hq := h.below hb
  have hrow := (((((((hq.r0).put 0 (.int .i64 0)).put 1 (.int .i64 0)).put 2 (.int .i64 0)).put 3 (.int .i64 0)).put 4 (.int .i64 0)).put 5 (.int .i64 0)).put 6 (.int .i64 0)
  have hk := ((((((((Keeps.refl (NoQ w Y) u)).trans (Keeps.setCell (p := ⟨w.heap.size, 0, none⟩) ⟨by dsimp only; omega, by dsimp only; omega⟩ (.int .i64 0))).trans (Keeps.setCell (p := ⟨w.heap.size, 1, none⟩) ⟨by dsimp only; omega, by dsimp only; omega⟩ (.int .i64 0))).trans (Keeps.setCell (p := ⟨w.heap.size, 2, none⟩) ⟨by dsimp only; omega, by dsimp only; omega⟩ (.int .i64 0))).trans (Keeps.setCell (p := ⟨w.heap.size, 3, none⟩) ⟨by dsimp only; omega, by dsimp only; omega⟩ (.int .i64 0))).trans (Keeps.setCell (p := ⟨w.heap.size, 4, none⟩) ⟨by dsimp only; omega, by dsimp only; omega⟩ (.int .i64 0))).trans (Keeps.setCell (p := ⟨w.heap.size, 5, none⟩) ⟨by dsimp only; omega, by dsimp only; omega⟩ (.int .i64 0))).trans (Keeps.setCell (p := ⟨w.heap.size, 6, none⟩) ⟨by dsimp only; omega, by dsimp only; omega⟩ (.int .i64 0))
  have hbb := (((((((hq.b).setCell (p := ⟨w.heap.size, 0, none⟩) (by dsimp only; omega) (.int .i64 0)).setCell (p := ⟨w.heap.size, 1, none⟩) (by dsimp only; omega) (.int .i64 0)).setCell (p := ⟨w.heap.size, 2, none⟩) (by dsimp only; omega) (.int .i64 0)).setCell (p := ⟨w.heap.size, 3, none⟩) (by dsimp only; omega) (.int .i64 0)).setCell (p := ⟨w.heap.size, 4, none⟩) (by dsimp only; omega) (.int .i64 0)).setCell (p := ⟨w.heap.size, 5, none⟩) (by dsimp only; omega) (.int .i64 0)).setCell (p := ⟨w.heap.size, 6, none⟩) (by dsimp only; omega) (.int .i64 0)
  have far1 := (((((((hq.r1).far (p := ⟨w.heap.size, 0, none⟩) (by dsimp only; omega) (.int .i64 0)).far (p := ⟨w.heap.size, 1, none⟩) (by dsimp only; omega) (.int .i64 0)).far (p := ⟨w.heap.size, 2, none⟩) (by dsimp only; omega) (.int .i64 0)).far (p := ⟨w.heap.size, 3, none⟩) (by dsimp only; omega) (.int .i64 0)).far (p := ⟨w.heap.size, 4, none⟩) (by dsimp only; omega) (.int .i64 0)).far (p := ⟨w.heap.size, 5, none⟩) (by dsimp only; omega) (.int .i64 0)).far (p := ⟨w.heap.size, 6, none⟩) (by dsimp only; omega) (.int .i64 0)
  have far2 := (((((((hq.r2).far (p := ⟨w.heap.size, 0, none⟩) (by dsimp only; omega) (.int .i64 0)).far (p := ⟨w.heap.size, 1, none⟩) (by dsimp only; omega) (.int .i64 0)).far (p := ⟨w.heap.size, 2, none⟩) (by dsimp only; omega) (.int .i64 0)).far (p := ⟨w.heap.size, 3, none⟩) (by dsimp only; omega) (.int .i64 0)).far (p := ⟨w.heap.size, 4, none⟩) (by dsimp only; omega) (.int .i64 0)).far (p := ⟨w.heap.size, 5, none⟩) (by dsimp only; omega) (.int .i64 0)).far (p := ⟨w.heap.size, 6, none⟩) (by dsimp only; omega) (.int .i64 0)
  refine ⟨((Keeps.of_below hb).trans hk).trans ((Keeps.setCell (p := ⟨w.heap.size + 1, 0, none⟩) ⟨by dsimp only; omega, by dsimp only; omega⟩ _).trans (Keeps.setCell (p := ⟨w.heap.size + 1 + 1, 0, none⟩) ⟨by dsimp only; omega, by dsimp only; omega⟩ _)), ?_, ?_, ?_, (hbb.setCell (p := ⟨w.heap.size + 1, 0, none⟩) (by dsimp only; omega) _).setCell (p := ⟨w.heap.size + 1 + 1, 0, none⟩) (by dsimp only; omega) _, by have := hq.s; simp [World.setCell]; omega⟩
  · exact (hrow.far (p := ⟨w.heap.size + 1, 0, none⟩) (by dsimp only; omega) _).far (p := ⟨w.heap.size + 1 + 1, 0, none⟩) (by dsimp only; omega) _
  · exact (far1.put 0 _).far (p := ⟨w.heap.size + 1 + 1, 0, none⟩) (by dsimp only; omega) _
  · exact (far2.far (p := ⟨w.heap.size + 1, 0, none⟩) (by dsimp only; omega) _).put 0 _
theorem QInv.drew {w Y : World} {n0 n f : Nat} {l : List Int} (h : QInv w n0 l n f Y) : QInv w n0 l n f Y.drew := ⟨h.r0, h.r1, h.r2, h.rw, h.rc, h.rf, h.b.drew, h.s⟩
set_option maxHeartbeats 4000000 in
theorem parse_add {w Y u : World} {n0 n f : Nat} {y0 y1 y2 y3 y4 y5 y6 : Int} (h : QInv w n0 [y0, y1, y2, y3, y4, y5, y6] n f Y) (hb : Below Y.heap.size Y u) (u0 u1 u2 u3 u4 u5 u6 : Int) :
    Keeps (NoQ w Y) Y (((((((u.setCell ⟨w.heap.size + 1 + 1 + 1, 0, none⟩ (.int .i64 u0)).setCell ⟨w.heap.size + 1 + 1 + 1, 1, none⟩ (.int .i64 u1)).setCell ⟨w.heap.size + 1 + 1 + 1, 2, none⟩ (.int .i64 u2)).setCell ⟨w.heap.size + 1 + 1 + 1, 3, none⟩ (.int .i64 u3)).setCell ⟨w.heap.size + 1 + 1 + 1, 4, none⟩ (.int .i64 u4)).setCell ⟨w.heap.size + 1 + 1 + 1, 5, none⟩ (.int .i64 u5)).setCell ⟨w.heap.size + 1 + 1 + 1, 6, none⟩ (.int .i64 u6)) ∧ QInv w n0 [u0, u1, u2, u3, u4, u5, u6] n f (((((((u.setCell ⟨w.heap.size + 1 + 1 + 1, 0, none⟩ (.int .i64 u0)).setCell ⟨w.heap.size + 1 + 1 + 1, 1, none⟩ (.int .i64 u1)).setCell ⟨w.heap.size + 1 + 1 + 1, 2, none⟩ (.int .i64 u2)).setCell ⟨w.heap.size + 1 + 1 + 1, 3, none⟩ (.int .i64 u3)).setCell ⟨w.heap.size + 1 + 1 + 1, 4, none⟩ (.int .i64 u4)).setCell ⟨w.heap.size + 1 + 1 + 1, 5, none⟩ (.int .i64 u5)).setCell ⟨w.heap.size + 1 + 1 + 1, 6, none⟩ (.int .i64 u6)) := by
  have hq := h.below hb
  exact ⟨((((((((Keeps.of_below hb).trans (Keeps.setCell (p := ⟨w.heap.size + 1 + 1 + 1, 0, none⟩) ⟨by dsimp only; omega, by dsimp only; omega⟩ (.int .i64 u0))).trans (Keeps.setCell (p := ⟨w.heap.size + 1 + 1 + 1, 1, none⟩) ⟨by dsimp only; omega, by dsimp only; omega⟩ (.int .i64 u1))).trans (Keeps.setCell (p := ⟨w.heap.size + 1 + 1 + 1, 2, none⟩) ⟨by dsimp only; omega, by dsimp only; omega⟩ (.int .i64 u2))).trans (Keeps.setCell (p := ⟨w.heap.size + 1 + 1 + 1, 3, none⟩) ⟨by dsimp only; omega, by dsimp only; omega⟩ (.int .i64 u3))).trans (Keeps.setCell (p := ⟨w.heap.size + 1 + 1 + 1, 4, none⟩) ⟨by dsimp only; omega, by dsimp only; omega⟩ (.int .i64 u4))).trans (Keeps.setCell (p := ⟨w.heap.size + 1 + 1 + 1, 5, none⟩) ⟨by dsimp only; omega, by dsimp only; omega⟩ (.int .i64 u5))).trans (Keeps.setCell (p := ⟨w.heap.size + 1 + 1 + 1, 6, none⟩) ⟨by dsimp only; omega, by dsimp only; omega⟩ (.int .i64 u6))), ⟨(((((((hq.r0.far (p := ⟨w.heap.size + 1 + 1 + 1, 0, none⟩) (by dsimp only; omega) (.int .i64 u0)).far (p := ⟨w.heap.size + 1 + 1 + 1, 1, none⟩) (by dsimp only; omega) (.int .i64 u1)).far (p := ⟨w.heap.size + 1 + 1 + 1, 2, none⟩) (by dsimp only; omega) (.int .i64 u2)).far (p := ⟨w.heap.size + 1 + 1 + 1, 3, none⟩) (by dsimp only; omega) (.int .i64 u3)).far (p := ⟨w.heap.size + 1 + 1 + 1, 4, none⟩) (by dsimp only; omega) (.int .i64 u4)).far (p := ⟨w.heap.size + 1 + 1 + 1, 5, none⟩) (by dsimp only; omega) (.int .i64 u5)).far (p := ⟨w.heap.size + 1 + 1 + 1, 6, none⟩) (by dsimp only; omega) (.int .i64 u6)), (((((((hq.r1.far (p := ⟨w.heap.size + 1 + 1 + 1, 0, none⟩) (by dsimp only; omega) (.int .i64 u0)).far (p := ⟨w.heap.size + 1 + 1 + 1, 1, none⟩) (by dsimp only; omega) (.int .i64 u1)).far (p := ⟨w.heap.size + 1 + 1 + 1, 2, none⟩) (by dsimp only; omega) (.int .i64 u2)).far (p := ⟨w.heap.size + 1 + 1 + 1, 3, none⟩) (by dsimp only; omega) (.int .i64 u3)).far (p := ⟨w.heap.size + 1 + 1 + 1, 4, none⟩) (by dsimp only; omega) (.int .i64 u4)).far (p := ⟨w.heap.size + 1 + 1 + 1, 5, none⟩) (by dsimp only; omega) (.int .i64 u5)).far (p := ⟨w.heap.size + 1 + 1 + 1, 6, none⟩) (by dsimp only; omega) (.int .i64 u6)), (((((((hq.r2.far (p := ⟨w.heap.size + 1 + 1 + 1, 0, none⟩) (by dsimp only; omega) (.int .i64 u0)).far (p := ⟨w.heap.size + 1 + 1 + 1, 1, none⟩) (by dsimp only; omega) (.int .i64 u1)).far (p := ⟨w.heap.size + 1 + 1 + 1, 2, none⟩) (by dsimp only; omega) (.int .i64 u2)).far (p := ⟨w.heap.size + 1 + 1 + 1, 3, none⟩) (by dsimp only; omega) (.int .i64 u3)).far (p := ⟨w.heap.size + 1 + 1 + 1, 4, none⟩) (by dsimp only; omega) (.int .i64 u4)).far (p := ⟨w.heap.size + 1 + 1 + 1, 5, none⟩) (by dsimp only; omega) (.int .i64 u5)).far (p := ⟨w.heap.size + 1 + 1 + 1, 6, none⟩) (by dsimp only; omega) (.int .i64 u6)), (((((((hq.rw.put 0 (.int .i64 u0)).put 1 (.int .i64 u1)).put 2 (.int .i64 u2)).put 3 (.int .i64 u3)).put 4 (.int .i64 u4)).put 5 (.int .i64 u5)).put 6 (.int .i64 u6)), (((((((hq.rc.far (p := ⟨w.heap.size + 1 + 1 + 1, 0, none⟩) (by dsimp only; omega) (.int .i64 u0)).far (p := ⟨w.heap.size + 1 + 1 + 1, 1, none⟩) (by dsimp only; omega) (.int .i64 u1)).far (p := ⟨w.heap.size + 1 + 1 + 1, 2, none⟩) (by dsimp only; omega) (.int .i64 u2)).far (p := ⟨w.heap.size + 1 + 1 + 1, 3, none⟩) (by dsimp only; omega) (.int .i64 u3)).far (p := ⟨w.heap.size + 1 + 1 + 1, 4, none⟩) (by dsimp only; omega) (.int .i64 u4)).far (p := ⟨w.heap.size + 1 + 1 + 1, 5, none⟩) (by dsimp only; omega) (.int .i64 u5)).far (p := ⟨w.heap.size + 1 + 1 + 1, 6, none⟩) (by dsimp only; omega) (.int .i64 u6)), (((((((hq.rf.far (p := ⟨w.heap.size + 1 + 1 + 1, 0, none⟩) (by dsimp only; omega) (.int .i64 u0)).far (p := ⟨w.heap.size + 1 + 1 + 1, 1, none⟩) (by dsimp only; omega) (.int .i64 u1)).far (p := ⟨w.heap.size + 1 + 1 + 1, 2, none⟩) (by dsimp only; omega) (.int .i64 u2)).far (p := ⟨w.heap.size + 1 + 1 + 1, 3, none⟩) (by dsimp only; omega) (.int .i64 u3)).far (p := ⟨w.heap.size + 1 + 1 + 1, 4, none⟩) (by dsimp only; omega) (.int .i64 u4)).far (p := ⟨w.heap.size + 1 + 1 + 1, 5, none⟩) (by dsimp only; omega) (.int .i64 u5)).far (p := ⟨w.heap.size + 1 + 1 + 1, 6, none⟩) (by dsimp only; omega) (.int .i64 u6)), (((((((hq.b.setCell (p := ⟨w.heap.size + 1 + 1 + 1, 0, none⟩) (by dsimp only; omega) (.int .i64 u0)).setCell (p := ⟨w.heap.size + 1 + 1 + 1, 1, none⟩) (by dsimp only; omega) (.int .i64 u1)).setCell (p := ⟨w.heap.size + 1 + 1 + 1, 2, none⟩) (by dsimp only; omega) (.int .i64 u2)).setCell (p := ⟨w.heap.size + 1 + 1 + 1, 3, none⟩) (by dsimp only; omega) (.int .i64 u3)).setCell (p := ⟨w.heap.size + 1 + 1 + 1, 4, none⟩) (by dsimp only; omega) (.int .i64 u4)).setCell (p := ⟨w.heap.size + 1 + 1 + 1, 5, none⟩) (by dsimp only; omega) (.int .i64 u5)).setCell (p := ⟨w.heap.size + 1 + 1 + 1, 6, none⟩) (by dsimp only; omega) (.int .i64 u6)), by have := hq.s; simp [World.setCell]; omega⟩⟩
theorem parse_next {w Y u : World} {n0 n f : Nat} {l : List Int} (h : QInv w n0 l n f Y) (hb : Below Y.heap.size Y u) (c : Nat) :
    Keeps (NoQ w Y) Y ((u.setCell ⟨w.heap.size + 1 + 1 + 1 + 1, 0, none⟩ (.int .i64 ((n + 1 : Nat) : Int))).setCell ⟨w.heap.size + 1 + 1 + 1 + 1 + 1, 0, none⟩ (.int .i64 (c : Int))) ∧ QInv w n0 l (n + 1) c ((u.setCell ⟨w.heap.size + 1 + 1 + 1 + 1, 0, none⟩ (.int .i64 ((n + 1 : Nat) : Int))).setCell ⟨w.heap.size + 1 + 1 + 1 + 1 + 1, 0, none⟩ (.int .i64 (c : Int))) := by
  have hq := h.below hb
  refine ⟨((Keeps.of_below hb).trans (Keeps.setCell (p := ⟨w.heap.size + 1 + 1 + 1 + 1, 0, none⟩) ⟨by dsimp only; omega, by dsimp only; omega⟩ _)).trans (Keeps.setCell (p := ⟨w.heap.size + 1 + 1 + 1 + 1 + 1, 0, none⟩) ⟨by dsimp only; omega, by dsimp only; omega⟩ _), ⟨?_, ?_, ?_, ?_, ?_, ?_, (hq.b.setCell (p := ⟨w.heap.size + 1 + 1 + 1 + 1, 0, none⟩) (by dsimp only; omega) _).setCell (p := ⟨w.heap.size + 1 + 1 + 1 + 1 + 1, 0, none⟩) (by dsimp only; omega) _, by have := hq.s; simp [World.setCell]; omega⟩⟩
  · exact (hq.r0.far (p := ⟨w.heap.size + 1 + 1 + 1 + 1, 0, none⟩) (by dsimp only; omega) _).far (p := ⟨w.heap.size + 1 + 1 + 1 + 1 + 1, 0, none⟩) (by dsimp only; omega) _
  · exact (hq.r1.far (p := ⟨w.heap.size + 1 + 1 + 1 + 1, 0, none⟩) (by dsimp only; omega) _).far (p := ⟨w.heap.size + 1 + 1 + 1 + 1 + 1, 0, none⟩) (by dsimp only; omega) _
  · exact (hq.r2.far (p := ⟨w.heap.size + 1 + 1 + 1 + 1, 0, none⟩) (by dsimp only; omega) _).far (p := ⟨w.heap.size + 1 + 1 + 1 + 1 + 1, 0, none⟩) (by dsimp only; omega) _
  · exact (hq.rw.far (p := ⟨w.heap.size + 1 + 1 + 1 + 1, 0, none⟩) (by dsimp only; omega) _).far (p := ⟨w.heap.size + 1 + 1 + 1 + 1 + 1, 0, none⟩) (by dsimp only; omega) _
  · exact (hq.rc.put 0 (.int .i64 ((n + 1 : Nat) : Int))).far (p := ⟨w.heap.size + 1 + 1 + 1 + 1 + 1, 0, none⟩) (by dsimp only; omega) _
  · exact (hq.rf.far (p := ⟨w.heap.size + 1 + 1 + 1 + 1, 0, none⟩) (by dsimp only; omega) _).put 0 (.int .i64 (c : Int))
theorem parse_done {w Y : World} {n0 n f : Nat} {y0 y1 y2 y3 y4 y5 y6 : Int} (h : QInv w n0 [y0, y1, y2, y3, y4, y5, y6] n f Y) :
    Row (((((((((Y.setCell ⟨w.heap.size, 0, none⟩ (.int .i64 y0)).setCell ⟨w.heap.size, 1, none⟩ (.int .i64 y1)).setCell ⟨w.heap.size, 2, none⟩ (.int .i64 y2)).setCell ⟨w.heap.size, 3, none⟩ (.int .i64 y3)).setCell ⟨w.heap.size, 4, none⟩ (.int .i64 y4)).setCell ⟨w.heap.size, 5, none⟩ (.int .i64 y5)).setCell ⟨w.heap.size, 6, none⟩ (.int .i64 y6)).setCell ⟨w.heap.size + 1, 0, none⟩ (.int .i64 (n : Int))).setCell ⟨w.heap.size + 1 + 1, 0, none⟩ (.int .i64 0)) w.heap.size 23 (ints [y0, y1, y2, y3, y4, y5, y6]) ∧ Row (((((((((Y.setCell ⟨w.heap.size, 0, none⟩ (.int .i64 y0)).setCell ⟨w.heap.size, 1, none⟩ (.int .i64 y1)).setCell ⟨w.heap.size, 2, none⟩ (.int .i64 y2)).setCell ⟨w.heap.size, 3, none⟩ (.int .i64 y3)).setCell ⟨w.heap.size, 4, none⟩ (.int .i64 y4)).setCell ⟨w.heap.size, 5, none⟩ (.int .i64 y5)).setCell ⟨w.heap.size, 6, none⟩ (.int .i64 y6)).setCell ⟨w.heap.size + 1, 0, none⟩ (.int .i64 (n : Int))).setCell ⟨w.heap.size + 1 + 1, 0, none⟩ (.int .i64 0)) (w.heap.size + 1) 3 #[.int .i64 (n : Int)] ∧ Row (((((((((Y.setCell ⟨w.heap.size, 0, none⟩ (.int .i64 y0)).setCell ⟨w.heap.size, 1, none⟩ (.int .i64 y1)).setCell ⟨w.heap.size, 2, none⟩ (.int .i64 y2)).setCell ⟨w.heap.size, 3, none⟩ (.int .i64 y3)).setCell ⟨w.heap.size, 4, none⟩ (.int .i64 y4)).setCell ⟨w.heap.size, 5, none⟩ (.int .i64 y5)).setCell ⟨w.heap.size, 6, none⟩ (.int .i64 y6)).setCell ⟨w.heap.size + 1, 0, none⟩ (.int .i64 (n : Int))).setCell ⟨w.heap.size + 1 + 1, 0, none⟩ (.int .i64 0)) (w.heap.size + 1 + 1) 37 #[.int .i64 0] ∧ Below w.heap.size w (((((((((Y.setCell ⟨w.heap.size, 0, none⟩ (.int .i64 y0)).setCell ⟨w.heap.size, 1, none⟩ (.int .i64 y1)).setCell ⟨w.heap.size, 2, none⟩ (.int .i64 y2)).setCell ⟨w.heap.size, 3, none⟩ (.int .i64 y3)).setCell ⟨w.heap.size, 4, none⟩ (.int .i64 y4)).setCell ⟨w.heap.size, 5, none⟩ (.int .i64 y5)).setCell ⟨w.heap.size, 6, none⟩ (.int .i64 y6)).setCell ⟨w.heap.size + 1, 0, none⟩ (.int .i64 (n : Int))).setCell ⟨w.heap.size + 1 + 1, 0, none⟩ (.int .i64 0)) ∧ ∀ k, w.heap.size + 6 ≤ k → (((((((((Y.setCell ⟨w.heap.size, 0, none⟩ (.int .i64 y0)).setCell ⟨w.heap.size, 1, none⟩ (.int .i64 y1)).setCell ⟨w.heap.size, 2, none⟩ (.int .i64 y2)).setCell ⟨w.heap.size, 3, none⟩ (.int .i64 y3)).setCell ⟨w.heap.size, 4, none⟩ (.int .i64 y4)).setCell ⟨w.heap.size, 5, none⟩ (.int .i64 y5)).setCell ⟨w.heap.size, 6, none⟩ (.int .i64 y6)).setCell ⟨w.heap.size + 1, 0, none⟩ (.int .i64 (n : Int))).setCell ⟨w.heap.size + 1 + 1, 0, none⟩ (.int .i64 0)).heap[k]? = Y.heap[k]? := by
  refine ⟨?_, ?_, ?_, ((((((((h.b.setCell (p := ⟨w.heap.size, 0, none⟩) (by dsimp only; omega) (.int .i64 y0)).setCell (p := ⟨w.heap.size, 1, none⟩) (by dsimp only; omega) (.int .i64 y1)).setCell (p := ⟨w.heap.size, 2, none⟩) (by dsimp only; omega) (.int .i64 y2)).setCell (p := ⟨w.heap.size, 3, none⟩) (by dsimp only; omega) (.int .i64 y3)).setCell (p := ⟨w.heap.size, 4, none⟩) (by dsimp only; omega) (.int .i64 y4)).setCell (p := ⟨w.heap.size, 5, none⟩) (by dsimp only; omega) (.int .i64 y5)).setCell (p := ⟨w.heap.size, 6, none⟩) (by dsimp only; omega) (.int .i64 y6)).setCell (p := ⟨w.heap.size + 1, 0, none⟩) (by dsimp only; omega) _).setCell (p := ⟨w.heap.size + 1 + 1, 0, none⟩) (by dsimp only; omega) _, ?_⟩
  · exact ((((((((h.r0.put 0 (.int .i64 y0)).put 1 (.int .i64 y1)).put 2 (.int .i64 y2)).put 3 (.int .i64 y3)).put 4 (.int .i64 y4)).put 5 (.int .i64 y5)).put 6 (.int .i64 y6)).far (p := ⟨w.heap.size + 1, 0, none⟩) (by dsimp only; omega) _).far (p := ⟨w.heap.size + 1 + 1, 0, none⟩) (by dsimp only; omega) _
  · exact ((((((((h.r1.far (p := ⟨w.heap.size, 0, none⟩) (by dsimp only; omega) (.int .i64 y0)).far (p := ⟨w.heap.size, 1, none⟩) (by dsimp only; omega) (.int .i64 y1)).far (p := ⟨w.heap.size, 2, none⟩) (by dsimp only; omega) (.int .i64 y2)).far (p := ⟨w.heap.size, 3, none⟩) (by dsimp only; omega) (.int .i64 y3)).far (p := ⟨w.heap.size, 4, none⟩) (by dsimp only; omega) (.int .i64 y4)).far (p := ⟨w.heap.size, 5, none⟩) (by dsimp only; omega) (.int .i64 y5)).far (p := ⟨w.heap.size, 6, none⟩) (by dsimp only; omega) (.int .i64 y6)).put 0 (.int .i64 (n : Int))).far (p := ⟨w.heap.size + 1 + 1, 0, none⟩) (by dsimp only; omega) _
  · exact ((((((((h.r2.far (p := ⟨w.heap.size, 0, none⟩) (by dsimp only; omega) (.int .i64 y0)).far (p := ⟨w.heap.size, 1, none⟩) (by dsimp only; omega) (.int .i64 y1)).far (p := ⟨w.heap.size, 2, none⟩) (by dsimp only; omega) (.int .i64 y2)).far (p := ⟨w.heap.size, 3, none⟩) (by dsimp only; omega) (.int .i64 y3)).far (p := ⟨w.heap.size, 4, none⟩) (by dsimp only; omega) (.int .i64 y4)).far (p := ⟨w.heap.size, 5, none⟩) (by dsimp only; omega) (.int .i64 y5)).far (p := ⟨w.heap.size, 6, none⟩) (by dsimp only; omega) (.int .i64 y6)).far (p := ⟨w.heap.size + 1, 0, none⟩) (by dsimp only; omega) _).put 0 (.int .i64 0)
  · intro k hk6
    simp only [Below.heap_setCell _ ⟨w.heap.size + 1 + 1, 0, none⟩ _ k (by dsimp only; omega), Below.heap_setCell _ ⟨w.heap.size + 1, 0, none⟩ _ k (by dsimp only; omega), Below.heap_setCell _ ⟨w.heap.size, 0, none⟩ _ k (by dsimp only; omega), Below.heap_setCell _ ⟨w.heap.size, 1, none⟩ _ k (by dsimp only; omega), Below.heap_setCell _ ⟨w.heap.size, 2, none⟩ _ k (by dsimp only; omega), Below.heap_setCell _ ⟨w.heap.size, 3, none⟩ _ k (by dsimp only; omega), Below.heap_setCell _ ⟨w.heap.size, 4, none⟩ _ k (by dsimp only; omega), Below.heap_setCell _ ⟨w.heap.size, 5, none⟩ _ k (by dsimp only; omega), Below.heap_setCell _ ⟨w.heap.size, 6, none⟩ _ k (by dsimp only; omega)]
theorem ptl_len (sep : ByteArray) : ∀ (f : Nat) (s : ByteArray), (ptl sep f s).length ≤ f
  | 0, _ => Nat.le_refl _
  | f + 1, s => by
    unfold ptl
    simp only [List.length_cons]
    split
    · have := ptl_len sep f (cut2 s sep); omega
    · simp
theorem never_list : never.toList = [110, 101, 118, 101, 114] := by rw [ByteArray.toList_eq]; rfl

set_option maxRecDepth 100000 in
set_option maxHeartbeats 8000000 in
theorem parse_any (s : ByteArray) (hs : s.size < 4294967281) (w : World) (ht : Tabs w) : Calls Tryd.prog 27 #[.string s] w fun e w' =>
    e = .returned (.tuple #[wv (parseV s).1, .int .i64 ((parseV s).2.1 : Int), .int .i64 (parseV s).2.2]) ∧ Below w.heap.size w w' := by
  have HT := Lib.hid ht
  have hn4 := ht.n
  clear ht
  refine (callsIn_wide (n := 12)).1 ?_
  refine callsIn_of_wp_marks Tryd.func27 rfl trivial ?_ rfl
  simp only [Tryd.ntmps27, List.size_toArray, List.length_cons, List.length_nil, Nat.reduceAdd, Nat.reduceSub, Array.replicate_succ, Array.replicate_zero, List.push_toArray, List.append_toArray, List.nil_append, List.cons_append]
  by_cases hnv : s = never
  · have t1 : (s.toList == [110, 101, 118, 101, 114]) = true := by rw [← never_list, str_eqb]; exact decide_eq_true hnv
    have HP := Lib.hid (show parseV s = (zeroW, 0, 0) by unfold parseV; rw [if_pos hnv])
    clear hnv
    gi_wp2
    have q1 := Row.new (w.alloc (.cells #[.int .i64 0, .int .i64 0, .int .i64 0, .int .i64 0, .int .i64 0, .int .i64 0, .int .i64 0] 23)) 3 #[.int .i64 0]
    have q2 := Row.new ((w.alloc (.cells #[.int .i64 0, .int .i64 0, .int .i64 0, .int .i64 0, .int .i64 0, .int .i64 0, .int .i64 0] 23)).alloc (.cells #[.int .i64 0] 3)) 37 #[.int .i64 0]
    simp only [World.size_alloc] at q1 q2
    exact ⟨_, results_wie rfl _ _ w.heap.size (w.heap.size + 1) (w.heap.size + 1 + 1) zeroW 0 0 rfl rfl rfl ((((Row.new w 23 #[.int .i64 0, .int .i64 0, .int .i64 0, .int .i64 0, .int .i64 0, .int .i64 0, .int .i64 0]).alloc _).alloc _).alloc _) rfl ((q1.alloc _).alloc _) (q2.alloc _), by rw [HP.out]; rfl, ((((Below.refl _ w).alloc (Nat.le_refl _) _).alloc (by simp) _).alloc (by simp; omega) _).alloc (by simp; omega) _⟩
  · have t1 : (s.toList == [110, 101, 118, 101, 114]) = false := by rw [← never_list, str_eqb]; exact decide_eq_false hnv
    have HP := Lib.hid (show parseV s = psStep (ptl semi (s.size + 1) s) zeroW 0 0 by unfold parseV; rw [if_neg hnv])
    clear hnv
    gi_wp2_with (refine ⟨trivial, ?_⟩; gi_at_call 47; ((with_reducible refine CallsIn.mono (callsIn_wide.2 (parts_any _ _ _)) ?_); rintro e' w3 ⟨rfl, rfl⟩))
    obtain ⟨X, hX⟩ : ∃ X, ((((((((w.alloc (.cells #[.int .i64 0, .int .i64 0, .int .i64 0, .int .i64 0, .int .i64 0, .int .i64 0, .int .i64 0] 23)).alloc (.cells #[.int .i64 0] 3)).alloc (.cells #[.int .i64 0] 37)).alloc (.cells #[.int .i64 0, .int .i64 0, .int .i64 0, .int .i64 0, .int .i64 0, .int .i64 0, .int .i64 0] 23)).alloc (.cells #[.int .i64 0] 3)).alloc (.cells #[.int .i64 0] 3)).alloc (.cells #[.string s] 9)).alloc (.cells #[.string semi] 9)) = X := ⟨_, rfl⟩
    have hsX : X.heap.size = w.heap.size + 1 + 1 + 1 + 1 + 1 + 1 + 1 + 1 := by rw [← hX]; simp
    have r0 : Row X (w.heap.size) 23 #[.int .i64 0, .int .i64 0, .int .i64 0, .int .i64 0, .int .i64 0, .int .i64 0, .int .i64 0] := by
      rw [← hX]
      have := Row.new w 23 #[.int .i64 0, .int .i64 0, .int .i64 0, .int .i64 0, .int .i64 0, .int .i64 0, .int .i64 0]
      (try simp only [World.size_alloc] at this)
      exact (((((((this.alloc _).alloc _).alloc _).alloc _).alloc _).alloc _).alloc _)
    have r1 : Row X (w.heap.size + 1) 3 #[.int .i64 0] := by
      rw [← hX]
      have := Row.new (w.alloc (.cells #[.int .i64 0, .int .i64 0, .int .i64 0, .int .i64 0, .int .i64 0, .int .i64 0, .int .i64 0] 23)) 3 #[.int .i64 0]
      (try simp only [World.size_alloc] at this)
      exact ((((((this.alloc _).alloc _).alloc _).alloc _).alloc _).alloc _)
    have r2 : Row X (w.heap.size + 1 + 1) 37 #[.int .i64 0] := by
      rw [← hX]
      have := Row.new ((w.alloc (.cells #[.int .i64 0, .int .i64 0, .int .i64 0, .int .i64 0, .int .i64 0, .int .i64 0, .int .i64 0] 23)).alloc (.cells #[.int .i64 0] 3)) 37 #[.int .i64 0]
      (try simp only [World.size_alloc] at this)
      exact (((((this.alloc _).alloc _).alloc _).alloc _).alloc _)
    have r3 : Row X (w.heap.size + 1 + 1 + 1) 23 #[.int .i64 0, .int .i64 0, .int .i64 0, .int .i64 0, .int .i64 0, .int .i64 0, .int .i64 0] := by
      rw [← hX]
      have := Row.new (((w.alloc (.cells #[.int .i64 0, .int .i64 0, .int .i64 0, .int .i64 0, .int .i64 0, .int .i64 0, .int .i64 0] 23)).alloc (.cells #[.int .i64 0] 3)).alloc (.cells #[.int .i64 0] 37)) 23 #[.int .i64 0, .int .i64 0, .int .i64 0, .int .i64 0, .int .i64 0, .int .i64 0, .int .i64 0]
      (try simp only [World.size_alloc] at this)
      exact ((((this.alloc _).alloc _).alloc _).alloc _)
    have r4 : Row X (w.heap.size + 1 + 1 + 1 + 1) 3 #[.int .i64 0] := by
      rw [← hX]
      have := Row.new ((((w.alloc (.cells #[.int .i64 0, .int .i64 0, .int .i64 0, .int .i64 0, .int .i64 0, .int .i64 0, .int .i64 0] 23)).alloc (.cells #[.int .i64 0] 3)).alloc (.cells #[.int .i64 0] 37)).alloc (.cells #[.int .i64 0, .int .i64 0, .int .i64 0, .int .i64 0, .int .i64 0, .int .i64 0, .int .i64 0] 23)) 3 #[.int .i64 0]
      (try simp only [World.size_alloc] at this)
      exact (((this.alloc _).alloc _).alloc _)
    have r5 : Row X (w.heap.size + 1 + 1 + 1 + 1 + 1) 3 #[.int .i64 0] := by
      rw [← hX]
      have := Row.new (((((w.alloc (.cells #[.int .i64 0, .int .i64 0, .int .i64 0, .int .i64 0, .int .i64 0, .int .i64 0, .int .i64 0] 23)).alloc (.cells #[.int .i64 0] 3)).alloc (.cells #[.int .i64 0] 37)).alloc (.cells #[.int .i64 0, .int .i64 0, .int .i64 0, .int .i64 0, .int .i64 0, .int .i64 0, .int .i64 0] 23)).alloc (.cells #[.int .i64 0] 3)) 3 #[.int .i64 0]
      (try simp only [World.size_alloc] at this)
      exact ((this.alloc _).alloc _)
    have r6 : Row X (w.heap.size + 1 + 1 + 1 + 1 + 1 + 1) 9 #[.string s] := by
      rw [← hX]
      have := Row.new ((((((w.alloc (.cells #[.int .i64 0, .int .i64 0, .int .i64 0, .int .i64 0, .int .i64 0, .int .i64 0, .int .i64 0] 23)).alloc (.cells #[.int .i64 0] 3)).alloc (.cells #[.int .i64 0] 37)).alloc (.cells #[.int .i64 0, .int .i64 0, .int .i64 0, .int .i64 0, .int .i64 0, .int .i64 0, .int .i64 0] 23)).alloc (.cells #[.int .i64 0] 3)).alloc (.cells #[.int .i64 0] 3)) 9 #[.string s]
      (try simp only [World.size_alloc] at this)
      exact (this.alloc _)
    have r7 : Row X (w.heap.size + 1 + 1 + 1 + 1 + 1 + 1 + 1) 9 #[.string semi] := by
      rw [← hX]
      have := Row.new (((((((w.alloc (.cells #[.int .i64 0, .int .i64 0, .int .i64 0, .int .i64 0, .int .i64 0, .int .i64 0, .int .i64 0] 23)).alloc (.cells #[.int .i64 0] 3)).alloc (.cells #[.int .i64 0] 37)).alloc (.cells #[.int .i64 0, .int .i64 0, .int .i64 0, .int .i64 0, .int .i64 0, .int .i64 0, .int .i64 0] 23)).alloc (.cells #[.int .i64 0] 3)).alloc (.cells #[.int .i64 0] 3)).alloc (.cells #[.string s] 9)) 9 #[.string semi]
      (try simp only [World.size_alloc] at this)
      exact this
    have hXL : Below w.heap.size w X := by rw [← hX]; exact ((((((((Below.refl _ w).alloc (Nat.le_refl _) _).alloc (by simp) _).alloc (by simp; omega) _).alloc (by simp; omega) _).alloc (by simp; omega) _).alloc (by simp; omega) _).alloc (by simp; omega) _).alloc (by simp; omega) _
    have hI0 : QInv w X.heap.size zeroW 0 0 X := ⟨r0, r1, r2, r3, r4, r5, hXL, Nat.le_refl _⟩
    have HTX := Lib.hid (HT.out.next hXL)
    have hX2 : ((((((((w.alloc (.cells #[.int .i64 0, .int .i64 0, .int .i64 0, .int .i64 0, .int .i64 0, .int .i64 0, .int .i64 0] 23)).alloc (.cells #[.int .i64 0] 3)).alloc (.cells #[.int .i64 0] 37)).alloc (.cells #[.int .i64 0, .int .i64 0, .int .i64 0, .int .i64 0, .int .i64 0, .int .i64 0, .int .i64 0] 23)).alloc (.cells #[.int .i64 0] 3)).alloc (.cells #[.int .i64 0] 3)).alloc (.cells #[.string s] 9)).alloc (.cells #[.string ⟨#[59, 32]⟩] 9)) = X := hX
    rw [hX2]
    clear hX hX2 r0 r1 r2 r3 r4 r5
    obtain ⟨full, hfull⟩ : ∃ f, ptl semi (s.size + 1) s = f := ⟨_, rfl⟩
    have HPS := Lib.hid (ptl_size semi (s.size + 1) s)
    have HPL := Lib.hid (ptl_len semi (s.size + 1) s)
    have hp := parts_p 11 (by decide) (w.heap.size + 1 + 1 + 1 + 1 + 1 + 1) (w.heap.size + 1 + 1 + 1 + 1 + 1 + 1 + 1) s semi hs (by decide) (fun Y k => NoQ w Y k ∨ k = X.heap.size + 1) X (cut4 HTX.out) (by omega) (by omega) (r6.cell 0) (r7.cell 0) HTX.out.c
    rw [hfull] at hp HPS HPL HP
    clear hfull
    refine rangeFunc_p (F := Fence.wide) rfl (by decide) (gf := 65) (lb := #[.pointer (some ⟨w.heap.size + 1 + 1 + 1 + 1 + 1 + 1, 0, none⟩), .pointer (some ⟨w.heap.size + 1 + 1 + 1 + 1 + 1 + 1 + 1, 0, none⟩)]) rfl trivial (enters_of Tryd.func65 (by kernel_rfl) rfl)
      hp (fun _ => rfl) (fun k hk => by rcases hk with rfl | rfl | rfl <;> first | exact cut4 HTX.out | omega)
      (fun pre Y => ∃ (l : List Int) (n f : Nat), QInv w X.heap.size l n f Y ∧ l.length = 7 ∧ validW l = true ∧ n ≤ pre.length ∧ f ≤ 64 ∧ ∀ xs, psStep (pre ++ xs) zeroW 0 0 = psStep xs l n f)
      (fun c _ Y => c = .ret ∧ ∃ n : Nat, psStep full zeroW 0 0 = (zeroW, n, 60) ∧ Row Y w.heap.size 23 (ints zeroW) ∧ Row Y (w.heap.size + 1) 3 #[.int .i64 (n : Int)] ∧ Row Y (w.heap.size + 1 + 1) 37 #[.int .i64 60] ∧ Below w.heap.size w Y ∧ X.heap.size ≤ Y.heap.size)
      ?oI ?oIx ⟨zeroW, 0, 0, hI0, rfl, rfl, Nat.le_refl _, by omega, fun _ => rfl⟩ ?hno (fun _ _ _ _ _ _ _ _ hk => hk)
      (fun _ x a' _ => ∃ (z0 z1 z9 z10 z11 z12 z13 z14 z15 z16 z17 z18 z19 z20 z21 z22 z23 z24 z25 z26 z27 z28 z29 z30 z31 z32 z33 z34 z35 z36 z37 z38 z39 z40 z41 z42 z43 z44 z45 z46 : Value), a' = { tmps := #[z0, z1, .pointer (some ⟨w.heap.size, 0, none⟩), .pointer (some ⟨w.heap.size + 1, 0, none⟩), .pointer (some ⟨w.heap.size + 1 + 1, 0, none⟩), .pointer (some ⟨w.heap.size + 1 + 1 + 1, 0, none⟩), .pointer (some ⟨w.heap.size + 1 + 1 + 1 + 1, 0, none⟩), .pointer (some ⟨w.heap.size + 1 + 1 + 1 + 1 + 1, 0, none⟩), .string x, z9, z10, z11, z12, z13, z14, z15, z16, z17, z18, z19, z20, z21, z22, z23, z24, z25, z26, z27, z28, z29, z30, z31, z32, z33, z34, z35, z36, z37, z38, z39, z40, z41, z42, z43, z44, z45, z46], defers := [] }) (fun _ _ _ _ _ _ _ hs _ _ => hs) ?assign ?body ?done ?stop
    case oI =>
      rintro pre Y Z row ⟨l, n, f, h1, h2⟩ hg hr
      exact ⟨l, n, f, h1.turn hg hr (by omega), h2⟩
    case oIx =>
      rintro c pre Y Z row ⟨rfl, n, h1, h2, h3, h4, h5, h6⟩ hg hr
      exact ⟨rfl, n, h1, h2.turn hg hr, h3.turn hg hr, h4.turn hg hr, h5.grown hg h5.size (fun k e => by have := (hr k e).1; omega), Nat.le_trans h6 hg.size⟩
    case hno =>
      rintro pre Y k ⟨l, n, f, h1, h2⟩ ⟨hk1, hk2⟩
      have hc := cut4 HT.out
      have := h1.s
      exact ⟨by omega, fun h => by omega, .inr (by omega)⟩
    case assign =>
      rintro l' pre x Y K hpre hi hK
      gi_wp2
      exact hK _ _ (RoundK.refl _ _) hi ⟨_, _, _, _, _, _, _, _, _, _, _, _, _, _, _, _, _, _, _, _, _, _, _, _, _, _, _, _, _, _, _, _, _, _, _, _, _, _, _, _, rfl⟩
    case body =>
      rintro l' pre x a' Y hl hr hpre ⟨l, n, f, h1, h7, hv, hn, hf, hps⟩ ⟨z0, z1, z9, z10, z11, z12, z13, z14, z15, z16, z17, z18, z19, z20, z21, z22, z23, z24, z25, z26, z27, z28, z29, z30, z31, z32, z33, z34, z35, z36, z37, z38, z39, z40, z41, z42, z43, z44, z45, z46, rfl⟩
      have hmem : x ∈ full := by obtain ⟨t, ht⟩ := hpre; rw [← ht]; simp
      have hxs : x.size < 4294967281 := Nat.lt_of_le_of_lt (HPS.out x hmem) hs
      have hlen := hpre.length_le
      rw [List.length_append] at hlen
      have hfl := HPL.out
      have hn2 : n ≤ 4294967290 := by simp at hlen; omega
      obtain ⟨tl, htl⟩ := hpre
      have HG0 := readGroup_any x hxs Y (HT.out.next h1.b)
      have HEQ := Lib.hid (show psStep full zeroW 0 0 = psStep (x :: tl) l n f by rw [← htl, List.append_assoc]; exact hps (x :: tl))
      have HBD0 := Lib.hid (fun h => ps_bad (x := x) (xs := tl) (l := l) (n := n) (f := f) h)
      have HOK := Lib.hid (fun (xs : List ByteArray) h => ps_ok (x := x) (xs := xs) (l := l) (n := n) (f := f) h)
      have hDle := grpDays_le x
      have hHle := grpHours_le x
      obtain ⟨D, hD⟩ : ∃ D, grpDays x = D := ⟨_, rfl⟩
      obtain ⟨H, hH⟩ : ∃ H, grpHours x = H := ⟨_, rfl⟩
      rw [hD] at HG0 HBD0 HOK hDle
      rw [hH] at HG0 HBD0 HOK hHle
      have HPS2 := Lib.hid hps
      have HN := Lib.hid hn
      have HQY := Lib.hid h1
      have HVL := Lib.hid (And.intro h7 hv)
      have HFST0 := Lib.hid (fun u (hu : Tabs u) => first_any D H hDle u hu.t (by have := hu.n; omega))
      have HNEW0 := Lib.hid (fun u => isNew_any D H hDle l h7 hv u)
      have HADD0 := Lib.hid (fun u => addTo_any D H hDle l h7 u)
      obtain ⟨c, hc⟩ : ∃ c, Lib.ctz 64 D = c := ⟨_, rfl⟩
      have hc64 : D ≠ 0 → c ≤ 64 := fun h0 => by rw [← hc]; exact ctz_le D hDle h0
      rw [hc] at HBD0 HOK
      have HFST := Lib.hid (fun u hu => hc ▸ HFST0.out u hu)
      obtain ⟨nw, hnw⟩ : ∃ b, newG D H l = b := ⟨_, rfl⟩
      rw [hnw] at HBD0 HOK HNEW0
      have HAL := Lib.hid (And.intro (addL_len D H l 7) (addL_valid (days := D) hHle h7 hv))
      obtain ⟨l2, hl2⟩ : ∃ l2, addL D H l 7 = l2 := ⟨_, rfl⟩
      rw [hl2] at HADD0 HOK HAL
      obtain ⟨y0, y1, y2, y3, y4, y5, y6, rfl⟩ := seven h7
      have HNEW := Lib.hid (fun u => show Calls Tryd.prog 50 #[.agg #[.int .i64 (D : Int), .int .i64 (H : Int)], .agg #[.int .i64 y0, .int .i64 y1, .int .i64 y2, .int .i64 y3, .int .i64 y4, .int .i64 y5, .int .i64 y6]] u fun e w' => e = .returned (.bool nw) ∧ Below u.heap.size u w' from HNEW0.out u)
      have HADD := Lib.hid (fun u => show Calls Tryd.prog 51 #[.agg #[.int .i64 (D : Int), .int .i64 (H : Int)], .agg #[.int .i64 y0, .int .i64 y1, .int .i64 y2, .int .i64 y3, .int .i64 y4, .int .i64 y5, .int .i64 y6]] u fun e w' => e = .returned (wv l2) ∧ Below u.heap.size u w' from HADD0.out u)
      clear h1 h7 hv hn hps htl hmem hxs hlen hfl hD hH hc hnw hl2 hDle HFST0 HNEW0 HADD0
      by_cases hok : D = 0 ∨ H = 0
      · have hb0 : (decide (D ≠ 0) && decide (H ≠ 0)) = false := by rcases hok with h | h <;> simp [h]
        rw [hb0] at HG0
        have HG := Lib.hid HG0
        have HBD := Lib.hid (HEQ.out.trans (HBD0.out (hok.elim .inl (fun h => .inr (.inl h)))))
        clear hok hb0 HG0 HBD0 HOK hc64
        gi_wp2_with ((try refine ⟨trivial, ?_⟩); gi_at_call 48; ((with_reducible refine CallsIn.mono (CallsIn.inRound l' (callsIn_wide.2 HG.out)) ?_); rintro e' w4 ⟨rfl, hb4⟩; have H4 := Lib.hid hb4; clear hb4))
        obtain ⟨Y2, hY2⟩ : ∃ Y2, w4.alloc (.cells #[.int .i64 (D : Int), .int .i64 (H : Int)] 63) = Y2 := ⟨_, rfl⟩
        have HGR : Hid (Row Y2 w4.heap.size 63 #[.int .i64 (D : Int), .int .i64 (H : Int)]) := Lib.hid (by rw [← hY2]; exact Row.new _ _ _)
        have HY2 : Hid (Below Y.heap.size Y Y2) := Lib.hid (by rw [← hY2]; exact H4.out.alloc H4.out.size _)
        rw [hY2]
        clear hY2
        obtain ⟨G, hG⟩ : ∃ G, w4.heap.size = G := ⟨_, rfl⟩
        rw [hG] at HGR ⊢
        have HTY : Hid (Tabs Y2) := Lib.hid (HT.out.next (below_to HQY.out.b HY2.out))
        have HQ2 := Lib.hid (HQY.out.below HY2.out)
        have HS8 : Hid (∀ u, Below Y2.heap.size Y2 u → (u.cell? ⟨G, 0, none⟩ = some (.int .i64 (D : Int)) ∧ u.cell? ⟨G, 1, none⟩ = some (.int .i64 (H : Int)) ∧ u.cell? ⟨w.heap.size + 1 + 1 + 1 + 1 + 1, 0, none⟩ = some (.int .i64 (f : Int)) ∧ u.cell? ⟨w.heap.size + 1 + 1 + 1, 0, none⟩ = some (.int .i64 y0) ∧ u.cell? ⟨w.heap.size + 1 + 1 + 1, 1, none⟩ = some (.int .i64 y1) ∧ u.cell? ⟨w.heap.size + 1 + 1 + 1, 2, none⟩ = some (.int .i64 y2) ∧ u.cell? ⟨w.heap.size + 1 + 1 + 1, 3, none⟩ = some (.int .i64 y3) ∧ u.cell? ⟨w.heap.size + 1 + 1 + 1, 4, none⟩ = some (.int .i64 y4) ∧ u.cell? ⟨w.heap.size + 1 + 1 + 1, 5, none⟩ = some (.int .i64 y5) ∧ u.cell? ⟨w.heap.size + 1 + 1 + 1, 6, none⟩ = some (.int .i64 y6))) := Lib.hid (fun u hu => by
          have hq := HQ2.out.below hu
          have hg := HGR.out.below hu HGR.out.lt
          obtain ⟨c0, c1, c2, c3, c4, c5, c6, -⟩ := seven_cells (show Row u (w.heap.size + 1 + 1 + 1) 23 (ints [y0, y1, y2, y3, y4, y5, y6]) from hq.rw)
          exact ⟨hg.cell 0, hg.cell 1, hq.rf.cell 0, c0, c1, c2, c3, c4, c5, c6⟩)
        have HGL : Hid (X.heap.size ≤ G) := Lib.hid (by have := H4.out.size; have := HQY.out.s; rw [← hG]; omega)
        clear hG
        refine region_round (S := fun u => (u.cell? ⟨G, 0, none⟩ = some (.int .i64 (D : Int)) ∧ u.cell? ⟨G, 1, none⟩ = some (.int .i64 (H : Int)) ∧ u.cell? ⟨w.heap.size + 1 + 1 + 1 + 1 + 1, 0, none⟩ = some (.int .i64 (f : Int)) ∧ u.cell? ⟨w.heap.size + 1 + 1 + 1, 0, none⟩ = some (.int .i64 y0) ∧ u.cell? ⟨w.heap.size + 1 + 1 + 1, 1, none⟩ = some (.int .i64 y1) ∧ u.cell? ⟨w.heap.size + 1 + 1 + 1, 2, none⟩ = some (.int .i64 y2) ∧ u.cell? ⟨w.heap.size + 1 + 1 + 1, 3, none⟩ = some (.int .i64 y3) ∧ u.cell? ⟨w.heap.size + 1 + 1 + 1, 4, none⟩ = some (.int .i64 y4) ∧ u.cell? ⟨w.heap.size + 1 + 1 + 1, 5, none⟩ = some (.int .i64 y5) ∧ u.cell? ⟨w.heap.size + 1 + 1 + 1, 6, none⟩ = some (.int .i64 y6))) (by kernel_rfl) (by kernel_rfl) (fun ⟨_, _, h⟩ => h) (HS8.out _ (Below.refl _ _).drew) (fun hHeld => ?_)
        refine wpAnyH_take (i := 0) (oi := _) (v := ?_) rfl (by kernel_rfl) (by kernel_rfl) (by kernel_rfl) (fun _ _ _ h => h) (Or.inl ⟨by rfl, ?_⟩) (by assumption) ?_
        rotate_left
        · (intro w hSw; (try dsimp only at hSw); go_simp; all_goals (with_reducible rfl))
        (try simp only [Act.put])
        refine wpAnyH_take (i := 1) (oi := _) (v := ?_) rfl (by kernel_rfl) (by kernel_rfl) (by kernel_rfl) (fun _ _ _ h => h) (Or.inl ⟨by rfl, ?_⟩) (by assumption) ?_
        rotate_left
        · (intro w hSw; (try dsimp only at hSw); go_simp; all_goals (with_reducible rfl))
        (try simp only [Act.put])
        refine wpAnyH_take (i := 2) (oi := _) (v := ?_) rfl (by kernel_rfl) (by kernel_rfl) (by kernel_rfl) (fun _ _ _ h => h) (Or.inl ⟨by rfl, ?_⟩) (by assumption) ?_
        rotate_left
        · (intro w hSw; (try dsimp only at hSw); go_simp; all_goals (with_reducible rfl))
        (try simp only [Act.put])
        refine wpAnyH_take (i := 3) (oi := _) (v := undef) rfl (by kernel_rfl) (by kernel_rfl) (by kernel_rfl) (fun _ _ _ h => h) (Or.inr ⟨by rfl, rfl⟩) (by assumption) ?_
        (try simp only [Act.put])
        refine wpAnyH_take (i := 5) (oi := _) (v := undef) rfl (by kernel_rfl) (by kernel_rfl) (by kernel_rfl) (fun _ _ _ h => h) (Or.inr ⟨by rfl, rfl⟩) (by assumption) ?_
        (try simp only [Act.put])
        refine wpAnyH_ready (rs := [4]) (by kernel_rfl) (by simp) ?_
        refine AllReadyH.cons (o := _) rfl (fun K hK => ?_) ?_
        · go_simp
          refine hK.out _ _ ?_ (fun hHeld => ?_)
          · (try dsimp only)
            first | assumption | (exact HS8.out _ B4.out) | (exact HS8.out _ B5.out)
          clear hK K
          (try simp only [Act.put, List.setIfInBounds_toArray, List.set_cons_zero, List.set_cons_succ])
          refine wpAnyH_take (i := 6) (oi := _) (v := undef) rfl (by kernel_rfl) (by kernel_rfl) (by kernel_rfl) (fun _ _ _ h => h) (Or.inr ⟨by rfl, rfl⟩) (by assumption) ?_
          (try simp only [Act.put])
          refine wpAnyH_take (i := 7) (oi := _) (v := ?_) rfl (by kernel_rfl) (by kernel_rfl) (by kernel_rfl) (fun _ _ _ h => h) (Or.inl ⟨by rfl, ?_⟩) (by assumption) ?_
          rotate_left
          · (intro w hSw; (try dsimp only at hSw); go_simp; all_goals (with_reducible rfl))
          (try simp only [Act.put])
          refine wpAnyH_take (i := 8) (oi := _) (v := ?_) rfl (by kernel_rfl) (by kernel_rfl) (by kernel_rfl) (fun _ _ _ h => h) (Or.inl ⟨by rfl, ?_⟩) (by assumption) ?_
          rotate_left
          · (intro w hSw; (try dsimp only at hSw); go_simp; all_goals (with_reducible rfl))
          (try simp only [Act.put])
          refine wpAnyH_take (i := 9) (oi := _) (v := undef) rfl (by kernel_rfl) (by kernel_rfl) (by kernel_rfl) (fun _ _ _ h => h) (Or.inr ⟨by rfl, rfl⟩) (by assumption) ?_
          (try simp only [Act.put])
          refine wpAnyH_take (i := 10) (oi := _) (v := undef) rfl (by kernel_rfl) (by kernel_rfl) (by kernel_rfl) (fun _ _ _ h => h) (Or.inr ⟨by rfl, rfl⟩) (by assumption) ?_
          (try simp only [Act.put])
          refine wpAnyH_ready (rs := [11]) (by kernel_rfl) (by simp) ?_
          refine AllReadyH.cons (o := _) rfl (fun K hK => ?_) ?_
          · go_simp
            refine hK.out _ _ ?_ (fun hHeld => ?_)
            · (try dsimp only)
              first | assumption | (exact HS8.out _ B4.out) | (exact HS8.out _ B5.out)
            clear hK K
            (try simp only [Act.put, List.setIfInBounds_toArray, List.set_cons_zero, List.set_cons_succ])
            refine wpAnyH_take (i := 12) (oi := _) (v := undef) rfl (by kernel_rfl) (by kernel_rfl) (by kernel_rfl) (fun _ _ _ h => h) (Or.inr ⟨by rfl, rfl⟩) (by assumption) ?_
            (try simp only [Act.put])
            refine wpAnyH_take (i := 13) (oi := _) (v := ?_) rfl (by kernel_rfl) (by kernel_rfl) (by kernel_rfl) (fun _ _ _ h => h) (Or.inl ⟨by rfl, ?_⟩) (by assumption) ?_
            rotate_left
            · (intro w hSw; (try dsimp only at hSw); go_simp; all_goals (with_reducible rfl))
            (try simp only [Act.put])
            refine wpAnyH_done (by kernel_rfl) ?_ _
            go_simp
            gi_wp2
            have HYU := Lib.hid (below_to HY2.out ((Below.refl _ Y2)))
            have HQU := Lib.hid (HQY.out.below HYU.out)
            obtain ⟨a0, a1, a2, a3, a4, a5, a6, e0, e1, e2, e3, e4, e5, e6⟩ := seven_cells (show Row Y2 w.heap.size 23 (ints [0, 0, 0, 0, 0, 0, 0]) from HQU.out.r0)
            have b0 := HQU.out.r1.cell 0
            have b1 := HQU.out.r1.free 0
            have b2 := HQU.out.r2.cell 0
            have b3 := HQU.out.r2.free 0
            have b4 := HQU.out.rc.cell 0
            have lw := HQU.out.rc.lt
            refine region_round (S := fun _ => True) (by kernel_rfl) (by kernel_rfl) (fun ⟨_, _, h⟩ => h) trivial (fun hHeld => ?_)
            refine wpAnyH_take (i := 0) (oi := _) (v := ?_) rfl (by kernel_rfl) (by kernel_rfl) (by kernel_rfl) (fun _ _ _ h => h) (Or.inl ⟨by rfl, ?_⟩) (by assumption) ?_
            rotate_left
            · (intro w hSw; (try dsimp only at hSw); go_simp; all_goals (with_reducible rfl))
            (try simp only [Act.put])
            refine wpAnyH_ready (rs := [1, 2]) (by kernel_rfl) (by simp) ?_
            refine AllReadyH.cons (o := _) rfl (fun K hK => ?_) ?_
            · go_simp
              refine hK.out _ _ ?_ (fun hHeld => ?_)
              · (try dsimp only)
                all_goals trivial
              clear hK K
              (try simp only [Act.put, List.setIfInBounds_toArray, List.set_cons_zero, List.set_cons_succ])
              refine wpAnyH_ready (rs := [2]) (by kernel_rfl) (by simp) ?_
              refine AllReadyH.cons (o := _) rfl (fun K hK => ?_) ?_
              · go_simp
                refine hK.out _ _ ?_ (fun hHeld => ?_)
                · (try dsimp only)
                  all_goals trivial
                clear hK K
                (try simp only [Act.put, List.setIfInBounds_toArray, List.set_cons_zero, List.set_cons_succ])
                refine wpAnyH_ready (rs := [3]) (by kernel_rfl) (by simp) ?_
                refine AllReadyH.cons (o := _) rfl (fun K hK => ?_) ?_
                · go_simp
                  refine hK.out _ _ ?_ (fun hHeld => ?_)
                  · (try dsimp only)
                    all_goals trivial
                  clear hK K
                  (try simp only [Act.put, List.setIfInBounds_toArray, List.set_cons_zero, List.set_cons_succ])
                  refine wpAnyH_ready (rs := [4]) (by kernel_rfl) (by simp) ?_
                  refine AllReadyH.cons (o := _) rfl (fun K hK => ?_) ?_
                  · go_simp
                    refine hK.out _ _ ?_ (fun hHeld => ?_)
                    · (try dsimp only)
                      all_goals trivial
                    clear hK K
                    (try simp only [Act.put, List.setIfInBounds_toArray, List.set_cons_zero, List.set_cons_succ])
                    refine wpAnyH_done (by kernel_rfl) ?_ _
                    gi_wp2
                    obtain ⟨g1, g2, g3, g4, g5, g6⟩ := parse_ret HQY.out HYU.out
                    generalize hV : (((((((((Y2.setCell ⟨w.heap.size, 0, none⟩ (.int .i64 0)).setCell ⟨w.heap.size, 1, none⟩ (.int .i64 0)).setCell ⟨w.heap.size, 2, none⟩ (.int .i64 0)).setCell ⟨w.heap.size, 3, none⟩ (.int .i64 0)).setCell ⟨w.heap.size, 4, none⟩ (.int .i64 0)).setCell ⟨w.heap.size, 5, none⟩ (.int .i64 0)).setCell ⟨w.heap.size, 6, none⟩ (.int .i64 0)).setCell ⟨w.heap.size + 1, 0, none⟩ (.int .i64 (n : Int))).setCell ⟨w.heap.size + 1 + 1, 0, none⟩ (.int .i64 60)) = V at g1 g2 g3 g4 g5 g6 ⊢
                    clear hV
                    first | exact ⟨g1.drew.drew, (by first | rfl | trivial), n, HBD.out, g2, g3, g4, g5.drew.drew, g6⟩ | exact ⟨g1.drew, (by first | rfl | trivial), n, HBD.out, g2, g3, g4, g5.drew, g6⟩
                  exact AllReadyH.nil
                exact AllReadyH.nil
              exact AllReadyH.nil
            refine AllReadyH.cons (o := _) rfl (fun K hK => ?_) ?_
            · go_simp
              refine hK.out _ _ ?_ (fun hHeld => ?_)
              · (try dsimp only)
                all_goals trivial
              clear hK K
              (try simp only [Act.put, List.setIfInBounds_toArray, List.set_cons_zero, List.set_cons_succ])
              refine wpAnyH_ready (rs := [1]) (by kernel_rfl) (by simp) ?_
              refine AllReadyH.cons (o := _) rfl (fun K hK => ?_) ?_
              · go_simp
                refine hK.out _ _ ?_ (fun hHeld => ?_)
                · (try dsimp only)
                  all_goals trivial
                clear hK K
                (try simp only [Act.put, List.setIfInBounds_toArray, List.set_cons_zero, List.set_cons_succ])
                refine wpAnyH_ready (rs := [3]) (by kernel_rfl) (by simp) ?_
                refine AllReadyH.cons (o := _) rfl (fun K hK => ?_) ?_
                · go_simp
                  refine hK.out _ _ ?_ (fun hHeld => ?_)
                  · (try dsimp only)
                    all_goals trivial
                  clear hK K
                  (try simp only [Act.put, List.setIfInBounds_toArray, List.set_cons_zero, List.set_cons_succ])
                  refine wpAnyH_ready (rs := [4]) (by kernel_rfl) (by simp) ?_
                  refine AllReadyH.cons (o := _) rfl (fun K hK => ?_) ?_
                  · go_simp
                    refine hK.out _ _ ?_ (fun hHeld => ?_)
                    · (try dsimp only)
                      all_goals trivial
                    clear hK K
                    (try simp only [Act.put, List.setIfInBounds_toArray, List.set_cons_zero, List.set_cons_succ])
                    refine wpAnyH_done (by kernel_rfl) ?_ _
                    gi_wp2
                    obtain ⟨g1, g2, g3, g4, g5, g6⟩ := parse_ret HQY.out HYU.out
                    generalize hV : (((((((((Y2.setCell ⟨w.heap.size, 0, none⟩ (.int .i64 0)).setCell ⟨w.heap.size, 1, none⟩ (.int .i64 0)).setCell ⟨w.heap.size, 2, none⟩ (.int .i64 0)).setCell ⟨w.heap.size, 3, none⟩ (.int .i64 0)).setCell ⟨w.heap.size, 4, none⟩ (.int .i64 0)).setCell ⟨w.heap.size, 5, none⟩ (.int .i64 0)).setCell ⟨w.heap.size, 6, none⟩ (.int .i64 0)).setCell ⟨w.heap.size + 1, 0, none⟩ (.int .i64 (n : Int))).setCell ⟨w.heap.size + 1 + 1, 0, none⟩ (.int .i64 60)) = V at g1 g2 g3 g4 g5 g6 ⊢
                    clear hV
                    first | exact ⟨g1.drew.drew, (by first | rfl | trivial), n, HBD.out, g2, g3, g4, g5.drew.drew, g6⟩ | exact ⟨g1.drew, (by first | rfl | trivial), n, HBD.out, g2, g3, g4, g5.drew, g6⟩
                  exact AllReadyH.nil
                exact AllReadyH.nil
              exact AllReadyH.nil
            exact AllReadyH.nil
          exact AllReadyH.nil
        exact AllReadyH.nil
      · have hD0 : D ≠ 0 := fun h => hok (.inl h)
        have hH0 : H ≠ 0 := fun h => hok (.inr h)
        have hb0 : (decide (D ≠ 0) && decide (H ≠ 0)) = true := by simp [hD0, hH0]
        rw [hb0] at HG0
        have HG := Lib.hid HG0
        have hc65 := hc64 hD0
        clear hc64 HG0 hb0 hok
        by_cases hcf : c < f
        · have t2 : decide ((c : Int) < (f : Int)) = true := decide_eq_true (by omega)
          have t3 : (c : Int) < (f : Int) := by omega
          have HBD := Lib.hid (HEQ.out.trans (HBD0.out (.inr (.inr (.inl hcf)))))
          clear HBD0 HOK hD0 hH0
          gi_wp2_with ((try refine ⟨trivial, ?_⟩); gi_at_call 48; ((with_reducible refine CallsIn.mono (CallsIn.inRound l' (callsIn_wide.2 HG.out)) ?_); rintro e' w4 ⟨rfl, hb4⟩; have H4 := Lib.hid hb4; clear hb4))
          obtain ⟨Y2, hY2⟩ : ∃ Y2, w4.alloc (.cells #[.int .i64 (D : Int), .int .i64 (H : Int)] 63) = Y2 := ⟨_, rfl⟩
          have HGR : Hid (Row Y2 w4.heap.size 63 #[.int .i64 (D : Int), .int .i64 (H : Int)]) := Lib.hid (by rw [← hY2]; exact Row.new _ _ _)
          have HY2 : Hid (Below Y.heap.size Y Y2) := Lib.hid (by rw [← hY2]; exact H4.out.alloc H4.out.size _)
          rw [hY2]
          clear hY2
          obtain ⟨G, hG⟩ : ∃ G, w4.heap.size = G := ⟨_, rfl⟩
          rw [hG] at HGR ⊢
          have HTY : Hid (Tabs Y2) := Lib.hid (HT.out.next (below_to HQY.out.b HY2.out))
          have HQ2 := Lib.hid (HQY.out.below HY2.out)
          have HS8 : Hid (∀ u, Below Y2.heap.size Y2 u → (u.cell? ⟨G, 0, none⟩ = some (.int .i64 (D : Int)) ∧ u.cell? ⟨G, 1, none⟩ = some (.int .i64 (H : Int)) ∧ u.cell? ⟨w.heap.size + 1 + 1 + 1 + 1 + 1, 0, none⟩ = some (.int .i64 (f : Int)) ∧ u.cell? ⟨w.heap.size + 1 + 1 + 1, 0, none⟩ = some (.int .i64 y0) ∧ u.cell? ⟨w.heap.size + 1 + 1 + 1, 1, none⟩ = some (.int .i64 y1) ∧ u.cell? ⟨w.heap.size + 1 + 1 + 1, 2, none⟩ = some (.int .i64 y2) ∧ u.cell? ⟨w.heap.size + 1 + 1 + 1, 3, none⟩ = some (.int .i64 y3) ∧ u.cell? ⟨w.heap.size + 1 + 1 + 1, 4, none⟩ = some (.int .i64 y4) ∧ u.cell? ⟨w.heap.size + 1 + 1 + 1, 5, none⟩ = some (.int .i64 y5) ∧ u.cell? ⟨w.heap.size + 1 + 1 + 1, 6, none⟩ = some (.int .i64 y6))) := Lib.hid (fun u hu => by
            have hq := HQ2.out.below hu
            have hg := HGR.out.below hu HGR.out.lt
            obtain ⟨c0, c1, c2, c3, c4, c5, c6, -⟩ := seven_cells (show Row u (w.heap.size + 1 + 1 + 1) 23 (ints [y0, y1, y2, y3, y4, y5, y6]) from hq.rw)
            exact ⟨hg.cell 0, hg.cell 1, hq.rf.cell 0, c0, c1, c2, c3, c4, c5, c6⟩)
          have HGL : Hid (X.heap.size ≤ G) := Lib.hid (by have := H4.out.size; have := HQY.out.s; rw [← hG]; omega)
          clear hG
          refine region_round (S := fun u => (u.cell? ⟨G, 0, none⟩ = some (.int .i64 (D : Int)) ∧ u.cell? ⟨G, 1, none⟩ = some (.int .i64 (H : Int)) ∧ u.cell? ⟨w.heap.size + 1 + 1 + 1 + 1 + 1, 0, none⟩ = some (.int .i64 (f : Int)) ∧ u.cell? ⟨w.heap.size + 1 + 1 + 1, 0, none⟩ = some (.int .i64 y0) ∧ u.cell? ⟨w.heap.size + 1 + 1 + 1, 1, none⟩ = some (.int .i64 y1) ∧ u.cell? ⟨w.heap.size + 1 + 1 + 1, 2, none⟩ = some (.int .i64 y2) ∧ u.cell? ⟨w.heap.size + 1 + 1 + 1, 3, none⟩ = some (.int .i64 y3) ∧ u.cell? ⟨w.heap.size + 1 + 1 + 1, 4, none⟩ = some (.int .i64 y4) ∧ u.cell? ⟨w.heap.size + 1 + 1 + 1, 5, none⟩ = some (.int .i64 y5) ∧ u.cell? ⟨w.heap.size + 1 + 1 + 1, 6, none⟩ = some (.int .i64 y6))) (by kernel_rfl) (by kernel_rfl) (fun ⟨_, _, h⟩ => h) (HS8.out _ (Below.refl _ _).drew) (fun hHeld => ?_)
          refine wpAnyH_take (i := 0) (oi := _) (v := ?_) rfl (by kernel_rfl) (by kernel_rfl) (by kernel_rfl) (fun _ _ _ h => h) (Or.inl ⟨by rfl, ?_⟩) (by assumption) ?_
          rotate_left
          · (intro w hSw; (try dsimp only at hSw); go_simp; all_goals (with_reducible rfl))
          (try simp only [Act.put])
          refine wpAnyH_take (i := 1) (oi := _) (v := ?_) rfl (by kernel_rfl) (by kernel_rfl) (by kernel_rfl) (fun _ _ _ h => h) (Or.inl ⟨by rfl, ?_⟩) (by assumption) ?_
          rotate_left
          · (intro w hSw; (try dsimp only at hSw); go_simp; all_goals (with_reducible rfl))
          (try simp only [Act.put])
          refine wpAnyH_take (i := 2) (oi := _) (v := ?_) rfl (by kernel_rfl) (by kernel_rfl) (by kernel_rfl) (fun _ _ _ h => h) (Or.inl ⟨by rfl, ?_⟩) (by assumption) ?_
          rotate_left
          · (intro w hSw; (try dsimp only at hSw); go_simp; all_goals (with_reducible rfl))
          (try simp only [Act.put])
          refine wpAnyH_take (i := 3) (oi := _) (v := ?_) rfl (by kernel_rfl) (by kernel_rfl) (by kernel_rfl) (fun _ _ _ h => h) (Or.inl ⟨by rfl, ?_⟩) (by assumption) ?_
          rotate_left
          · (intro w hSw; (try dsimp only at hSw); go_simp; all_goals (with_reducible rfl))
          (try simp only [Act.put])
          refine wpAnyH_take (i := 5) (oi := _) (v := ?_) rfl (by kernel_rfl) (by kernel_rfl) (by kernel_rfl) (fun _ _ _ h => h) (Or.inl ⟨by rfl, ?_⟩) (by assumption) ?_
          rotate_left
          · (intro w hSw; (try dsimp only at hSw); go_simp; all_goals (with_reducible rfl))
          (try simp only [Act.put])
          refine wpAnyH_ready (rs := [4]) (by kernel_rfl) (by simp) ?_
          refine AllReadyH.cons (o := _) rfl (fun K hK => ?_) ?_
          · go_simp
            (go_at_call 49; ((with_reducible refine Calls.mono (HFST.out _ (HTY.out.next (Below.refl _ _).drew)) ?_); rintro e v1 ⟨rfl, b4⟩))
            have B4 := Lib.hid (show Below Y2.heap.size Y2 v1 from (Below.refl _ Y2).drew.trans b4)
            clear b4
            refine hK.out _ _ ?_ (fun hHeld => ?_)
            · (try dsimp only)
              first | assumption | (exact HS8.out _ B4.out) | (exact HS8.out _ B5.out)
            clear hK K
            (try simp only [Act.put, List.setIfInBounds_toArray, List.set_cons_zero, List.set_cons_succ])
            refine wpAnyH_take (i := 6) (oi := _) (v := ?_) rfl (by kernel_rfl) (by kernel_rfl) (by kernel_rfl) (fun _ _ _ h => h) (Or.inl ⟨by rfl, ?_⟩) (by assumption) ?_
            rotate_left
            · (intro w hSw; (try dsimp only at hSw); go_simp; all_goals (with_reducible rfl))
            (try simp only [Act.put])
            refine wpAnyH_take (i := 7) (oi := _) (v := ?_) rfl (by kernel_rfl) (by kernel_rfl) (by kernel_rfl) (fun _ _ _ h => h) (Or.inl ⟨by rfl, ?_⟩) (by assumption) ?_
            rotate_left
            · (intro w hSw; (try dsimp only at hSw); go_simp; all_goals (with_reducible rfl))
            (try simp only [Act.put])
            refine wpAnyH_take (i := 8) (oi := _) (v := ?_) rfl (by kernel_rfl) (by kernel_rfl) (by kernel_rfl) (fun _ _ _ h => h) (Or.inl ⟨by rfl, ?_⟩) (by assumption) ?_
            rotate_left
            · (intro w hSw; (try dsimp only at hSw); go_simp; all_goals (with_reducible rfl))
            (try simp only [Act.put])
            refine wpAnyH_take (i := 9) (oi := _) (v := undef) rfl (by kernel_rfl) (by kernel_rfl) (by kernel_rfl) (fun _ _ _ h => h) (Or.inr ⟨by rfl, rfl⟩) (by assumption) ?_
            (try simp only [Act.put])
            refine wpAnyH_take (i := 10) (oi := _) (v := undef) rfl (by kernel_rfl) (by kernel_rfl) (by kernel_rfl) (fun _ _ _ h => h) (Or.inr ⟨by rfl, rfl⟩) (by assumption) ?_
            (try simp only [Act.put])
            refine wpAnyH_ready (rs := [11]) (by kernel_rfl) (by simp) ?_
            refine AllReadyH.cons (o := _) rfl (fun K hK => ?_) ?_
            · go_simp
              refine hK.out _ _ ?_ (fun hHeld => ?_)
              · (try dsimp only)
                first | assumption | (exact HS8.out _ B4.out) | (exact HS8.out _ B5.out)
              clear hK K
              (try simp only [Act.put, List.setIfInBounds_toArray, List.set_cons_zero, List.set_cons_succ])
              refine wpAnyH_take (i := 12) (oi := _) (v := undef) rfl (by kernel_rfl) (by kernel_rfl) (by kernel_rfl) (fun _ _ _ h => h) (Or.inr ⟨by rfl, rfl⟩) (by assumption) ?_
              (try simp only [Act.put])
              refine wpAnyH_take (i := 13) (oi := _) (v := ?_) rfl (by kernel_rfl) (by kernel_rfl) (by kernel_rfl) (fun _ _ _ h => h) (Or.inl ⟨by rfl, ?_⟩) (by assumption) ?_
              rotate_left
              · (intro w hSw; (try dsimp only at hSw); go_simp; all_goals (with_reducible rfl))
              (try simp only [Act.put])
              refine wpAnyH_done (by kernel_rfl) ?_ _
              go_simp
              gi_wp2
              have HYU := Lib.hid (below_to HY2.out (B4.out))
              have HQU := Lib.hid (HQY.out.below HYU.out)
              obtain ⟨a0, a1, a2, a3, a4, a5, a6, e0, e1, e2, e3, e4, e5, e6⟩ := seven_cells (show Row v1 w.heap.size 23 (ints [0, 0, 0, 0, 0, 0, 0]) from HQU.out.r0)
              have b0 := HQU.out.r1.cell 0
              have b1 := HQU.out.r1.free 0
              have b2 := HQU.out.r2.cell 0
              have b3 := HQU.out.r2.free 0
              have b4 := HQU.out.rc.cell 0
              have lw := HQU.out.rc.lt
              refine region_round (S := fun _ => True) (by kernel_rfl) (by kernel_rfl) (fun ⟨_, _, h⟩ => h) trivial (fun hHeld => ?_)
              refine wpAnyH_take (i := 0) (oi := _) (v := ?_) rfl (by kernel_rfl) (by kernel_rfl) (by kernel_rfl) (fun _ _ _ h => h) (Or.inl ⟨by rfl, ?_⟩) (by assumption) ?_
              rotate_left
              · (intro w hSw; (try dsimp only at hSw); go_simp; all_goals (with_reducible rfl))
              (try simp only [Act.put])
              refine wpAnyH_ready (rs := [1, 2]) (by kernel_rfl) (by simp) ?_
              refine AllReadyH.cons (o := _) rfl (fun K hK => ?_) ?_
              · go_simp
                refine hK.out _ _ ?_ (fun hHeld => ?_)
                · (try dsimp only)
                  all_goals trivial
                clear hK K
                (try simp only [Act.put, List.setIfInBounds_toArray, List.set_cons_zero, List.set_cons_succ])
                refine wpAnyH_ready (rs := [2]) (by kernel_rfl) (by simp) ?_
                refine AllReadyH.cons (o := _) rfl (fun K hK => ?_) ?_
                · go_simp
                  refine hK.out _ _ ?_ (fun hHeld => ?_)
                  · (try dsimp only)
                    all_goals trivial
                  clear hK K
                  (try simp only [Act.put, List.setIfInBounds_toArray, List.set_cons_zero, List.set_cons_succ])
                  refine wpAnyH_ready (rs := [3]) (by kernel_rfl) (by simp) ?_
                  refine AllReadyH.cons (o := _) rfl (fun K hK => ?_) ?_
                  · go_simp
                    refine hK.out _ _ ?_ (fun hHeld => ?_)
                    · (try dsimp only)
                      all_goals trivial
                    clear hK K
                    (try simp only [Act.put, List.setIfInBounds_toArray, List.set_cons_zero, List.set_cons_succ])
                    refine wpAnyH_ready (rs := [4]) (by kernel_rfl) (by simp) ?_
                    refine AllReadyH.cons (o := _) rfl (fun K hK => ?_) ?_
                    · go_simp
                      refine hK.out _ _ ?_ (fun hHeld => ?_)
                      · (try dsimp only)
                        all_goals trivial
                      clear hK K
                      (try simp only [Act.put, List.setIfInBounds_toArray, List.set_cons_zero, List.set_cons_succ])
                      refine wpAnyH_done (by kernel_rfl) ?_ _
                      gi_wp2
                      obtain ⟨g1, g2, g3, g4, g5, g6⟩ := parse_ret HQY.out HYU.out
                      generalize hV : (((((((((v1.setCell ⟨w.heap.size, 0, none⟩ (.int .i64 0)).setCell ⟨w.heap.size, 1, none⟩ (.int .i64 0)).setCell ⟨w.heap.size, 2, none⟩ (.int .i64 0)).setCell ⟨w.heap.size, 3, none⟩ (.int .i64 0)).setCell ⟨w.heap.size, 4, none⟩ (.int .i64 0)).setCell ⟨w.heap.size, 5, none⟩ (.int .i64 0)).setCell ⟨w.heap.size, 6, none⟩ (.int .i64 0)).setCell ⟨w.heap.size + 1, 0, none⟩ (.int .i64 (n : Int))).setCell ⟨w.heap.size + 1 + 1, 0, none⟩ (.int .i64 60)) = V at g1 g2 g3 g4 g5 g6 ⊢
                      clear hV
                      first | exact ⟨g1.drew.drew, (by first | rfl | trivial), n, HBD.out, g2, g3, g4, g5.drew.drew, g6⟩ | exact ⟨g1.drew, (by first | rfl | trivial), n, HBD.out, g2, g3, g4, g5.drew, g6⟩
                    exact AllReadyH.nil
                  exact AllReadyH.nil
                exact AllReadyH.nil
              refine AllReadyH.cons (o := _) rfl (fun K hK => ?_) ?_
              · go_simp
                refine hK.out _ _ ?_ (fun hHeld => ?_)
                · (try dsimp only)
                  all_goals trivial
                clear hK K
                (try simp only [Act.put, List.setIfInBounds_toArray, List.set_cons_zero, List.set_cons_succ])
                refine wpAnyH_ready (rs := [1]) (by kernel_rfl) (by simp) ?_
                refine AllReadyH.cons (o := _) rfl (fun K hK => ?_) ?_
                · go_simp
                  refine hK.out _ _ ?_ (fun hHeld => ?_)
                  · (try dsimp only)
                    all_goals trivial
                  clear hK K
                  (try simp only [Act.put, List.setIfInBounds_toArray, List.set_cons_zero, List.set_cons_succ])
                  refine wpAnyH_ready (rs := [3]) (by kernel_rfl) (by simp) ?_
                  refine AllReadyH.cons (o := _) rfl (fun K hK => ?_) ?_
                  · go_simp
                    refine hK.out _ _ ?_ (fun hHeld => ?_)
                    · (try dsimp only)
                      all_goals trivial
                    clear hK K
                    (try simp only [Act.put, List.setIfInBounds_toArray, List.set_cons_zero, List.set_cons_succ])
                    refine wpAnyH_ready (rs := [4]) (by kernel_rfl) (by simp) ?_
                    refine AllReadyH.cons (o := _) rfl (fun K hK => ?_) ?_
                    · go_simp
                      refine hK.out _ _ ?_ (fun hHeld => ?_)
                      · (try dsimp only)
                        all_goals trivial
                      clear hK K
                      (try simp only [Act.put, List.setIfInBounds_toArray, List.set_cons_zero, List.set_cons_succ])
                      refine wpAnyH_done (by kernel_rfl) ?_ _
                      gi_wp2
                      obtain ⟨g1, g2, g3, g4, g5, g6⟩ := parse_ret HQY.out HYU.out
                      generalize hV : (((((((((v1.setCell ⟨w.heap.size, 0, none⟩ (.int .i64 0)).setCell ⟨w.heap.size, 1, none⟩ (.int .i64 0)).setCell ⟨w.heap.size, 2, none⟩ (.int .i64 0)).setCell ⟨w.heap.size, 3, none⟩ (.int .i64 0)).setCell ⟨w.heap.size, 4, none⟩ (.int .i64 0)).setCell ⟨w.heap.size, 5, none⟩ (.int .i64 0)).setCell ⟨w.heap.size, 6, none⟩ (.int .i64 0)).setCell ⟨w.heap.size + 1, 0, none⟩ (.int .i64 (n : Int))).setCell ⟨w.heap.size + 1 + 1, 0, none⟩ (.int .i64 60)) = V at g1 g2 g3 g4 g5 g6 ⊢
                      clear hV
                      first | exact ⟨g1.drew.drew, (by first | rfl | trivial), n, HBD.out, g2, g3, g4, g5.drew.drew, g6⟩ | exact ⟨g1.drew, (by first | rfl | trivial), n, HBD.out, g2, g3, g4, g5.drew, g6⟩
                    exact AllReadyH.nil
                  exact AllReadyH.nil
                exact AllReadyH.nil
              exact AllReadyH.nil
            exact AllReadyH.nil
          exact AllReadyH.nil
        · have t2 : decide ((c : Int) < (f : Int)) = false := decide_eq_false (by omega)
          have t3 : ¬ (c : Int) < (f : Int) := by omega
          cases nw with
          | false =>
            have HBD := Lib.hid (HEQ.out.trans (HBD0.out (.inr (.inr (.inr rfl)))))
            clear HBD0 HOK hD0 hH0
            gi_wp2_with ((try refine ⟨trivial, ?_⟩); gi_at_call 48; ((with_reducible refine CallsIn.mono (CallsIn.inRound l' (callsIn_wide.2 HG.out)) ?_); rintro e' w4 ⟨rfl, hb4⟩; have H4 := Lib.hid hb4; clear hb4))
            obtain ⟨Y2, hY2⟩ : ∃ Y2, w4.alloc (.cells #[.int .i64 (D : Int), .int .i64 (H : Int)] 63) = Y2 := ⟨_, rfl⟩
            have HGR : Hid (Row Y2 w4.heap.size 63 #[.int .i64 (D : Int), .int .i64 (H : Int)]) := Lib.hid (by rw [← hY2]; exact Row.new _ _ _)
            have HY2 : Hid (Below Y.heap.size Y Y2) := Lib.hid (by rw [← hY2]; exact H4.out.alloc H4.out.size _)
            rw [hY2]
            clear hY2
            obtain ⟨G, hG⟩ : ∃ G, w4.heap.size = G := ⟨_, rfl⟩
            rw [hG] at HGR ⊢
            have HTY : Hid (Tabs Y2) := Lib.hid (HT.out.next (below_to HQY.out.b HY2.out))
            have HQ2 := Lib.hid (HQY.out.below HY2.out)
            have HS8 : Hid (∀ u, Below Y2.heap.size Y2 u → (u.cell? ⟨G, 0, none⟩ = some (.int .i64 (D : Int)) ∧ u.cell? ⟨G, 1, none⟩ = some (.int .i64 (H : Int)) ∧ u.cell? ⟨w.heap.size + 1 + 1 + 1 + 1 + 1, 0, none⟩ = some (.int .i64 (f : Int)) ∧ u.cell? ⟨w.heap.size + 1 + 1 + 1, 0, none⟩ = some (.int .i64 y0) ∧ u.cell? ⟨w.heap.size + 1 + 1 + 1, 1, none⟩ = some (.int .i64 y1) ∧ u.cell? ⟨w.heap.size + 1 + 1 + 1, 2, none⟩ = some (.int .i64 y2) ∧ u.cell? ⟨w.heap.size + 1 + 1 + 1, 3, none⟩ = some (.int .i64 y3) ∧ u.cell? ⟨w.heap.size + 1 + 1 + 1, 4, none⟩ = some (.int .i64 y4) ∧ u.cell? ⟨w.heap.size + 1 + 1 + 1, 5, none⟩ = some (.int .i64 y5) ∧ u.cell? ⟨w.heap.size + 1 + 1 + 1, 6, none⟩ = some (.int .i64 y6))) := Lib.hid (fun u hu => by
              have hq := HQ2.out.below hu
              have hg := HGR.out.below hu HGR.out.lt
              obtain ⟨c0, c1, c2, c3, c4, c5, c6, -⟩ := seven_cells (show Row u (w.heap.size + 1 + 1 + 1) 23 (ints [y0, y1, y2, y3, y4, y5, y6]) from hq.rw)
              exact ⟨hg.cell 0, hg.cell 1, hq.rf.cell 0, c0, c1, c2, c3, c4, c5, c6⟩)
            have HGL : Hid (X.heap.size ≤ G) := Lib.hid (by have := H4.out.size; have := HQY.out.s; rw [← hG]; omega)
            clear hG
            refine region_round (S := fun u => (u.cell? ⟨G, 0, none⟩ = some (.int .i64 (D : Int)) ∧ u.cell? ⟨G, 1, none⟩ = some (.int .i64 (H : Int)) ∧ u.cell? ⟨w.heap.size + 1 + 1 + 1 + 1 + 1, 0, none⟩ = some (.int .i64 (f : Int)) ∧ u.cell? ⟨w.heap.size + 1 + 1 + 1, 0, none⟩ = some (.int .i64 y0) ∧ u.cell? ⟨w.heap.size + 1 + 1 + 1, 1, none⟩ = some (.int .i64 y1) ∧ u.cell? ⟨w.heap.size + 1 + 1 + 1, 2, none⟩ = some (.int .i64 y2) ∧ u.cell? ⟨w.heap.size + 1 + 1 + 1, 3, none⟩ = some (.int .i64 y3) ∧ u.cell? ⟨w.heap.size + 1 + 1 + 1, 4, none⟩ = some (.int .i64 y4) ∧ u.cell? ⟨w.heap.size + 1 + 1 + 1, 5, none⟩ = some (.int .i64 y5) ∧ u.cell? ⟨w.heap.size + 1 + 1 + 1, 6, none⟩ = some (.int .i64 y6))) (by kernel_rfl) (by kernel_rfl) (fun ⟨_, _, h⟩ => h) (HS8.out _ (Below.refl _ _).drew) (fun hHeld => ?_)
            refine wpAnyH_take (i := 0) (oi := _) (v := ?_) rfl (by kernel_rfl) (by kernel_rfl) (by kernel_rfl) (fun _ _ _ h => h) (Or.inl ⟨by rfl, ?_⟩) (by assumption) ?_
            rotate_left
            · (intro w hSw; (try dsimp only at hSw); go_simp; all_goals (with_reducible rfl))
            (try simp only [Act.put])
            refine wpAnyH_take (i := 1) (oi := _) (v := ?_) rfl (by kernel_rfl) (by kernel_rfl) (by kernel_rfl) (fun _ _ _ h => h) (Or.inl ⟨by rfl, ?_⟩) (by assumption) ?_
            rotate_left
            · (intro w hSw; (try dsimp only at hSw); go_simp; all_goals (with_reducible rfl))
            (try simp only [Act.put])
            refine wpAnyH_take (i := 2) (oi := _) (v := ?_) rfl (by kernel_rfl) (by kernel_rfl) (by kernel_rfl) (fun _ _ _ h => h) (Or.inl ⟨by rfl, ?_⟩) (by assumption) ?_
            rotate_left
            · (intro w hSw; (try dsimp only at hSw); go_simp; all_goals (with_reducible rfl))
            (try simp only [Act.put])
            refine wpAnyH_take (i := 3) (oi := _) (v := ?_) rfl (by kernel_rfl) (by kernel_rfl) (by kernel_rfl) (fun _ _ _ h => h) (Or.inl ⟨by rfl, ?_⟩) (by assumption) ?_
            rotate_left
            · (intro w hSw; (try dsimp only at hSw); go_simp; all_goals (with_reducible rfl))
            (try simp only [Act.put])
            refine wpAnyH_take (i := 5) (oi := _) (v := ?_) rfl (by kernel_rfl) (by kernel_rfl) (by kernel_rfl) (fun _ _ _ h => h) (Or.inl ⟨by rfl, ?_⟩) (by assumption) ?_
            rotate_left
            · (intro w hSw; (try dsimp only at hSw); go_simp; all_goals (with_reducible rfl))
            (try simp only [Act.put])
            refine wpAnyH_ready (rs := [4]) (by kernel_rfl) (by simp) ?_
            refine AllReadyH.cons (o := _) rfl (fun K hK => ?_) ?_
            · go_simp
              (go_at_call 49; ((with_reducible refine Calls.mono (HFST.out _ (HTY.out.next (Below.refl _ _).drew)) ?_); rintro e v1 ⟨rfl, b4⟩))
              have B4 := Lib.hid (show Below Y2.heap.size Y2 v1 from (Below.refl _ Y2).drew.trans b4)
              clear b4
              refine hK.out _ _ ?_ (fun hHeld => ?_)
              · (try dsimp only)
                first | assumption | (exact HS8.out _ B4.out) | (exact HS8.out _ B5.out)
              clear hK K
              (try simp only [Act.put, List.setIfInBounds_toArray, List.set_cons_zero, List.set_cons_succ])
              refine wpAnyH_take (i := 6) (oi := _) (v := ?_) rfl (by kernel_rfl) (by kernel_rfl) (by kernel_rfl) (fun _ _ _ h => h) (Or.inl ⟨by rfl, ?_⟩) (by assumption) ?_
              rotate_left
              · (intro w hSw; (try dsimp only at hSw); go_simp; all_goals (with_reducible rfl))
              (try simp only [Act.put])
              refine wpAnyH_take (i := 7) (oi := _) (v := ?_) rfl (by kernel_rfl) (by kernel_rfl) (by kernel_rfl) (fun _ _ _ h => h) (Or.inl ⟨by rfl, ?_⟩) (by assumption) ?_
              rotate_left
              · (intro w hSw; (try dsimp only at hSw); go_simp; all_goals (with_reducible rfl))
              (try simp only [Act.put])
              refine wpAnyH_take (i := 8) (oi := _) (v := ?_) rfl (by kernel_rfl) (by kernel_rfl) (by kernel_rfl) (fun _ _ _ h => h) (Or.inl ⟨by rfl, ?_⟩) (by assumption) ?_
              rotate_left
              · (intro w hSw; (try dsimp only at hSw); go_simp; all_goals (with_reducible rfl))
              (try simp only [Act.put])
              refine wpAnyH_take (i := 9) (oi := _) (v := ?_) rfl (by kernel_rfl) (by kernel_rfl) (by kernel_rfl) (fun _ _ _ h => h) (Or.inl ⟨by rfl, ?_⟩) (by assumption) ?_
              rotate_left
              · (intro w hSw; (try dsimp only at hSw); go_simp; all_goals (with_reducible rfl))
              (try simp only [Act.put])
              refine wpAnyH_take (i := 10) (oi := _) (v := ?_) rfl (by kernel_rfl) (by kernel_rfl) (by kernel_rfl) (fun _ _ _ h => h) (Or.inl ⟨by rfl, ?_⟩) (by assumption) ?_
              rotate_left
              · (intro w hSw; (try dsimp only at hSw); go_simp; all_goals (with_reducible rfl))
              (try simp only [Act.put])
              refine wpAnyH_ready (rs := [11]) (by kernel_rfl) (by simp) ?_
              refine AllReadyH.cons (o := _) rfl (fun K hK => ?_) ?_
              · go_simp
                (go_at_call 50; ((with_reducible refine Calls.mono (HNEW.out _) ?_); rintro e v2 ⟨rfl, b5⟩))
                have B5 := Lib.hid (below_to B4.out b5)
                clear b5
                refine hK.out _ _ ?_ (fun hHeld => ?_)
                · (try dsimp only)
                  first | assumption | (exact HS8.out _ B4.out) | (exact HS8.out _ B5.out)
                clear hK K
                (try simp only [Act.put, List.setIfInBounds_toArray, List.set_cons_zero, List.set_cons_succ])
                refine wpAnyH_take (i := 12) (oi := _) (v := ?_) rfl (by kernel_rfl) (by kernel_rfl) (by kernel_rfl) (fun _ _ _ h => h) (Or.inl ⟨by rfl, ?_⟩) (by assumption) ?_
                rotate_left
                · (intro w hSw; (try dsimp only at hSw); go_simp; all_goals (with_reducible rfl))
                (try simp only [Act.put])
                refine wpAnyH_take (i := 13) (oi := _) (v := ?_) rfl (by kernel_rfl) (by kernel_rfl) (by kernel_rfl) (fun _ _ _ h => h) (Or.inl ⟨by rfl, ?_⟩) (by assumption) ?_
                rotate_left
                · (intro w hSw; (try dsimp only at hSw); go_simp; all_goals (with_reducible rfl))
                (try simp only [Act.put])
                refine wpAnyH_done (by kernel_rfl) ?_ _
                go_simp
                gi_wp2
                have HYU := Lib.hid (below_to HY2.out (B5.out))
                have HQU := Lib.hid (HQY.out.below HYU.out)
                obtain ⟨a0, a1, a2, a3, a4, a5, a6, e0, e1, e2, e3, e4, e5, e6⟩ := seven_cells (show Row v2 w.heap.size 23 (ints [0, 0, 0, 0, 0, 0, 0]) from HQU.out.r0)
                have b0 := HQU.out.r1.cell 0
                have b1 := HQU.out.r1.free 0
                have b2 := HQU.out.r2.cell 0
                have b3 := HQU.out.r2.free 0
                have b4 := HQU.out.rc.cell 0
                have lw := HQU.out.rc.lt
                refine region_round (S := fun _ => True) (by kernel_rfl) (by kernel_rfl) (fun ⟨_, _, h⟩ => h) trivial (fun hHeld => ?_)
                refine wpAnyH_take (i := 0) (oi := _) (v := ?_) rfl (by kernel_rfl) (by kernel_rfl) (by kernel_rfl) (fun _ _ _ h => h) (Or.inl ⟨by rfl, ?_⟩) (by assumption) ?_
                rotate_left
                · (intro w hSw; (try dsimp only at hSw); go_simp; all_goals (with_reducible rfl))
                (try simp only [Act.put])
                refine wpAnyH_ready (rs := [1, 2]) (by kernel_rfl) (by simp) ?_
                refine AllReadyH.cons (o := _) rfl (fun K hK => ?_) ?_
                · go_simp
                  refine hK.out _ _ ?_ (fun hHeld => ?_)
                  · (try dsimp only)
                    all_goals trivial
                  clear hK K
                  (try simp only [Act.put, List.setIfInBounds_toArray, List.set_cons_zero, List.set_cons_succ])
                  refine wpAnyH_ready (rs := [2]) (by kernel_rfl) (by simp) ?_
                  refine AllReadyH.cons (o := _) rfl (fun K hK => ?_) ?_
                  · go_simp
                    refine hK.out _ _ ?_ (fun hHeld => ?_)
                    · (try dsimp only)
                      all_goals trivial
                    clear hK K
                    (try simp only [Act.put, List.setIfInBounds_toArray, List.set_cons_zero, List.set_cons_succ])
                    refine wpAnyH_ready (rs := [3]) (by kernel_rfl) (by simp) ?_
                    refine AllReadyH.cons (o := _) rfl (fun K hK => ?_) ?_
                    · go_simp
                      refine hK.out _ _ ?_ (fun hHeld => ?_)
                      · (try dsimp only)
                        all_goals trivial
                      clear hK K
                      (try simp only [Act.put, List.setIfInBounds_toArray, List.set_cons_zero, List.set_cons_succ])
                      refine wpAnyH_ready (rs := [4]) (by kernel_rfl) (by simp) ?_
                      refine AllReadyH.cons (o := _) rfl (fun K hK => ?_) ?_
                      · go_simp
                        refine hK.out _ _ ?_ (fun hHeld => ?_)
                        · (try dsimp only)
                          all_goals trivial
                        clear hK K
                        (try simp only [Act.put, List.setIfInBounds_toArray, List.set_cons_zero, List.set_cons_succ])
                        refine wpAnyH_done (by kernel_rfl) ?_ _
                        gi_wp2
                        obtain ⟨g1, g2, g3, g4, g5, g6⟩ := parse_ret HQY.out HYU.out
                        generalize hV : (((((((((v2.setCell ⟨w.heap.size, 0, none⟩ (.int .i64 0)).setCell ⟨w.heap.size, 1, none⟩ (.int .i64 0)).setCell ⟨w.heap.size, 2, none⟩ (.int .i64 0)).setCell ⟨w.heap.size, 3, none⟩ (.int .i64 0)).setCell ⟨w.heap.size, 4, none⟩ (.int .i64 0)).setCell ⟨w.heap.size, 5, none⟩ (.int .i64 0)).setCell ⟨w.heap.size, 6, none⟩ (.int .i64 0)).setCell ⟨w.heap.size + 1, 0, none⟩ (.int .i64 (n : Int))).setCell ⟨w.heap.size + 1 + 1, 0, none⟩ (.int .i64 60)) = V at g1 g2 g3 g4 g5 g6 ⊢
                        clear hV
                        first | exact ⟨g1.drew.drew, (by first | rfl | trivial), n, HBD.out, g2, g3, g4, g5.drew.drew, g6⟩ | exact ⟨g1.drew, (by first | rfl | trivial), n, HBD.out, g2, g3, g4, g5.drew, g6⟩
                      exact AllReadyH.nil
                    exact AllReadyH.nil
                  exact AllReadyH.nil
                refine AllReadyH.cons (o := _) rfl (fun K hK => ?_) ?_
                · go_simp
                  refine hK.out _ _ ?_ (fun hHeld => ?_)
                  · (try dsimp only)
                    all_goals trivial
                  clear hK K
                  (try simp only [Act.put, List.setIfInBounds_toArray, List.set_cons_zero, List.set_cons_succ])
                  refine wpAnyH_ready (rs := [1]) (by kernel_rfl) (by simp) ?_
                  refine AllReadyH.cons (o := _) rfl (fun K hK => ?_) ?_
                  · go_simp
                    refine hK.out _ _ ?_ (fun hHeld => ?_)
                    · (try dsimp only)
                      all_goals trivial
                    clear hK K
                    (try simp only [Act.put, List.setIfInBounds_toArray, List.set_cons_zero, List.set_cons_succ])
                    refine wpAnyH_ready (rs := [3]) (by kernel_rfl) (by simp) ?_
                    refine AllReadyH.cons (o := _) rfl (fun K hK => ?_) ?_
                    · go_simp
                      refine hK.out _ _ ?_ (fun hHeld => ?_)
                      · (try dsimp only)
                        all_goals trivial
                      clear hK K
                      (try simp only [Act.put, List.setIfInBounds_toArray, List.set_cons_zero, List.set_cons_succ])
                      refine wpAnyH_ready (rs := [4]) (by kernel_rfl) (by simp) ?_
                      refine AllReadyH.cons (o := _) rfl (fun K hK => ?_) ?_
                      · go_simp
                        refine hK.out _ _ ?_ (fun hHeld => ?_)
                        · (try dsimp only)
                          all_goals trivial
                        clear hK K
                        (try simp only [Act.put, List.setIfInBounds_toArray, List.set_cons_zero, List.set_cons_succ])
                        refine wpAnyH_done (by kernel_rfl) ?_ _
                        gi_wp2
                        obtain ⟨g1, g2, g3, g4, g5, g6⟩ := parse_ret HQY.out HYU.out
                        generalize hV : (((((((((v2.setCell ⟨w.heap.size, 0, none⟩ (.int .i64 0)).setCell ⟨w.heap.size, 1, none⟩ (.int .i64 0)).setCell ⟨w.heap.size, 2, none⟩ (.int .i64 0)).setCell ⟨w.heap.size, 3, none⟩ (.int .i64 0)).setCell ⟨w.heap.size, 4, none⟩ (.int .i64 0)).setCell ⟨w.heap.size, 5, none⟩ (.int .i64 0)).setCell ⟨w.heap.size, 6, none⟩ (.int .i64 0)).setCell ⟨w.heap.size + 1, 0, none⟩ (.int .i64 (n : Int))).setCell ⟨w.heap.size + 1 + 1, 0, none⟩ (.int .i64 60)) = V at g1 g2 g3 g4 g5 g6 ⊢
                        clear hV
                        first | exact ⟨g1.drew.drew, (by first | rfl | trivial), n, HBD.out, g2, g3, g4, g5.drew.drew, g6⟩ | exact ⟨g1.drew, (by first | rfl | trivial), n, HBD.out, g2, g3, g4, g5.drew, g6⟩
                      exact AllReadyH.nil
                    exact AllReadyH.nil
                  exact AllReadyH.nil
                exact AllReadyH.nil
              exact AllReadyH.nil
            exact AllReadyH.nil
          | true =>
            obtain ⟨u0, u1, u2, u3, u4, u5, u6, rfl⟩ := seven HAL.out.1
            have HADD2 := Lib.hid (fun u => show Calls Tryd.prog 51 #[.agg #[.int .i64 (D : Int), .int .i64 (H : Int)], .agg #[.int .i64 y0, .int .i64 y1, .int .i64 y2, .int .i64 y3, .int .i64 y4, .int .i64 y5, .int .i64 y6]] u fun e w' => e = .returned (.agg #[.int .i64 u0, .int .i64 u1, .int .i64 u2, .int .i64 u3, .int .i64 u4, .int .i64 u5, .int .i64 u6]) ∧ Below u.heap.size u w' from HADD.out u)
            have HOK2 := Lib.hid (fun xs => HOK.out xs (by rintro (h | h | h | h); exact hD0 h; exact hH0 h; exact hcf h; cases h))
            clear HBD0 HOK hD0 hH0 HEQ
            gi_wp2_with ((try refine ⟨trivial, ?_⟩); gi_at_call 48; ((with_reducible refine CallsIn.mono (CallsIn.inRound l' (callsIn_wide.2 HG.out)) ?_); rintro e' w4 ⟨rfl, hb4⟩; have H4 := Lib.hid hb4; clear hb4))
            obtain ⟨Y2, hY2⟩ : ∃ Y2, w4.alloc (.cells #[.int .i64 (D : Int), .int .i64 (H : Int)] 63) = Y2 := ⟨_, rfl⟩
            have HGR : Hid (Row Y2 w4.heap.size 63 #[.int .i64 (D : Int), .int .i64 (H : Int)]) := Lib.hid (by rw [← hY2]; exact Row.new _ _ _)
            have HY2 : Hid (Below Y.heap.size Y Y2) := Lib.hid (by rw [← hY2]; exact H4.out.alloc H4.out.size _)
            rw [hY2]
            clear hY2
            obtain ⟨G, hG⟩ : ∃ G, w4.heap.size = G := ⟨_, rfl⟩
            rw [hG] at HGR ⊢
            have HTY : Hid (Tabs Y2) := Lib.hid (HT.out.next (below_to HQY.out.b HY2.out))
            have HQ2 := Lib.hid (HQY.out.below HY2.out)
            have HS8 : Hid (∀ u, Below Y2.heap.size Y2 u → (u.cell? ⟨G, 0, none⟩ = some (.int .i64 (D : Int)) ∧ u.cell? ⟨G, 1, none⟩ = some (.int .i64 (H : Int)) ∧ u.cell? ⟨w.heap.size + 1 + 1 + 1 + 1 + 1, 0, none⟩ = some (.int .i64 (f : Int)) ∧ u.cell? ⟨w.heap.size + 1 + 1 + 1, 0, none⟩ = some (.int .i64 y0) ∧ u.cell? ⟨w.heap.size + 1 + 1 + 1, 1, none⟩ = some (.int .i64 y1) ∧ u.cell? ⟨w.heap.size + 1 + 1 + 1, 2, none⟩ = some (.int .i64 y2) ∧ u.cell? ⟨w.heap.size + 1 + 1 + 1, 3, none⟩ = some (.int .i64 y3) ∧ u.cell? ⟨w.heap.size + 1 + 1 + 1, 4, none⟩ = some (.int .i64 y4) ∧ u.cell? ⟨w.heap.size + 1 + 1 + 1, 5, none⟩ = some (.int .i64 y5) ∧ u.cell? ⟨w.heap.size + 1 + 1 + 1, 6, none⟩ = some (.int .i64 y6))) := Lib.hid (fun u hu => by
              have hq := HQ2.out.below hu
              have hg := HGR.out.below hu HGR.out.lt
              obtain ⟨c0, c1, c2, c3, c4, c5, c6, -⟩ := seven_cells (show Row u (w.heap.size + 1 + 1 + 1) 23 (ints [y0, y1, y2, y3, y4, y5, y6]) from hq.rw)
              exact ⟨hg.cell 0, hg.cell 1, hq.rf.cell 0, c0, c1, c2, c3, c4, c5, c6⟩)
            have HGL : Hid (X.heap.size ≤ G) := Lib.hid (by have := H4.out.size; have := HQY.out.s; rw [← hG]; omega)
            clear hG
            refine region_round (S := fun u => (u.cell? ⟨G, 0, none⟩ = some (.int .i64 (D : Int)) ∧ u.cell? ⟨G, 1, none⟩ = some (.int .i64 (H : Int)) ∧ u.cell? ⟨w.heap.size + 1 + 1 + 1 + 1 + 1, 0, none⟩ = some (.int .i64 (f : Int)) ∧ u.cell? ⟨w.heap.size + 1 + 1 + 1, 0, none⟩ = some (.int .i64 y0) ∧ u.cell? ⟨w.heap.size + 1 + 1 + 1, 1, none⟩ = some (.int .i64 y1) ∧ u.cell? ⟨w.heap.size + 1 + 1 + 1, 2, none⟩ = some (.int .i64 y2) ∧ u.cell? ⟨w.heap.size + 1 + 1 + 1, 3, none⟩ = some (.int .i64 y3) ∧ u.cell? ⟨w.heap.size + 1 + 1 + 1, 4, none⟩ = some (.int .i64 y4) ∧ u.cell? ⟨w.heap.size + 1 + 1 + 1, 5, none⟩ = some (.int .i64 y5) ∧ u.cell? ⟨w.heap.size + 1 + 1 + 1, 6, none⟩ = some (.int .i64 y6))) (by kernel_rfl) (by kernel_rfl) (fun ⟨_, _, h⟩ => h) (HS8.out _ (Below.refl _ _).drew) (fun hHeld => ?_)
            refine wpAnyH_take (i := 0) (oi := _) (v := ?_) rfl (by kernel_rfl) (by kernel_rfl) (by kernel_rfl) (fun _ _ _ h => h) (Or.inl ⟨by rfl, ?_⟩) (by assumption) ?_
            rotate_left
            · (intro w hSw; (try dsimp only at hSw); go_simp; all_goals (with_reducible rfl))
            (try simp only [Act.put])
            refine wpAnyH_take (i := 1) (oi := _) (v := ?_) rfl (by kernel_rfl) (by kernel_rfl) (by kernel_rfl) (fun _ _ _ h => h) (Or.inl ⟨by rfl, ?_⟩) (by assumption) ?_
            rotate_left
            · (intro w hSw; (try dsimp only at hSw); go_simp; all_goals (with_reducible rfl))
            (try simp only [Act.put])
            refine wpAnyH_take (i := 2) (oi := _) (v := ?_) rfl (by kernel_rfl) (by kernel_rfl) (by kernel_rfl) (fun _ _ _ h => h) (Or.inl ⟨by rfl, ?_⟩) (by assumption) ?_
            rotate_left
            · (intro w hSw; (try dsimp only at hSw); go_simp; all_goals (with_reducible rfl))
            (try simp only [Act.put])
            refine wpAnyH_take (i := 3) (oi := _) (v := ?_) rfl (by kernel_rfl) (by kernel_rfl) (by kernel_rfl) (fun _ _ _ h => h) (Or.inl ⟨by rfl, ?_⟩) (by assumption) ?_
            rotate_left
            · (intro w hSw; (try dsimp only at hSw); go_simp; all_goals (with_reducible rfl))
            (try simp only [Act.put])
            refine wpAnyH_take (i := 5) (oi := _) (v := ?_) rfl (by kernel_rfl) (by kernel_rfl) (by kernel_rfl) (fun _ _ _ h => h) (Or.inl ⟨by rfl, ?_⟩) (by assumption) ?_
            rotate_left
            · (intro w hSw; (try dsimp only at hSw); go_simp; all_goals (with_reducible rfl))
            (try simp only [Act.put])
            refine wpAnyH_ready (rs := [4]) (by kernel_rfl) (by simp) ?_
            refine AllReadyH.cons (o := _) rfl (fun K hK => ?_) ?_
            · go_simp
              (go_at_call 49; ((with_reducible refine Calls.mono (HFST.out _ (HTY.out.next (Below.refl _ _).drew)) ?_); rintro e v1 ⟨rfl, b4⟩))
              have B4 := Lib.hid (show Below Y2.heap.size Y2 v1 from (Below.refl _ Y2).drew.trans b4)
              clear b4
              refine hK.out _ _ ?_ (fun hHeld => ?_)
              · (try dsimp only)
                first | assumption | (exact HS8.out _ B4.out) | (exact HS8.out _ B5.out)
              clear hK K
              (try simp only [Act.put, List.setIfInBounds_toArray, List.set_cons_zero, List.set_cons_succ])
              refine wpAnyH_take (i := 6) (oi := _) (v := ?_) rfl (by kernel_rfl) (by kernel_rfl) (by kernel_rfl) (fun _ _ _ h => h) (Or.inl ⟨by rfl, ?_⟩) (by assumption) ?_
              rotate_left
              · (intro w hSw; (try dsimp only at hSw); go_simp; all_goals (with_reducible rfl))
              (try simp only [Act.put])
              refine wpAnyH_take (i := 7) (oi := _) (v := ?_) rfl (by kernel_rfl) (by kernel_rfl) (by kernel_rfl) (fun _ _ _ h => h) (Or.inl ⟨by rfl, ?_⟩) (by assumption) ?_
              rotate_left
              · (intro w hSw; (try dsimp only at hSw); go_simp; all_goals (with_reducible rfl))
              (try simp only [Act.put])
              refine wpAnyH_take (i := 8) (oi := _) (v := ?_) rfl (by kernel_rfl) (by kernel_rfl) (by kernel_rfl) (fun _ _ _ h => h) (Or.inl ⟨by rfl, ?_⟩) (by assumption) ?_
              rotate_left
              · (intro w hSw; (try dsimp only at hSw); go_simp; all_goals (with_reducible rfl))
              (try simp only [Act.put])
              refine wpAnyH_take (i := 9) (oi := _) (v := ?_) rfl (by kernel_rfl) (by kernel_rfl) (by kernel_rfl) (fun _ _ _ h => h) (Or.inl ⟨by rfl, ?_⟩) (by assumption) ?_
              rotate_left
              · (intro w hSw; (try dsimp only at hSw); go_simp; all_goals (with_reducible rfl))
              (try simp only [Act.put])
              refine wpAnyH_take (i := 10) (oi := _) (v := ?_) rfl (by kernel_rfl) (by kernel_rfl) (by kernel_rfl) (fun _ _ _ h => h) (Or.inl ⟨by rfl, ?_⟩) (by assumption) ?_
              rotate_left
              · (intro w hSw; (try dsimp only at hSw); go_simp; all_goals (with_reducible rfl))
              (try simp only [Act.put])
              refine wpAnyH_ready (rs := [11]) (by kernel_rfl) (by simp) ?_
              refine AllReadyH.cons (o := _) rfl (fun K hK => ?_) ?_
              · go_simp
                (go_at_call 50; ((with_reducible refine Calls.mono (HNEW.out _) ?_); rintro e v2 ⟨rfl, b5⟩))
                have B5 := Lib.hid (below_to B4.out b5)
                clear b5
                refine hK.out _ _ ?_ (fun hHeld => ?_)
                · (try dsimp only)
                  first | assumption | (exact HS8.out _ B4.out) | (exact HS8.out _ B5.out)
                clear hK K
                (try simp only [Act.put, List.setIfInBounds_toArray, List.set_cons_zero, List.set_cons_succ])
                refine wpAnyH_take (i := 12) (oi := _) (v := ?_) rfl (by kernel_rfl) (by kernel_rfl) (by kernel_rfl) (fun _ _ _ h => h) (Or.inl ⟨by rfl, ?_⟩) (by assumption) ?_
                rotate_left
                · (intro w hSw; (try dsimp only at hSw); go_simp; all_goals (with_reducible rfl))
                (try simp only [Act.put])
                refine wpAnyH_take (i := 13) (oi := _) (v := ?_) rfl (by kernel_rfl) (by kernel_rfl) (by kernel_rfl) (fun _ _ _ h => h) (Or.inl ⟨by rfl, ?_⟩) (by assumption) ?_
                rotate_left
                · (intro w hSw; (try dsimp only at hSw); go_simp; all_goals (with_reducible rfl))
                (try simp only [Act.put])
                refine wpAnyH_done (by kernel_rfl) ?_ _
                go_simp
                gi_wp2
                have HYU := Lib.hid (below_to HY2.out (B5.out))
                gi_wp2_with ((try refine ⟨trivial, ?_⟩); gi_at_call 51; ((with_reducible refine CallsIn.mono (CallsIn.inRound l' (callsIn_wide.2 (HADD2.out _))) ?_); rintro e' w5 ⟨rfl, b9⟩; have B9 := Lib.hid b9; clear b9; have HQ5 := Lib.hid (HQY.out.below (below_to HYU.out B9.out)); obtain ⟨c0, c1, c2, c3, c4, c5, c6, e0, e1, e2, e3, e4, e5, e6⟩ := seven_cells (show Row w5 (w.heap.size + 1 + 1 + 1) 23 (ints [y0, y1, y2, y3, y4, y5, y6]) from HQ5.out.rw)))
                obtain ⟨k1, q1⟩ := parse_add HQY.out (below_to HYU.out B9.out) u0 u1 u2 u3 u4 u5 u6
                have gr : Row (((((((w5.setCell ⟨w.heap.size + 1 + 1 + 1, 0, none⟩ (.int .i64 u0)).setCell ⟨w.heap.size + 1 + 1 + 1, 1, none⟩ (.int .i64 u1)).setCell ⟨w.heap.size + 1 + 1 + 1, 2, none⟩ (.int .i64 u2)).setCell ⟨w.heap.size + 1 + 1 + 1, 3, none⟩ (.int .i64 u3)).setCell ⟨w.heap.size + 1 + 1 + 1, 4, none⟩ (.int .i64 u4)).setCell ⟨w.heap.size + 1 + 1 + 1, 5, none⟩ (.int .i64 u5)).setCell ⟨w.heap.size + 1 + 1 + 1, 6, none⟩ (.int .i64 u6)) G 63 #[.int .i64 (D : Int), .int .i64 (H : Int)] := (((((((((HGR.out.below (below_to B5.out B9.out) HGR.out.lt)).far (p := ⟨w.heap.size + 1 + 1 + 1, 0, none⟩) (by have := HGL.out; dsimp only; omega) (.int .i64 u0)).far (p := ⟨w.heap.size + 1 + 1 + 1, 1, none⟩) (by have := HGL.out; dsimp only; omega) (.int .i64 u1)).far (p := ⟨w.heap.size + 1 + 1 + 1, 2, none⟩) (by have := HGL.out; dsimp only; omega) (.int .i64 u2)).far (p := ⟨w.heap.size + 1 + 1 + 1, 3, none⟩) (by have := HGL.out; dsimp only; omega) (.int .i64 u3)).far (p := ⟨w.heap.size + 1 + 1 + 1, 4, none⟩) (by have := HGL.out; dsimp only; omega) (.int .i64 u4)).far (p := ⟨w.heap.size + 1 + 1 + 1, 5, none⟩) (by have := HGL.out; dsimp only; omega) (.int .i64 u5)).far (p := ⟨w.heap.size + 1 + 1 + 1, 6, none⟩) (by have := HGL.out; dsimp only; omega) (.int .i64 u6))
                have hbw : Below w.heap.size w (((((((w5.setCell ⟨w.heap.size + 1 + 1 + 1, 0, none⟩ (.int .i64 u0)).setCell ⟨w.heap.size + 1 + 1 + 1, 1, none⟩ (.int .i64 u1)).setCell ⟨w.heap.size + 1 + 1 + 1, 2, none⟩ (.int .i64 u2)).setCell ⟨w.heap.size + 1 + 1 + 1, 3, none⟩ (.int .i64 u3)).setCell ⟨w.heap.size + 1 + 1 + 1, 4, none⟩ (.int .i64 u4)).setCell ⟨w.heap.size + 1 + 1 + 1, 5, none⟩ (.int .i64 u5)).setCell ⟨w.heap.size + 1 + 1 + 1, 6, none⟩ (.int .i64 u6)) := q1.b
                generalize hV : (((((((w5.setCell ⟨w.heap.size + 1 + 1 + 1, 0, none⟩ (.int .i64 u0)).setCell ⟨w.heap.size + 1 + 1 + 1, 1, none⟩ (.int .i64 u1)).setCell ⟨w.heap.size + 1 + 1 + 1, 2, none⟩ (.int .i64 u2)).setCell ⟨w.heap.size + 1 + 1 + 1, 3, none⟩ (.int .i64 u3)).setCell ⟨w.heap.size + 1 + 1 + 1, 4, none⟩ (.int .i64 u4)).setCell ⟨w.heap.size + 1 + 1 + 1, 5, none⟩ (.int .i64 u5)).setCell ⟨w.heap.size + 1 + 1 + 1, 6, none⟩ (.int .i64 u6)) = V at k1 q1 gr hbw ⊢
                clear hV c0 c1 c2 c3 c4 c5 c6 e0 e1 e2 e3 e4 e5 e6
                have HQV := Lib.hid q1
                have HTV := Lib.hid (HT.out.next hbw)
                have d0 := q1.rc.cell 0
                have d1 := q1.rc.free 0
                have d2 := q1.rf.cell 0
                have d3 := q1.rf.free 0
                have d8 := gr.cell 0
                have d9 := gr.cell 1
                have wn : IntKind.i64.wrap ((n : Int) + 1) = ((n + 1 : Nat) : Int) := by rw [IntKind.wrap_i64]; omega
                clear q1 gr hbw
                refine region_round (S := fun _ => True) (by kernel_rfl) (by kernel_rfl) (fun ⟨_, _, h⟩ => h) trivial (fun hHeld => ?_)
                refine wpAnyH_ready (rs := [0, 2]) (by kernel_rfl) (by simp) ?_
                refine AllReadyH.cons (o := _) rfl (fun K hK => ?_) ?_
                · go_simp
                  refine hK.out _ _ ?_ (fun hHeld => ?_)
                  · (try dsimp only)
                    all_goals trivial
                  clear hK K
                  (try simp only [Act.put, List.setIfInBounds_toArray, List.set_cons_zero, List.set_cons_succ])
                  refine wpAnyH_take (i := 1) (oi := _) (v := ?_) rfl (by kernel_rfl) (by kernel_rfl) (by kernel_rfl) (fun _ _ _ h => h) (Or.inl ⟨by rfl, ?_⟩) (by assumption) ?_
                  rotate_left
                  · (intro w hSw; (try dsimp only at hSw); go_simp; all_goals (with_reducible rfl))
                  (try simp only [Act.put])
                  refine wpAnyH_ready (rs := [2]) (by kernel_rfl) (by simp) ?_
                  refine AllReadyH.cons (o := _) rfl (fun K hK => ?_) ?_
                  · go_simp
                    refine hK.out _ _ ?_ (fun hHeld => ?_)
                    · (try dsimp only)
                      all_goals trivial
                    clear hK K
                    (try simp only [Act.put, List.setIfInBounds_toArray, List.set_cons_zero, List.set_cons_succ])
                    refine wpAnyH_ready (rs := [3]) (by kernel_rfl) (by simp) ?_
                    refine AllReadyH.cons (o := _) rfl (fun K hK => ?_) ?_
                    · go_simp
                      (go_at_call 49; ((with_reducible refine Calls.mono (HFST.out _ (HTV.out.next (Below.refl _ _).drew)) ?_); rintro e v6 ⟨rfl, b6⟩))
                      have B6 := Lib.hid (show Below V.heap.size V v6 from (Below.refl _ V).drew.trans b6)
                      clear b6
                      have HQ6 := Lib.hid (HQV.out.below B6.out)
                      have d4 := HQ6.out.rc.cell 0
                      have d5 := HQ6.out.rc.free 0
                      have d6 := HQ6.out.rf.cell 0
                      have d7 := HQ6.out.rf.free 0
                      refine hK.out _ _ ?_ (fun hHeld => ?_)
                      · (try dsimp only)
                        all_goals trivial
                      clear hK K
                      (try simp only [Act.put, List.setIfInBounds_toArray, List.set_cons_zero, List.set_cons_succ])
                      refine wpAnyH_ready (rs := [4]) (by kernel_rfl) (by simp) ?_
                      refine AllReadyH.cons (o := _) rfl (fun K hK => ?_) ?_
                      · go_simp
                        refine hK.out _ _ ?_ (fun hHeld => ?_)
                        · (try dsimp only)
                          all_goals trivial
                        clear hK K
                        (try simp only [Act.put, List.setIfInBounds_toArray, List.set_cons_zero, List.set_cons_succ])
                        refine wpAnyH_ready (rs := [5]) (by kernel_rfl) (by simp) ?_
                        refine AllReadyH.cons (o := _) rfl (fun K hK => ?_) ?_
                        · go_simp
                          refine hK.out _ _ ?_ (fun hHeld => ?_)
                          · (try dsimp only)
                            all_goals trivial
                          clear hK K
                          (try simp only [Act.put, List.setIfInBounds_toArray, List.set_cons_zero, List.set_cons_succ])
                          refine wpAnyH_done (by kernel_rfl) ?_ _
                          gi_wp2
                          obtain ⟨g1, g2⟩ := parse_next HQV.out B6.out c
                          rw [show (((n + 1 : Nat)) : Int) = (n : Int) + 1 from rfl] at g1 g2
                          generalize hV2 : ((v6.setCell ⟨w.heap.size + 1 + 1 + 1 + 1, 0, none⟩ (.int .i64 ((n : Int) + 1))).setCell ⟨w.heap.size + 1 + 1 + 1 + 1 + 1, 0, none⟩ (.int .i64 (c : Int))) = V2 at g1 g2 ⊢
                          clear hV2
                          have hfin : n + 1 ≤ (pre ++ [x]).length ∧ validW [u0, u1, u2, u3, u4, u5, u6] = true ∧ ∀ xs : List ByteArray, psStep ((pre ++ [x]) ++ xs) zeroW 0 0 = psStep xs [u0, u1, u2, u3, u4, u5, u6] (n + 1) c := ⟨(by have := HN.out; simp; omega), HAL.out.2, fun xs => by rw [List.append_assoc]; exact (HPS2.out (x :: xs)).trans (HOK2.out xs)⟩
                          exact ⟨⟨k1.trans g1, fun _ h => .inl h⟩, [u0, u1, u2, u3, u4, u5, u6], n + 1, c, g2, rfl, hfin.2.1, hfin.1, hc65, hfin.2.2⟩
                        exact AllReadyH.nil
                      exact AllReadyH.nil
                    exact AllReadyH.nil
                  exact AllReadyH.nil
                refine AllReadyH.cons (o := _) rfl (fun K hK => ?_) ?_
                · go_simp
                  refine hK.out _ _ ?_ (fun hHeld => ?_)
                  · (try dsimp only)
                    all_goals trivial
                  clear hK K
                  (try simp only [Act.put, List.setIfInBounds_toArray, List.set_cons_zero, List.set_cons_succ])
                  refine wpAnyH_ready (rs := [0, 3]) (by kernel_rfl) (by simp) ?_
                  refine AllReadyH.cons (o := _) rfl (fun K hK => ?_) ?_
                  · go_simp
                    refine hK.out _ _ ?_ (fun hHeld => ?_)
                    · (try dsimp only)
                      all_goals trivial
                    clear hK K
                    (try simp only [Act.put, List.setIfInBounds_toArray, List.set_cons_zero, List.set_cons_succ])
                    refine wpAnyH_take (i := 1) (oi := _) (v := ?_) rfl (by kernel_rfl) (by kernel_rfl) (by kernel_rfl) (fun _ _ _ h => h) (Or.inl ⟨by rfl, ?_⟩) (by assumption) ?_
                    rotate_left
                    · (intro w hSw; (try dsimp only at hSw); go_simp; all_goals (with_reducible rfl))
                    (try simp only [Act.put])
                    refine wpAnyH_ready (rs := [3]) (by kernel_rfl) (by simp) ?_
                    refine AllReadyH.cons (o := _) rfl (fun K hK => ?_) ?_
                    · go_simp
                      (go_at_call 49; ((with_reducible refine Calls.mono (HFST.out _ (HTV.out.next (Below.refl _ _).drew)) ?_); rintro e v6 ⟨rfl, b6⟩))
                      have B6 := Lib.hid (show Below V.heap.size V v6 from (Below.refl _ V).drew.trans b6)
                      clear b6
                      have HQ6 := Lib.hid (HQV.out.below B6.out)
                      have d4 := HQ6.out.rc.cell 0
                      have d5 := HQ6.out.rc.free 0
                      have d6 := HQ6.out.rf.cell 0
                      have d7 := HQ6.out.rf.free 0
                      refine hK.out _ _ ?_ (fun hHeld => ?_)
                      · (try dsimp only)
                        all_goals trivial
                      clear hK K
                      (try simp only [Act.put, List.setIfInBounds_toArray, List.set_cons_zero, List.set_cons_succ])
                      refine wpAnyH_ready (rs := [4]) (by kernel_rfl) (by simp) ?_
                      refine AllReadyH.cons (o := _) rfl (fun K hK => ?_) ?_
                      · go_simp
                        refine hK.out _ _ ?_ (fun hHeld => ?_)
                        · (try dsimp only)
                          all_goals trivial
                        clear hK K
                        (try simp only [Act.put, List.setIfInBounds_toArray, List.set_cons_zero, List.set_cons_succ])
                        refine wpAnyH_ready (rs := [5]) (by kernel_rfl) (by simp) ?_
                        refine AllReadyH.cons (o := _) rfl (fun K hK => ?_) ?_
                        · go_simp
                          refine hK.out _ _ ?_ (fun hHeld => ?_)
                          · (try dsimp only)
                            all_goals trivial
                          clear hK K
                          (try simp only [Act.put, List.setIfInBounds_toArray, List.set_cons_zero, List.set_cons_succ])
                          refine wpAnyH_done (by kernel_rfl) ?_ _
                          gi_wp2
                          obtain ⟨g1, g2⟩ := parse_next HQV.out B6.out c
                          rw [show (((n + 1 : Nat)) : Int) = (n : Int) + 1 from rfl] at g1 g2
                          generalize hV2 : ((v6.setCell ⟨w.heap.size + 1 + 1 + 1 + 1, 0, none⟩ (.int .i64 ((n : Int) + 1))).setCell ⟨w.heap.size + 1 + 1 + 1 + 1 + 1, 0, none⟩ (.int .i64 (c : Int))) = V2 at g1 g2 ⊢
                          clear hV2
                          have hfin : n + 1 ≤ (pre ++ [x]).length ∧ validW [u0, u1, u2, u3, u4, u5, u6] = true ∧ ∀ xs : List ByteArray, psStep ((pre ++ [x]) ++ xs) zeroW 0 0 = psStep xs [u0, u1, u2, u3, u4, u5, u6] (n + 1) c := ⟨(by have := HN.out; simp; omega), HAL.out.2, fun xs => by rw [List.append_assoc]; exact (HPS2.out (x :: xs)).trans (HOK2.out xs)⟩
                          exact ⟨⟨k1.trans g1, fun _ h => .inl h⟩, [u0, u1, u2, u3, u4, u5, u6], n + 1, c, g2, rfl, hfin.2.1, hfin.1, hc65, hfin.2.2⟩
                        exact AllReadyH.nil
                      exact AllReadyH.nil
                    exact AllReadyH.nil
                  refine AllReadyH.cons (o := _) rfl (fun K hK => ?_) ?_
                  · go_simp
                    (go_at_call 49; ((with_reducible refine Calls.mono (HFST.out _ (HTV.out.next (Below.refl _ _).drew)) ?_); rintro e v6 ⟨rfl, b6⟩))
                    have B6 := Lib.hid (show Below V.heap.size V v6 from (Below.refl _ V).drew.trans b6)
                    clear b6
                    have HQ6 := Lib.hid (HQV.out.below B6.out)
                    have d4 := HQ6.out.rc.cell 0
                    have d5 := HQ6.out.rc.free 0
                    have d6 := HQ6.out.rf.cell 0
                    have d7 := HQ6.out.rf.free 0
                    refine hK.out _ _ ?_ (fun hHeld => ?_)
                    · (try dsimp only)
                      all_goals trivial
                    clear hK K
                    (try simp only [Act.put, List.setIfInBounds_toArray, List.set_cons_zero, List.set_cons_succ])
                    refine wpAnyH_ready (rs := [0]) (by kernel_rfl) (by simp) ?_
                    refine AllReadyH.cons (o := _) rfl (fun K hK => ?_) ?_
                    · go_simp
                      refine hK.out _ _ ?_ (fun hHeld => ?_)
                      · (try dsimp only)
                        all_goals trivial
                      clear hK K
                      (try simp only [Act.put, List.setIfInBounds_toArray, List.set_cons_zero, List.set_cons_succ])
                      refine wpAnyH_take (i := 1) (oi := _) (v := ?_) rfl (by kernel_rfl) (by kernel_rfl) (by kernel_rfl) (fun _ _ _ h => h) (Or.inl ⟨by rfl, ?_⟩) (by assumption) ?_
                      rotate_left
                      · (intro w hSw; (try dsimp only at hSw); go_simp; all_goals (with_reducible rfl))
                      (try simp only [Act.put])
                      refine wpAnyH_ready (rs := [4]) (by kernel_rfl) (by simp) ?_
                      refine AllReadyH.cons (o := _) rfl (fun K hK => ?_) ?_
                      · go_simp
                        refine hK.out _ _ ?_ (fun hHeld => ?_)
                        · (try dsimp only)
                          all_goals trivial
                        clear hK K
                        (try simp only [Act.put, List.setIfInBounds_toArray, List.set_cons_zero, List.set_cons_succ])
                        refine wpAnyH_ready (rs := [5]) (by kernel_rfl) (by simp) ?_
                        refine AllReadyH.cons (o := _) rfl (fun K hK => ?_) ?_
                        · go_simp
                          refine hK.out _ _ ?_ (fun hHeld => ?_)
                          · (try dsimp only)
                            all_goals trivial
                          clear hK K
                          (try simp only [Act.put, List.setIfInBounds_toArray, List.set_cons_zero, List.set_cons_succ])
                          refine wpAnyH_done (by kernel_rfl) ?_ _
                          gi_wp2
                          obtain ⟨g1, g2⟩ := parse_next HQV.out B6.out c
                          rw [show (((n + 1 : Nat)) : Int) = (n : Int) + 1 from rfl] at g1 g2
                          generalize hV2 : ((v6.setCell ⟨w.heap.size + 1 + 1 + 1 + 1, 0, none⟩ (.int .i64 ((n : Int) + 1))).setCell ⟨w.heap.size + 1 + 1 + 1 + 1 + 1, 0, none⟩ (.int .i64 (c : Int))) = V2 at g1 g2 ⊢
                          clear hV2
                          have hfin : n + 1 ≤ (pre ++ [x]).length ∧ validW [u0, u1, u2, u3, u4, u5, u6] = true ∧ ∀ xs : List ByteArray, psStep ((pre ++ [x]) ++ xs) zeroW 0 0 = psStep xs [u0, u1, u2, u3, u4, u5, u6] (n + 1) c := ⟨(by have := HN.out; simp; omega), HAL.out.2, fun xs => by rw [List.append_assoc]; exact (HPS2.out (x :: xs)).trans (HOK2.out xs)⟩
                          exact ⟨⟨k1.trans g1, fun _ h => .inl h⟩, [u0, u1, u2, u3, u4, u5, u6], n + 1, c, g2, rfl, hfin.2.1, hfin.1, hc65, hfin.2.2⟩
                        exact AllReadyH.nil
                      exact AllReadyH.nil
                    exact AllReadyH.nil
                  exact AllReadyH.nil
                exact AllReadyH.nil
              exact AllReadyH.nil
            exact AllReadyH.nil
    case done =>
      rintro D Y rfl ⟨l, n, f, h1, h7, hv, hn, hf, hps⟩ hD
      obtain ⟨y0, y1, y2, y3, y4, y5, y6, rfl⟩ := seven h7
      have hfin := hps []
      rw [List.append_nil] at hfin
      have HF := Lib.hid (show psStep full zeroW 0 0 = ([y0, y1, y2, y3, y4, y5, y6], n, 0) from hfin)
      have HQ := Lib.hid h1
      have HDD := Lib.hid hD
      obtain ⟨a0, a1, a2, a3, a4, a5, a6, e0, e1, e2, e3, e4, e5, e6⟩ := seven_cells (show Row Y w.heap.size 23 (ints [0, 0, 0, 0, 0, 0, 0]) from h1.r0)
      obtain ⟨c0, c1, c2, c3, c4, c5, c6, -⟩ := seven_cells (show Row Y (w.heap.size + 1 + 1 + 1) 23 (ints [y0, y1, y2, y3, y4, y5, y6]) from h1.rw)
      have b0 := h1.r1.cell 0
      have b1 := h1.r1.free 0
      have b2 := h1.r2.cell 0
      have b3 := h1.r2.free 0
      have b4 := h1.rc.cell 0
      clear h1 hfin hD h7 hv hn hf hps
      gi_wp2
      refine wpIn_wide.2 ?_
      go_region
      all_goals gi_wp2
      all_goals obtain ⟨g0, g1, g2, g3, g4⟩ := parse_done HQ.out
      all_goals generalize hV : (((((((((Y.setCell ⟨w.heap.size, 0, none⟩ (.int .i64 y0)).setCell ⟨w.heap.size, 1, none⟩ (.int .i64 y1)).setCell ⟨w.heap.size, 2, none⟩ (.int .i64 y2)).setCell ⟨w.heap.size, 3, none⟩ (.int .i64 y3)).setCell ⟨w.heap.size, 4, none⟩ (.int .i64 y4)).setCell ⟨w.heap.size, 5, none⟩ (.int .i64 y5)).setCell ⟨w.heap.size, 6, none⟩ (.int .i64 y6)).setCell ⟨w.heap.size + 1, 0, none⟩ (.int .i64 (n : Int))).setCell ⟨w.heap.size + 1 + 1, 0, none⟩ (.int .i64 0)) = V1 at g0 g1 g2 g3 g4 ⊢
      all_goals clear hV
      all_goals have hh : Row V1.drew w.heap.size 23 (ints [y0, y1, y2, y3, y4, y5, y6]) ∧ Row V1.drew (w.heap.size + 1) 3 #[.int .i64 (n : Int)] ∧ Row V1.drew (w.heap.size + 1 + 1) 37 #[.int .i64 0] ∧ Below w.heap.size w V1.drew ∧ ∀ k, w.heap.size + 6 ≤ k → V1.drew.heap[k]? = Y.heap[k]? := ⟨g0, g1, g2, g3.drew, g4⟩
      all_goals generalize hV : V1.drew = V at hh ⊢
      all_goals clear g0 g1 g2 g3 g4
      all_goals obtain ⟨g0, g1, g2, g3, g4⟩ := hh
      all_goals have hD2 := (g4 X.heap.size (by omega)).trans HDD.out
      all_goals refine ⟨by simp, .inl ⟨_, _, rfl, run_takeDeferred hD2, ?_⟩⟩
      all_goals exact ⟨_, results_wie rfl _ _ w.heap.size (w.heap.size + 1) (w.heap.size + 1 + 1) [y0, y1, y2, y3, y4, y5, y6] (n : Int) 0 rfl rfl rfl (g0.grown (grownBy_putObj' _ _ _) (fun r e => by cases e; omega)) rfl (g1.grown (grownBy_putObj' _ _ _) (fun r e => by cases e; omega)) (g2.grown (grownBy_putObj' _ _ _) (fun r e => by cases e; omega)), by rw [HP.out, HF.out], g3.trans (belowK_b (w := w) (Nat.le_refl _) _ _ _ _ (by omega) hD2 rfl rfl)⟩
    case stop =>
      rintro D c pre Y rfl hpre ⟨rfl, n, h1, h2, h3, h4, h5, h6⟩ hD
      gi_wp2
      refine ⟨by simp, .inl ⟨_, _, rfl, run_takeDeferred hD, ?_⟩⟩
      exact ⟨_, results_wie rfl _ _ w.heap.size (w.heap.size + 1) (w.heap.size + 1 + 1) zeroW (n : Int) 60 rfl rfl rfl (h2.grown (grownBy_putObj' _ _ _) (fun r e => by cases e; omega)) rfl (h3.grown (grownBy_putObj' _ _ _) (fun r e => by cases e; omega)) (h4.grown (grownBy_putObj' _ _ _) (fun r e => by cases e; omega)), by rw [HP.out, h1], h5.trans (belowK_b (w := w) (Nat.le_refl _) _ _ _ _ (by omega) hD rfl rfl)⟩
end Go.Proofs.YtmfpaankkoaoaaaDoor
