/- Next. -/
import Derived.Test.YtinhjobjlpkflaaEp
import Derived.Laws.ResultCell
namespace Go.Proofs.Ytinhjobjlpkflaa
open Go.RowKit Go.Shelf

theorem results_ct {fn : Func} {p u : Tmp} (h : fn.results = #[.cell p 39, .tmp u]) (tmps : Array Value) (w : World) (g : Nat) (x0 x1 x2 x3 : Int)
    (hp : tmps.getD p undef = .pointer (some ⟨g, 0, none⟩)) (hg : Row w g 39 #[.int .i64 x0, .int .i64 x1, .int .i64 x2, .int .i64 x3]) :
    (results fn tmps).run Try.prog w = .ok (.tuple #[.agg #[.int .i64 x0, .int .i64 x1, .int .i64 x2, .int .i64 x3], tmps.getD u undef]) w := by
  have e := run_loadVar_row (P := Try.prog) w g 39 39 #[.int .i64 x0, .int .i64 x1, .int .i64 x2, .int .i64 x3] (0, 0) _ hg Try.underlying39 rfl (by kernel_rfl)
  rw [results_cell_tmp h, hp]
  simp [asAddr, Result.andThen, e]
theorem four_put {w : World} {g : Nat} {t : TypeId} {a b c d : Value} (h : Row w g t #[a, b, c, d]) (x0 x1 x2 x3 : Value) : Row ((((w.setCell ⟨g, 0, none⟩ x0).setCell ⟨g, 1, none⟩ x1).setCell ⟨g, 2, none⟩ x2).setCell ⟨g, 3, none⟩ x3) g t #[x0, x1, x2, x3] := by
  have h2 := (((h.put 0 x0).put 1 x1).put 2 x2).put 3 x3
  simpa using h2
def encCV (x : Cl) : Array Value := #[.int .i64 x.cand, .int .i64 x.of_, .int .i64 x.rest, .int .i64 x.until_]
/-- The claim that is next, and whether there is one. -/
def nxV (c : List Cl) : Cl × Bool := (c.headD ⟨0, 0, 0, 0⟩, !c.isEmpty)
set_option maxRecDepth 100000 in
set_option maxHeartbeats 8000000 in
theorem Next_bad (m now : Int) (l : List Ap) (A : Option Addr) (n c : Nat) (w : World) (hr : Recs encP 4 w w.heap.size (.slice A n c) l) (hbad : (validA m l && nowB now) = false) : Calls Try.prog 25 #[.int .i64 m, .slice A n c, .int .i64 now] w fun e w' => e = .returned (.tuple #[.agg (encCV (nxV []).1), .bool (nxV []).2]) ∧ Below w.heap.size w w' := by
  have HV := Lib.hid (fun u (hb : Below w.heap.size w u) => Claims_bad m now l A n c u (hr.next hb) hbad)
  obtain ⟨W, hW⟩ : ∃ W, w.alloc (.cells #[.int .i64 0, .int .i64 0, .int .i64 0, .int .i64 0] 39) = W := ⟨_, rfl⟩
  have hbW : Below w.heap.size w W := by rw [← hW]; exact (Below.refl _ w).alloc (Nat.le_refl _) _
  have hrow := Row.new w 39 #[.int .i64 0, .int .i64 0, .int .i64 0, .int .i64 0]
  rw [hW] at hrow
  obtain ⟨g, hg⟩ : ∃ g, w.heap.size = g := ⟨_, rfl⟩
  rw [hg] at hrow
  have HR := Lib.hid hrow
  have HB := Lib.hid hbW
  have HG := Lib.hid (show w.heap.size ≤ g by omega)
  have lg := hrow.lt
  clear hr hrow hbW hbad
  go_enter Try.func25, Try.ntmps25
  go_wp2_with (go_at_call 16; (with_reducible refine Calls.mono (HV.out _ HB.out) ?_); rintro r u1 ⟨rfl, hb⟩; have HB1 := Lib.hid hb; have RX := HR.out.below hb HR.out.lt; have HRX := Lib.hid RX; have l1 := RX.lt; have y0 := RX.cell 0; have y1 := RX.cell 1; have y2 := RX.cell 2; have y3 := RX.cell 3; have f0 := RX.free 0; have f1 := RX.free 1; have f2 := RX.free 2; have f3 := RX.free 3; simp only [List.getElem?_toArray, List.getElem?_cons_zero, List.getElem?_cons_succ] at y0 y1 y2 y3; clear hb RX)
  refine bodyPost_ret (results_ct rfl _ _ g 0 0 0 0 rfl (four_put HRX.out _ _ _ _)) rfl ?_
  exact ⟨rfl, (HB.out.trans (HB1.out.mono HB.out.size) |>.setCell (p := ⟨g, 0, none⟩) HG.out _ |>.setCell (p := ⟨g, 1, none⟩) HG.out _ |>.setCell (p := ⟨g, 2, none⟩) HG.out _ |>.setCell (p := ⟨g, 3, none⟩) HG.out _)⟩
theorem claim_first {w : World} {B n : Nat} {v : Value} {x : Cl} {l : List Cl} (h : w.ownsRow B 39 4 v n (flatE encC (x :: l))) : ∃ g c, v = .slice (some ⟨g, 0, none⟩) n c ∧ B ≤ g ∧ g < w.heap.size ∧ ∀ i, i < 4 → w.cell? ⟨g, i, none⟩ = (encC x)[i]? := by
  have hn := h.1
  rw [flatE_len encC_len, List.length_cons] at hn
  rcases h.2 with ⟨_, h0⟩ | ⟨g, c, cur, hv, hB, hg, _⟩
  · omega
  · subst hv
    refine ⟨g, c, rfl, hB, (Array.getElem?_eq_some_iff.1 hg).1, fun i hi => ?_⟩
    rw [h.cellAt i (by omega)]
    show (encC x ++ flatE encC l)[i]? = _
    rw [List.getElem?_append_left (by rw [encC_len]; exact hi)]
set_option maxRecDepth 100000 in
set_option maxHeartbeats 8000000 in
theorem Next_ok (m : Nat) (now : Int) (l : List Ap) (A : Option Addr) (n c : Nat) (w : World) (hr : Recs encP 4 w w.heap.size (.slice A n c) l) (hv : validA (m : Int) l = true) (hnow : nowB now = true) : Calls Try.prog 25 #[.int .i64 (m : Int), .slice A n c, .int .i64 now] w fun e w' => e = .returned (.tuple #[.agg (encCV (nxV (clV m l now)).1), .bool (nxV (clV m l now)).2]) ∧ Below w.heap.size w w' := by
  have HV := Lib.hid (fun u (hb : Below w.heap.size w u) => Claims_ok m now l A n c u (hr.next hb) hv hnow)
  obtain ⟨W, hW⟩ : ∃ W, w.alloc (.cells #[.int .i64 0, .int .i64 0, .int .i64 0, .int .i64 0] 39) = W := ⟨_, rfl⟩
  have hbW : Below w.heap.size w W := by rw [← hW]; exact (Below.refl _ w).alloc (Nat.le_refl _) _
  have hrow := Row.new w 39 #[.int .i64 0, .int .i64 0, .int .i64 0, .int .i64 0]
  rw [hW] at hrow
  obtain ⟨g, hg⟩ : ∃ g, w.heap.size = g := ⟨_, rfl⟩
  rw [hg] at hrow
  have HR := Lib.hid hrow
  have HB := Lib.hid hbW
  have HG := Lib.hid (show w.heap.size ≤ g by omega)
  have lg := hrow.lt
  clear hr hrow hbW hv hnow
  obtain ⟨C, hC⟩ : ∃ C, clV m l now = C := ⟨_, rfl⟩
  rw [hC] at HV ⊢
  clear hC
  cases C with
  | nil =>
    go_enter Try.func25, Try.ntmps25
    go_wp2_with (go_at_call 16; (with_reducible refine Calls.mono (HV.out _ HB.out) ?_); rintro r u1 ⟨v, rfl, hg⟩; have hb := hg.b; have HB1 := Lib.hid hb; obtain ⟨A2, c2, hv2, -⟩ := own_slice hg.own; subst hv2; have RX := HR.out.below hb HR.out.lt; have HRX := Lib.hid RX; have l1 := RX.lt; have y0 := RX.cell 0; have y1 := RX.cell 1; have y2 := RX.cell 2; have y3 := RX.cell 3; have f0 := RX.free 0; have f1 := RX.free 1; have f2 := RX.free 2; have f3 := RX.free 3; simp only [List.getElem?_toArray, List.getElem?_cons_zero, List.getElem?_cons_succ] at y0 y1 y2 y3; clear hb RX hg)
    refine bodyPost_ret (results_ct rfl _ _ g 0 0 0 0 rfl (four_put HRX.out _ _ _ _)) rfl ?_
    exact ⟨rfl, (HB.out.trans (HB1.out.mono HB.out.size) |>.setCell (p := ⟨g, 0, none⟩) HG.out _ |>.setCell (p := ⟨g, 1, none⟩) HG.out _ |>.setCell (p := ⟨g, 2, none⟩) HG.out _ |>.setCell (p := ⟨g, 3, none⟩) HG.out _)⟩
  | cons x C =>
    have i0 : ((C.length + 1 : Nat) == 0) = false := rfl
    go_enter Try.func25, Try.ntmps25
    go_wp2_with (go_at_call 16; (with_reducible refine Calls.mono (HV.out _ HB.out) ?_); rintro r u1 ⟨v, rfl, hg⟩; have hb := hg.b; have HB1 := Lib.hid hb; obtain ⟨gb, cb, hv2, hgb, hlb, hcell⟩ := claim_first hg.own; subst hv2; have q0 := hcell 0 (by decide); have q1 := hcell 1 (by decide); have q2 := hcell 2 (by decide); have q3 := hcell 3 (by decide); simp only [encC, List.getElem?_cons_zero, List.getElem?_cons_succ] at q0 q1 q2 q3; have RX := HR.out.below hb HR.out.lt; have HRX := Lib.hid RX; have l1 := RX.lt; have y0 := RX.cell 0; have y1 := RX.cell 1; have y2 := RX.cell 2; have y3 := RX.cell 3; have f0 := RX.free 0; have f1 := RX.free 1; have f2 := RX.free 2; have f3 := RX.free 3; simp only [List.getElem?_toArray, List.getElem?_cons_zero, List.getElem?_cons_succ] at y0 y1 y2 y3; clear hb RX hg hcell)
    refine bodyPost_ret (results_ct rfl _ _ g x.cand x.of_ x.rest x.until_ rfl (four_put HRX.out _ _ _ _)) rfl ?_
    exact ⟨rfl, (HB.out.trans (HB1.out.mono HB.out.size) |>.setCell (p := ⟨g, 0, none⟩) HG.out _ |>.setCell (p := ⟨g, 1, none⟩) HG.out _ |>.setCell (p := ⟨g, 2, none⟩) HG.out _ |>.setCell (p := ⟨g, 3, none⟩) HG.out _)⟩
end Go.Proofs.Ytinhjobjlpkflaa
