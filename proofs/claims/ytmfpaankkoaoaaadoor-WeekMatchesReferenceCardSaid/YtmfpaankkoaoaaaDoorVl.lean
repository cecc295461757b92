/- readGroup. -/
import Derived.Test.YtmfpaankkoaoaaaDoorVk
namespace Go.Proofs.YtmfpaankkoaoaaaDoor
open Go.RowKit Go.Shelf

def comma : ByteArray := ⟨#[44]⟩
def space : ByteArray := ⟨#[32]⟩
theorem rdStep_le {rd : ByteArray → Int × Int} (hbd : ∀ x, ¬ (rd x).2 ≤ (rd x).1 → 0 ≤ (rd x).1 ∧ (rd x).2 ≤ 24) : ∀ (l : List ByteArray) (s : Nat) (e : Int), s ≤ 16777215 → rdStep rd l s e ≤ 16777215
  | [], s, e, h => h
  | x :: xs, s, e, h => by
    by_cases hc : (rd x).2 ≤ (rd x).1 ∨ (rd x).1 ≤ e
    · rw [rdStep_bad hc]; omega
    · rw [rdStep_ok hc]
      have := hbd x (fun h => hc (.inl h))
      exact rdStep_le hbd xs _ _ (or_le24 h (by omega))
/-- The days and the hours that the text of a group says; 0 for what is wrong. -/
def grpDays (s : ByteArray) : Nat := rdStep rdD (ptl comma ((cut1 s space).size + 1) (cut1 s space)) 0 (-1)
def grpHours (s : ByteArray) : Nat := rdStep rdH (ptl space ((cut2 s space).size + 1) (cut2 s space)) 0 (-1)
theorem grpDays_le (s : ByteArray) : grpDays s ≤ 16777215 := rdStep_le rdD_bd _ _ _ (by omega)
theorem grpHours_le (s : ByteArray) : grpHours s ≤ 16777215 := rdStep_le rdH_bd _ _ _ (by omega)
theorem results_gb {fn : Func} {p u : Tmp} (h : fn.results = #[.cell p 63, .tmp u]) (tmps : Array Value) (w : World) (g : Nat) (a b : Int)
    (hp : tmps.getD p undef = .pointer (some ⟨g, 0, none⟩)) (hg : Row w g 63 #[.int .i64 a, .int .i64 b]) :
    (results fn tmps).run Tryd.prog w = .ok (.tuple #[.agg #[.int .i64 a, .int .i64 b], tmps.getD u undef]) w := by
  have e := run_loadVar_row (P := Tryd.prog) w g 63 63 #[.int .i64 a, .int .i64 b] (0, 0) _ hg Tryd.underlying63 rfl (by kernel_rfl)
  rw [results_cell_tmp h, hp]
  simp [asAddr, Result.andThen, e]
set_option maxRecDepth 100000 in
set_option maxHeartbeats 4000000 in
theorem readGroup_any (s : ByteArray) (hs : s.size < 4294967281) (w : World) (ht : Tabs w) : Calls Tryd.prog 48 #[.string s] w fun e w' =>
    e = .returned (.tuple #[.agg #[.int .i64 (grpDays s : Int), .int .i64 (grpHours s : Int)], .bool (decide (grpDays s ≠ 0) && decide (grpHours s ≠ 0))]) ∧ Below w.heap.size w w' := by
  have HT := Lib.hid ht
  have HC := Lib.hid (fun u (hu : Tabs u) => cut_any s space u hs hu.c)
  have hc1 : (cut1 s space).size < 4294967281 := Nat.lt_of_le_of_lt (cut1_le s space) hs
  have hc2 : (cut2 s space).size < 4294967281 := Nat.lt_of_le_of_lt (cut2_le s space) hs
  have H1 := Lib.hid (fun u (hu : Tabs u) => readRunsD (cut1 s space) comma hc1 (by decide) u hu (fun x hx v hv => readDays_any x hx v hv.d hv.c (show 0 < v.heap.size by have := hv.n; omega)))
  have H2 := Lib.hid (fun u (hu : Tabs u) => readRunsH (cut2 s space) space hc2 (by decide) u hu (fun x hx v hv => readHours_any x hx v hv.p hv.c))
  unfold grpDays grpHours
  obtain ⟨A, hA⟩ : ∃ A, rdStep rdD (ptl comma ((cut1 s space).size + 1) (cut1 s space)) 0 (-1) = A := ⟨_, rfl⟩
  obtain ⟨B, hB⟩ : ∃ B, rdStep rdH (ptl space ((cut2 s space).size + 1) (cut2 s space)) 0 (-1) = B := ⟨_, rfl⟩
  rw [hA] at H1 ⊢
  rw [hB] at H2 ⊢
  obtain ⟨C1, h1⟩ : ∃ C, cut1 s space = C := ⟨_, rfl⟩
  obtain ⟨C2, h2⟩ : ∃ C, cut2 s space = C := ⟨_, rfl⟩
  rw [h1] at HC H1
  rw [h2] at HC H2
  unfold space comma at *
  clear hA hB h1 h2 hc1 hc2 ht hs
  have HB0 := Lib.hid ((Below.refl w.heap.size w).alloc (Nat.le_refl _) (.cells #[.int .i64 0, .int .i64 0] 63))
  have HR0 := Lib.hid (Row.new w 63 #[.int .i64 0, .int .i64 0])
  go_enter Tryd.func48, Tryd.ntmps48
  go_upto_region 3 with (first | (go_at_call 66; ((with_reducible refine Calls.mono (HC.out _ (HT.out.next HB0.out)) ?_); rintro e' w1 ⟨rfl, hb1⟩; have HB1 := Lib.hid (HB0.out.trans (hb1.mono HB0.out.size)); have HR1 := Lib.hid (HR0.out.below hb1 HR0.out.lt); clear hb1)) | (go_at_call 67; ((with_reducible refine Calls.mono (H1.out _ (HT.out.next HB1.out)) ?_); rintro e' w2 ⟨rfl, hb2⟩; have HB2 := Lib.hid (below_to HB1.out hb2); have HR2 := Lib.hid (HR1.out.below hb2 HR1.out.lt); clear hb2)) | (go_at_call 67; ((with_reducible refine Calls.mono (H2.out _ (HT.out.next HB2.out)) ?_); rintro e' w3 ⟨rfl, hb3⟩; have HB3 := Lib.hid (below_to HB2.out hb3); have HR3 := Lib.hid (HR2.out.below hb3 HR2.out.lt); clear hb3)))
  have l3 := HR3.out.lt
  have g0 := HR3.out.cell 0
  have g1 := HR3.out.cell 1
  have f0 := HR3.out.free 0
  have f1 := HR3.out.free 1
  obtain ⟨W4, hW4⟩ : ∃ W4, w3.alloc (.cells #[.int .i64 (A : Int), .int .i64 (B : Int)] 63) = W4 := ⟨_, rfl⟩
  have HG4 : Hid (Row W4 w.heap.size 63 #[.int .i64 0, .int .i64 0]) := Lib.hid (by rw [← hW4]; exact HR3.out.alloc _)
  have HN4 : Hid (Row W4 w3.heap.size 63 #[.int .i64 (A : Int), .int .i64 (B : Int)]) := Lib.hid (by rw [← hW4]; exact Row.new _ _ _)
  have HB4 : Hid (Below w.heap.size w W4) := Lib.hid (by rw [← hW4]; exact HB3.out.alloc HB3.out.size _)
  rw [hW4]
  clear hW4 g0 g1 f0 f1
  have g0 := HG4.out.cell 0
  have g1 := HG4.out.cell 1
  have f0 := HG4.out.free 0
  have f1 := HG4.out.free 1
  have m0 := HN4.out.cell 0
  have m1 := HN4.out.cell 1
  have hne : w.heap.size ≠ w3.heap.size := by omega
  by_cases hA0 : A = 0
  · have t1 : ((A : Int) == 0) = true := by simp; omega
    have t2 : ((A : Int) != 0) = false := by simp; omega
    have HQ := Lib.hid (show (decide (A ≠ 0) && decide (B ≠ 0)) = false by rw [decide_eq_false (fun h => h hA0)]; rfl)
    clear hA0
    go_region
    go_wp2
    have hrow := (HG4.out.put 0 (.int .i64 (A : Int))).put 1 (.int .i64 (B : Int))
    refine bodyPost_ret (results_gb rfl _ _ w.heap.size (A : Int) (B : Int) rfl hrow) rfl ⟨by rw [HQ.out]; rfl, ?_⟩
    exact ((HB4.out.drew.setCell (p := ⟨w.heap.size, 0, none⟩) (Nat.le_refl _) _).setCell (p := ⟨w.heap.size, 1, none⟩) (Nat.le_refl _) _)
  · have t1 : ((A : Int) == 0) = false := by simp; omega
    have t2 : ((A : Int) != 0) = true := by simp; omega
    by_cases hB0 : B = 0
    · have t3 : ((B : Int) == 0) = true := by simp; omega
      have t4 : ((B : Int) != 0) = false := by simp; omega
      have HQ := Lib.hid (show (decide (A ≠ 0) && decide (B ≠ 0)) = false by rw [decide_eq_true hA0, decide_eq_false (fun h => h hB0)]; rfl)
      clear hA0 hB0
      go_region
      go_wp2
      have hrow := (HG4.out.put 0 (.int .i64 (A : Int))).put 1 (.int .i64 (B : Int))
      refine bodyPost_ret (results_gb rfl _ _ w.heap.size (A : Int) (B : Int) rfl hrow) rfl ⟨by rw [HQ.out]; rfl, ?_⟩
      exact ((HB4.out.drew.setCell (p := ⟨w.heap.size, 0, none⟩) (Nat.le_refl _) _).setCell (p := ⟨w.heap.size, 1, none⟩) (Nat.le_refl _) _)
    · have t3 : ((B : Int) == 0) = false := by simp; omega
      have t4 : ((B : Int) != 0) = true := by simp; omega
      have HQ := Lib.hid (show (decide (A ≠ 0) && decide (B ≠ 0)) = true by rw [decide_eq_true hA0, decide_eq_true hB0]; rfl)
      clear hA0 hB0
      go_region
      go_wp2
      have hrow := (HG4.out.put 0 (.int .i64 (A : Int))).put 1 (.int .i64 (B : Int))
      refine bodyPost_ret (results_gb rfl _ _ w.heap.size (A : Int) (B : Int) rfl hrow) rfl ⟨by rw [HQ.out]; rfl, ?_⟩
      exact ((HB4.out.drew.setCell (p := ⟨w.heap.size, 0, none⟩) (Nat.le_refl _) _).setCell (p := ⟨w.heap.size, 1, none⟩) (Nat.le_refl _) _)
end Go.Proofs.YtmfpaankkoaoaaaDoor
