/- Contract of few. -/
import Derived.Test.YtfbgfcpehlimfaaCw
import Derived.Test.YtfbgfcpehlimfaaCt
import Derived.Test.YtfbgfcpehlimfaaL8
import Derived.StillTailTactics
import Derived.RegionTactic
import Derived.BigRegion
import Derived.Deep.DeepCutAuto
namespace Go.Proofs.Ytfbgfcpehlimfaa
open Go.RowKit

set_option maxRecDepth 100000 in
set_option maxHeartbeats 4000000 in
theorem few_any (d : Int) (A : Option Addr) (n c M : Nat) (w : World) (hM : min n 13 = M) (hc1 : n ≤ c) (hc2 : c ≤ 9223372036854775807) :
    Calls Try.prog 14 #[.agg #[.int .i64 d, .slice A n c]] w fun e w' => e = .returned (.agg #[.int .i64 d, .slice A M c]) ∧ Below w.heap.size w w' := by
  have hmn := fun (w : World) => run_min2 (P := Try.prog) (w := w) #[3, 3] 3 .i64 .i64 (n : Int) 13 (M : Int) (by omega)
  have hMc : M ≤ c := by omega
  have hMn : M ≤ n := by omega
  obtain ⟨W0, hW0⟩ : ∃ W0, (w.alloc (.cells #[.int .i64 d, .slice A n c] 24)).alloc (.cells #[.int .i64 0, .slice none 0 0] 24) = W0 := ⟨_, rfl⟩
  have hb : Below w.heap.size w W0 := by rw [← hW0]; exact ((Below.refl _ _).alloc (Nat.le_refl _) _).alloc (by simp) _
  have hB : Row W0 (w.heap.size + 1) 24 #[.int .i64 0, .slice none 0 0] := by
    have := Row.new (w.alloc (.cells #[.int .i64 d, .slice A n c] 24)) 24 #[.int .i64 0, .slice none 0 0]
    rw [hW0] at this; simpa using this
  have hA : Row W0 w.heap.size 24 #[.int .i64 d, .slice A n c] := by rw [← hW0]; exact (Row.new w _ _).alloc _
  have z0 := hB.cell 0
  have z1 := hB.cell 1
  have f0 := hB.free 0
  have f1 := hB.free 1
  have p0 := hA.cell 0
  have p1 := hA.cell 1
  simp only [List.getElem?_toArray, List.getElem?_cons_zero, List.getElem?_cons_succ] at z0 z1 p0 p1
  have HSL : Hid (∀ w, (Instr.slice 22 (.slice A n c) none (some (.int .i64 (M : Int))) none).run Try.prog w = .ok (.slice A M c) w) := Lib.hid (fun w => by
    simp only [Instr.slice]
    go_simp)
  have HW0 := Lib.hid hW0; have HB := Lib.hid hb; have HZ := Lib.hid hB
  clear hW0 hb hB hA hM
  go_enter Try.func14, Try.ntmps14
  go_upto_region 1 with (fail)
  rw [HW0.out]
  clear HW0
  have hsl := HSL.out
  clear HSL
  go_still_tail 10, (by kernel_rfl)
  all_goals
    go_wp2_with fail
    have hfin : Row ((W0.setCell ⟨w.heap.size + 1, 0, none⟩ (.int .i64 d)).setCell ⟨w.heap.size + 1, 1, none⟩ (.slice A M c)).drew (w.heap.size + 1) 24 #[.int .i64 d, .slice A M c] := by
      have := (HZ.out.put 0 (.int .i64 d)).put 1 (.slice A M c)
      have h2 : Row ((W0.setCell ⟨w.heap.size + 1, 0, none⟩ (.int .i64 d)).setCell ⟨w.heap.size + 1, 1, none⟩ (.slice A M c)) (w.heap.size + 1) 24 #[.int .i64 d, .slice A M c] := by simpa using this
      exact h2
    refine bodyPost_ret (results_cell_row rfl _ _ (w.heap.size + 1) 24 #[.int .i64 d, .slice A M c] (0, 0) _ rfl hfin Try.underlying24 rfl (by kernel_rfl)) rfl ?_
    exact ⟨rfl, ((Below.drew HB.out).setCell (by dsimp only; omega) _).setCell (by dsimp only; omega) _⟩
end Go.Proofs.Ytfbgfcpehlimfaa
