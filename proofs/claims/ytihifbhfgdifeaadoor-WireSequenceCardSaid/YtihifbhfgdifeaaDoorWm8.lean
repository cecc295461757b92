/- The walk of WireSequence where there is nothing to encode. -/
import Derived.Test.YtihifbhfgdifeaaDoorWm7
namespace Go.Proofs.YtihifbhfgdifeaaDoor
open Go.RowKit

set_option maxRecDepth 100000 in
set_option maxHeartbeats 1000000 in
theorem seq_zero (a1 a2 : Option Addr) (l1 c1 l2 c2 : Nat) (w : World) (ht : TabOk w) (h : l1 = 0 ∨ l2 = 0) :
    Calls Tryd.prog 6 #[.slice a1 l1 c1, .slice a2 l2 c2] w fun e w' => e = .returned (.bool true) ∧ Below w.heap.size w w' := by
  have hsn := fun w h => sane_any w h
  have hmin := fun (w : World) => run_min_int3' (P := Tryd.prog) (w := w) #[3, 3, 3] 3 .i64 .i64 .i64 l1 l2 20 0 (by omega)
  have hE : ∀ w, Calls Tryd.prog 15 #[.string ⟨#[]⟩, .int .i64 0] w fun e w' => e = .returned (.tuple #[.int .i64 0, .int .i64 0, .int .i64 10]) ∧ w = w' := fun w => int_any ⟨#[]⟩ 0 w (by decide) (by decide) (by decide)
  have H0 := Lib.hid hsn; have H1 := Lib.hid hE; clear hsn hE h
  have HT := Lib.hid ht; clear ht
  go_enter Tryd.func6, Tryd.ntmps6
  go_wp2_with fail
  refine (H0.out _ HT.out).mono ?_
  rintro e w1 ⟨rfl, b1'⟩
  go_wp2_with fail
  refine wp_loop_rounds 1 ?_
  rw [rounds_succ]
  go_wp2_with fail
  refine wp_loop_rounds 1 ?_
  rw [rounds_succ]
  go_wp2_with fail
  refine (H1.out _).mono ?_
  rintro e w' ⟨rfl, rfl⟩
  go_wp2
  go_ret
  exact ⟨rfl, b1'⟩
end Go.Proofs.YtihifbhfgdifeaaDoor
