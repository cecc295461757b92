/- Contracts of the small functions that compute with numbers alone (pick, fold, unfold, zigzag): each returns what the plain function of Wm says, for every argument in its range. -/
import Derived.Test.YtihifbhfgdifeaaDoorProg
import Derived.Test.YtihifbhfgdifeaaDoorWm
import Derived.WalkKit
import Derived.WalkSpells
import Derived.WalkLawsBesides
import Derived.Lib.Hide
import Derived.Lib.IndexBytes
namespace Go.Proofs.YtihifbhfgdifeaaDoor
open Go.RowKit

theorem ret_int' {k : IntKind} {a b : Int} (h : a = b) : Ending.returned (.int k a) = .returned (.int k b) := by rw [h]

def pickZ (c n : Int) : Int := (if c < 0 then -(c + 1) else c) % n
theorem pickZ_bd (c n : Int) (hn : 1 ≤ n) : 0 ≤ pickZ c n ∧ pickZ c n < n := by
  unfold pickZ
  exact ⟨Int.emod_nonneg _ (by omega), Int.emod_lt_of_pos _ (by omega)⟩

set_option maxHeartbeats 400000 in
theorem pick_any (c n : Int) (w : World) (hc1 : -9223372036854775808 ≤ c) (hc2 : c ≤ 9223372036854775807) (hn1 : 1 ≤ n) (hn2 : n ≤ 9223372036854775807) :
    Calls Tryd.prog 14 #[.int .i64 c, .int .i64 n] w fun e w' => e = .returned (.int .i64 (pickZ c n)) ∧ w = w' := by
  by_cases h : c < 0
  · have hp : pickZ c n = -(c + 1) % n := by unfold pickZ; rw [if_pos h]
    rw [hp]
    go_enter Tryd.func14, Tryd.ntmps14
    go_wp2
    go_ret
    exact ⟨ret_int' (by rw [← Int.neg_tmod]; exact Int.tmod_eq_emod_of_nonneg (by omega)), rfl⟩
  · have hp : pickZ c n = c % n := by unfold pickZ; rw [if_neg h]
    rw [hp]
    go_enter Tryd.func14, Tryd.ntmps14
    go_wp2
    go_ret
    exact ⟨rfl, rfl⟩

set_option maxHeartbeats 400000 in
theorem fold_any (n : Int) (w : World) (h1 : -4611686018427387904 ≤ n) (h2 : n ≤ 4611686018427387903) :
    Calls Tryd.prog 24 #[.int .i64 n] w fun e w' => e = .returned (.int .u64 (Wm.foldZ n : Nat)) ∧ w = w' := by
  by_cases h : n < 0
  · have hp : ((Wm.foldZ n : Nat) : Int) = 2 * (-n) - 1 := by unfold Wm.foldZ; rw [if_pos h]; omega
    rw [hp]
    go_enter Tryd.func24, Tryd.ntmps24
    go_wp2
    go_ret
    exact ⟨ret_int' (by rfl), rfl⟩
  · have hp : ((Wm.foldZ n : Nat) : Int) = 2 * n := by unfold Wm.foldZ; rw [if_neg h]; omega
    rw [hp]
    go_enter Tryd.func24, Tryd.ntmps24
    go_wp2
    go_ret
    exact ⟨ret_int' (by rfl), rfl⟩

set_option maxHeartbeats 400000 in
theorem zigzag_any (n : Int) (w : World) (h1 : -4611686018427387904 ≤ n) (h2 : n ≤ 4611686018427387903) :
    Calls Tryd.prog 25 #[.int .i64 n] w fun e w' => e = .returned (.int .u64 (Wm.foldZ n : Nat)) ∧ w = w' := by
  by_cases h : n < 0
  · have hp : ((Wm.foldZ n : Nat) : Int) = (-n) * 2 - 1 := by unfold Wm.foldZ; rw [if_pos h]; omega
    rw [hp]
    go_enter Tryd.func25, Tryd.ntmps25
    go_wp2
    go_ret
    exact ⟨ret_int' (by rfl), rfl⟩
  · have hp : ((Wm.foldZ n : Nat) : Int) = n * 2 := by unfold Wm.foldZ; rw [if_neg h]; omega
    rw [hp]
    go_enter Tryd.func25, Tryd.ntmps25
    go_wp2
    go_ret
    exact ⟨ret_int' (by rfl), rfl⟩

set_option maxHeartbeats 400000 in
theorem unfold_any (z : Nat) (w : World) (hz : z < 9223372036854775808) :
    Calls Tryd.prog 27 #[.int .u64 (z : Int)] w fun e w' => e = .returned (.int .i64 (Wm.unfoldZ z)) ∧ w = w' := by
  by_cases h : z % 2 = 1
  · have hp : Wm.unfoldZ z = -((z / 2 : Nat) : Int) - 1 := by unfold Wm.unfoldZ; rw [if_pos h]
    have hb : (((z : Int) % 2) == 1) = true := by rw [beq_iff_eq]; omega
    rw [hp]
    go_enter Tryd.func27, Tryd.ntmps27
    go_wp2
    go_ret
    exact ⟨ret_int' (by omega), rfl⟩
  · have hp : Wm.unfoldZ z = ((z / 2 : Nat) : Int) := by unfold Wm.unfoldZ; rw [if_neg h]
    have hb : (((z : Int) % 2) == 1) = false := by rw [beq_eq_false_iff_ne]; omega
    rw [hp]
    go_enter Tryd.func27, Tryd.ntmps27
    go_wp2
    go_ret
    exact ⟨ret_int' (by omega), rfl⟩

end Go.Proofs.YtihifbhfgdifeaaDoor
