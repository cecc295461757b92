/- Contracts of the rotations of words: each returns what the plain function rotr of Dm says. -/
import Derived.Test.YtnbhhhbmeafkaaaDoorProg
import Derived.Test.YtnbhhhbmeafkaaaDoorDm
import Derived.WalkKit
import Derived.WalkSpells
import Derived.WalkLawsBesides
import Derived.Lib.Hide
import Derived.Deep.QuietTactic
import Derived.BigQuiet
import Derived.Laws.Shifts
import Derived.Laws.ShiftsVarLaws
namespace Go.Proofs.YtnbhhhbmeafkaaaDoor
open Go.RowKit

theorem ret_int' {k : IntKind} {a b : Int} (h : a = b) : Ending.returned (.int k a) = .returned (.int k b) := by rw [h]
theorem xor_u32 (x b : Nat) (hx : x < 4294967296) (hb : b < 4294967296) : bits .xor .u32 (x : Int) (b : Int) = ((x ^^^ b : Nat) : Int) := by
  rw [u32_xor _ _ (by omega) (by omega) (by omega) (by omega)]; simp
theorem and_u32 (x b : Nat) (hx : x < 4294967296) (hb : b < 4294967296) : bits .and .u32 (x : Int) (b : Int) = ((x &&& b : Nat) : Int) := by
  rw [u32_and _ _ (by omega) (by omega) (by omega) (by omega)]; simp
theorem or_u32 (x b : Nat) (hx : x < 4294967296) (hb : b < 4294967296) : bits .or .u32 (x : Int) (b : Int) = ((x ||| b : Nat) : Int) := by
  rw [u32_or _ _ (by omega) (by omega) (by omega) (by omega)]; simp
theorem wrap_u32 (x : Nat) : IntKind.u32.wrap (x : Int) = ((x % 4294967296 : Nat) : Int) := by
  rw [IntKind.wrap_u32]; omega

theorem shl_cast (x k : Nat) : (x : Int) * 2 ^ k % 4294967296 = ((x * 2 ^ k % 4294967296 : Nat) : Int) := by
  rw [Int.natCast_emod, Int.natCast_mul, Int.natCast_pow]; rfl
theorem shr_cast (x k : Nat) : (x : Int) / 2 ^ k = ((x / 2 ^ k : Nat) : Int) := by
  rw [Int.natCast_ediv, Int.natCast_pow]; rfl

set_option maxHeartbeats 400000 in
theorem rotl_any (x n : Nat) (w : World) (hx : x < 4294967296) (h1 : 1 ≤ n) (h2 : n ≤ 31) :
    Calls Tryd.prog 75 #[.int .u32 (x : Int), .int .i64 (-(n : Int))] w fun e w' => e = .returned (.int .u32 (Dm.rotr x n : Nat)) ∧ w = w' := by
  have k0 : IntKind.u64.wrap (-(n : Int)) = ((18446744073709551616 - n : Nat) : Int) := by rw [IntKind.wrap_u64]; omega
  have k1 : bits .and .u64 ((18446744073709551616 - n : Nat) : Int) 31 = ((32 - n : Nat) : Int) := by
    rw [u64_and _ _ (by omega) (by omega) (by omega) (by omega)]
    simp only [Int.toNat_natCast]
    congr 1
    have : (31 : Int).toNat = 2 ^ 5 - 1 := by decide
    rw [this, Nat.and_two_pow_sub_one_eq_mod]; omega
  go_enter Tryd.func75, Tryd.ntmps75
  go_wp2
  go_ret
  refine ⟨ret_int' ?_, rfl⟩
  have hs : 32 - (32 - n) = n := by omega
  rw [hs, shl_cast, shr_cast, or_u32 _ _ (Nat.mod_lt _ (by decide)) (Dm.div_lt _ _ hx)]
  rfl

set_option maxHeartbeats 400000 in
theorem refRot_any (x n : Nat) (w : World) (hx : x < 4294967296) (h1 : 1 ≤ n) (h2 : n ≤ 31) :
    Calls Tryd.prog 60 #[.int .u32 (x : Int), .int .i64 (n : Int)] w fun e w' => e = .returned (.int .u32 (Dm.rotr x n : Nat)) ∧ ∃ d, w' = w.drewN d := by
  have k1 : IntKind.i64.wrap (32 - (n : Int)) = ((32 - n : Nat) : Int) := by rw [IntWalk.i64_in _ (by omega)]; omega
  go_enter Tryd.func60, Tryd.ntmps60
  go_wp2
  go_quiet (fail)
  go_wp2
  go_ret
  refine ⟨ret_int' ?_, ⟨_, rfl⟩⟩
  rw [shl_cast, shr_cast, or_u32 _ _ (Dm.div_lt _ _ hx) (Nat.mod_lt _ (by decide)), Nat.or_comm]
  rfl

set_option maxHeartbeats 400000 in
theorem rot_any (x n : Nat) (w : World) (hx : x < 4294967296) (h1 : 1 ≤ n) (h2 : n ≤ 31) :
    Calls Tryd.prog 71 #[.int .u32 (x : Int), .int .i64 (n : Int)] w fun e w' => e = .returned (.int .u32 (Dm.rotr x n : Nat)) ∧ w = w' := by
  have k1 : IntKind.i64.wrap (-(n : Int)) = -(n : Int) := IntWalk.i64_in _ (by omega)
  go_enter Tryd.func71, Tryd.ntmps71
  go_wp2_with (go_at_call 75; refine (rotl_any _ _ _ hx h1 h2).mono ?_; rintro e w' ⟨rfl, rfl⟩)
  go_ret
  exact ⟨rfl, rfl⟩
end Go.Proofs.YtnbhhhbmeafkaaaDoor
