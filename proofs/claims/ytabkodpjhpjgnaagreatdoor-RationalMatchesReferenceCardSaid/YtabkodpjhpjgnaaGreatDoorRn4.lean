/- Two arrays of the same fractions, or of the same errors, are not unequal. -/
import Derived.Test.YtabkodpjhpjgnaaGreatDoorProg
import Derived.ChangeKeysEq
import Derived.Laws.StructEq
import Derived.WalkKit
namespace Go.Proofs.YtabkodpjhpjgnaaGreatDoor
open Go.RowKit

theorem run_part_ratio (xs : Array Value) (off : Nat) (s t : ByteArray) (h : xs.extract off (off + 2) = #[.string s, .string t]) (w : World) : (part 23 xs off).run Tryz.prog w = .ok (.agg #[.string s, .string t]) w := by
  simp [part, isAgg, run_underlying Tryz.underlying23, Tryz.sizeOf23, h]
set_option maxRecDepth 100000 in
theorem eq_ratio (d : Nat) (s t : ByteArray) (w : World) : (Op.equalIn (d + 1 + 1) 23 (.agg #[.string s, .string t]) (.agg #[.string s, .string t])).run Tryz.prog w = .ok true w := by
  rw [run_equalIn_agg w (d + 1) 23 _ _ Tryz.underlying23 (by kernel_rfl)]
  go_simp
theorem neq_ratios (s0 t0 s1 t1 s2 t2 s3 t3 : ByteArray) (w : World) : (binOp .neq 31 (.agg #[.string s0, .string t0, .string s1, .string t1, .string s2, .string t2, .string s3, .string t3]) (.agg #[.string s0, .string t0, .string s1, .string t1, .string s2, .string t2, .string s3, .string t3])).run Tryz.prog w = .ok (.bool false) w := by
  rw [run_neq_struct]
  obtain ⟨i, hi⟩ := info_of_underlying Tryz.underlying23
  rw [run_equalIn_array w 9999 _ _ Tryz.underlying31 hi]
  have hc : Tryz.prog.cellsOf 23 = 2 := by kernel_rfl
  rw [hc]
  have p0 := fun w => run_part_ratio #[.string s0, .string t0, .string s1, .string t1, .string s2, .string t2, .string s3, .string t3] 0 s0 t0 rfl w
  have p1 := fun w => run_part_ratio #[.string s0, .string t0, .string s1, .string t1, .string s2, .string t2, .string s3, .string t3] 2 s1 t1 rfl w
  have p2 := fun w => run_part_ratio #[.string s0, .string t0, .string s1, .string t1, .string s2, .string t2, .string s3, .string t3] 4 s2 t2 rfl w
  have p3 := fun w => run_part_ratio #[.string s0, .string t0, .string s1, .string t1, .string s2, .string t2, .string s3, .string t3] 6 s3 t3 rfl w
  have q := fun s t w => eq_ratio 9997 s t w
  rw [show List.range 4 = [0, 1, 2, 3] from rfl]
  simp only [Op.eqItems, Sem.run_bind, Nat.zero_mul, Nat.reduceMul, Nat.one_mul, p0, p1, p2, p3, q, Result.andThen_ok, Bool.not_true, Bool.false_eq_true, if_false, Sem.run_pure]
theorem run_part_errno (xs : Array Value) (off : Nat) (x : Int) (h : xs[off]? = some (.int .i64 x)) (w : World) : (part 32 xs off).run Tryz.prog w = .ok (.int .i64 x) w := by
  simp [part, isAgg, run_underlying Tryz.underlying32, h]
theorem neq_errnos (a b c d : Int) (w : World) : (binOp .neq 33 (.agg #[.int .i64 a, .int .i64 b, .int .i64 c, .int .i64 d]) (.agg #[.int .i64 a, .int .i64 b, .int .i64 c, .int .i64 d])).run Tryz.prog w = .ok (.bool false) w := by
  rw [run_neq_struct]
  obtain ⟨i, hi⟩ := info_of_underlying Tryz.underlying32
  rw [run_equalIn_array w 9999 _ _ Tryz.underlying33 hi]
  have hc : Tryz.prog.cellsOf 32 = 1 := by kernel_rfl
  rw [hc]
  have p0 := fun w => run_part_errno #[.int .i64 a, .int .i64 b, .int .i64 c, .int .i64 d] 0 a rfl w
  have p1 := fun w => run_part_errno #[.int .i64 a, .int .i64 b, .int .i64 c, .int .i64 d] 1 b rfl w
  have p2 := fun w => run_part_errno #[.int .i64 a, .int .i64 b, .int .i64 c, .int .i64 d] 2 c rfl w
  have p3 := fun w => run_part_errno #[.int .i64 a, .int .i64 b, .int .i64 c, .int .i64 d] 3 d rfl w
  have q := fun x w => run_equalIn_int (P := Tryz.prog) w 9998 32 .i64 .i64 x x Tryz.underlying32
  rw [show List.range 4 = [0, 1, 2, 3] from rfl]
  simp only [Op.eqItems, Sem.run_bind, Nat.mul_one, p0, p1, p2, p3, q, beq_self_eq_true, Result.andThen_ok, Bool.not_true, Bool.false_eq_true, if_false, Sem.run_pure]
end Go.Proofs.YtabkodpjhpjgnaaGreatDoor
