/- Equal weeks are equal, in the program's words. -/
import Derived.Test.YtmfpaankkoaoaaaDoorVq
import Derived.ChangeKeysEq
import Derived.Laws.StructEq
namespace Go.Proofs.YtmfpaankkoaoaaaDoor
open Go.RowKit Go.Shelf

theorem run_part_int (xs : Array Value) (off : Nat) (x : Int) (h : xs[off]? = some (.int .i64 x)) (w : World) : (part 3 xs off).run Tryd.prog w = .ok (.int .i64 x) w := by
  simp [part, isAgg, run_underlying Tryd.underlying3, h]
theorem equal_weeks (a b c d e f g : Int) (w : World) : (Op.equalIn 10000 23 (.agg #[.int .i64 a, .int .i64 b, .int .i64 c, .int .i64 d, .int .i64 e, .int .i64 f, .int .i64 g]) (.agg #[.int .i64 a, .int .i64 b, .int .i64 c, .int .i64 d, .int .i64 e, .int .i64 f, .int .i64 g])).run Tryd.prog w = .ok true w := by
  obtain ⟨i, hi⟩ := info_of_underlying Tryd.underlying3
  rw [run_equalIn_array w 9999 _ _ Tryd.underlying23 hi]
  have hc : Tryd.prog.cellsOf 3 = 1 := by kernel_rfl
  rw [hc]
  obtain ⟨xs, hxs⟩ : ∃ xs : Array Value, #[.int .i64 a, .int .i64 b, .int .i64 c, .int .i64 d, .int .i64 e, .int .i64 f, .int .i64 g] = xs := ⟨_, rfl⟩
  have p0 := fun w => run_part_int xs 0 a (by rw [← hxs]; rfl) w
  have p1 := fun w => run_part_int xs 1 b (by rw [← hxs]; rfl) w
  have p2 := fun w => run_part_int xs 2 c (by rw [← hxs]; rfl) w
  have p3 := fun w => run_part_int xs 3 d (by rw [← hxs]; rfl) w
  have p4 := fun w => run_part_int xs 4 e (by rw [← hxs]; rfl) w
  have p5 := fun w => run_part_int xs 5 f (by rw [← hxs]; rfl) w
  have p6 := fun w => run_part_int xs 6 g (by rw [← hxs]; rfl) w
  rw [hxs]
  have q := fun x w => run_equalIn_int (P := Tryd.prog) w 9998 3 .i64 .i64 x x Tryd.underlying3
  rw [show List.range 7 = [0, 1, 2, 3, 4, 5, 6] from rfl]
  simp only [Op.eqItems, Sem.run_bind, Nat.mul_one, p0, p1, p2, p3, p4, p5, p6, q, beq_self_eq_true, Result.andThen_ok, Bool.not_true, Bool.false_eq_true, if_false, Sem.run_pure]
theorem neq_weeks (a b c d e f g : Int) (w : World) : (binOp .neq 23 (.agg #[.int .i64 a, .int .i64 b, .int .i64 c, .int .i64 d, .int .i64 e, .int .i64 f, .int .i64 g]) (.agg #[.int .i64 a, .int .i64 b, .int .i64 c, .int .i64 d, .int .i64 e, .int .i64 f, .int .i64 g])).run Tryd.prog w = .ok (.bool false) w := by
  rw [run_neq_struct, equal_weeks]
  rfl
theorem eql_weeks (a b c d e f g : Int) (w : World) : (binOp .eql 23 (.agg #[.int .i64 a, .int .i64 b, .int .i64 c, .int .i64 d, .int .i64 e, .int .i64 f, .int .i64 g]) (.agg #[.int .i64 a, .int .i64 b, .int .i64 c, .int .i64 d, .int .i64 e, .int .i64 f, .int .i64 g])).run Tryd.prog w = .ok (.bool true) w := by
  rw [run_eql_struct, equal_weeks]
  rfl
end Go.Proofs.YtmfpaankkoaoaaaDoor
