/- Small contracts of the texts: names of days, the first day of a group. -/
import Derived.Test.YtmfpaankkoaoaaaDoorUm
import Derived.Test.YtmfpaankkoaoaaaDoorUi
namespace Go.Proofs.YtmfpaankkoaoaaaDoor
open Go.RowKit Go.Shelf

set_option maxHeartbeats 400000 in
theorem first_any (days : Nat) (h : Nat) (hd : days ≤ 16777215) (w : World) (ht : TzT w) (h2 : 2 < w.heap.size) : Calls Tryd.prog 49 #[.agg #[.int .i64 (days : Int), .int .i64 (h : Int)]] w fun e w' => e = .returned (.int .i64 (Lib.ctz 64 days)) ∧ Below w.heap.size w w' := by
  have T1 := Lib.hid (fun u (hu : TzT u) => tz_any days (by omega) u hu)
  have HT := Lib.hid ht
  have W1 := show IntKind.u64.wrap (days : Int) = (days : Int) by rw [IntKind.wrap_u64]; omega
  clear ht
  go_enter Tryd.func49, Tryd.ntmps49
  go_wp2_with (go_at_call 70; ((with_reducible refine Calls.mono (T1.out _ (HT.out.keep (Below.refl _ _ |>.alloc (Nat.le_refl _) _) h2)) ?_); rintro e' w1 ⟨rfl, hw⟩; rw [hw]))
  go_ret
  exact ⟨rfl, (Below.refl _ _).alloc (Nat.le_refl _) _⟩
end Go.Proofs.YtmfpaankkoaoaaaDoor
