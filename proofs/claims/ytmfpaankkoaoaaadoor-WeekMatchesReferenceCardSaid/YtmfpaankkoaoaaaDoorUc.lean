/- Weeks as seven integers; contracts of the small functions of package week. -/
import Derived.Test.YtmfpaankkoaoaaaDoorUb
namespace Go.Proofs.YtmfpaankkoaoaaaDoor
open Go.RowKit

def ints (l : List Int) : Array Value := (l.map fun x => Value.int .i64 x).toArray
def wv (l : List Int) : Value := .agg (ints l)
theorem ints_get (l : List Int) (k : Nat) : (ints l)[k]? = (l[k]?).map fun x => Value.int .i64 x := by simp [ints]
theorem seven {l : List Int} (h : l.length = 7) : ∃ a b c d e f g, l = [a, b, c, d, e, f, g] := by
  match l, h with
  | [a, b, c, d, e, f, g], _ => exact ⟨a, b, c, d, e, f, g, rfl⟩
theorem run_index_week (l : List Int) (h7 : l.length = 7) (k : Nat) (x : Int) (hx : l[k]? = some x) (w : World) : (Instr.index 23 (wv l) (.int .i64 (k : Int))).run Tryd.prog w = .ok (.int .i64 x) w := by
  have hk : k < 7 := by have := (List.getElem?_eq_some_iff.1 hx).1; omega
  have hc := ints_get l k
  rw [hx] at hc
  unfold wv Instr.index
  simp [asIntOf, run_underlying Tryd.underlying23, part, isAgg, run_underlying Tryd.underlying3, Tryd.sizeOf3, hk, hc]
end Go.Proofs.YtmfpaankkoaoaaaDoor
