/-
  No cell of these rows narrows 'for every input' (looked for: loops, veiled, ifaces, maps, wideKeys, modest, calm, conditions, laid).
  DERIVED. THE GIVEN ROWS OF THIS SEAT. 6 by the template 'for every input the law returns true; each argument reads behind the call as it read before'; 0 by the template 'total and deterministic' (their statements: YtfbgfcpehlimfaaTotals.lean).
  GIVEN WITH THE SEED: the statements are not yours to turn. If you find one false, say at which input.
  Laid BY PROGRAM, IN A SANDBOX (cutbox-rows.mjs): the forced cells as the released guide's own fill.sh prints them over the translation fc4ebf6d6b887ce1… (all of the seat's roots in one cut). By AI agents, Wed Nov 11 2026. No macro, syntax, notation, axiom, sorry.
-/
import Derived.Test.YtfbgfcpehlimfaaChecked
import GoSem.Claim
import GoSem.ClaimJoined
import GoSem.ClaimMapViews
import Derived.JoinedTies
import Derived.KernelRfl
namespace Go.Proofs.Ytfbgfcpehlimfaa
/- THE CELL 'sum', in the pinned program and in every row, IS THE sha256 OF THE DUMP (.gsa) THAT YtfbgfcpehlimfaaProg.lean LOADS. Nothing in Lean hashes anything: it is a label: what it is worth is what the hold of that sum in a sandbox is worth. -/
noncomputable def Try.pinned : Pinned := { name := "ytfbgfcpehlimfaa", sum := "fc4ebf6d6b887ce1640ecf76ca031d775df87682ad4804c88de3201a1b283cb0", checked := Try.checked }
namespace Rows
def none {H : Type} : Left H := { results := [], args := [] }

/-- 'airchecklaw05.ClockMatchesReference': WHATEVER THE INPUT: true; the input reads as it did. -/
def clockMatchesReferenceSpec : ChangeSpec := { name := "clockMatchesReference", fn := fun _ => fun
  | [d1, d2, d3, d4, d5, d6, d7, d8] => { results := [.lit (.bool true)], args := [d1, d2, d3, d4, d5, d6, d7, d8] }
  | _ => none }
def clockMatchesReferenceRow : OpenClaim := { program := "ytfbgfcpehlimfaa", sum := "fc4ebf6d6b887ce1640ecf76ca031d775df87682ad4804c88de3201a1b283cb0", func := "aircheck/airchecklaw05.ClockMatchesReference", spec := "clockMatchesReference", unfollowed := true, recurses := true, apart := false }
def ClockMatchesReferenceSaid : Prop := clockMatchesReferenceRow.holds Try.pinned (OpenSpec.ofChange clockMatchesReferenceSpec)

/-- ITS FALSE NEIGHBOUR: 'it returns false'. Refute it at one input. -/
def clockMatchesReferenceWrong : ChangeSpec := { name := "clockMatchesReference", fn := fun _ => fun
  | [d1, d2, d3, d4, d5, d6, d7, d8] => { results := [.lit (.bool false)], args := [d1, d2, d3, d4, d5, d6, d7, d8] }
  | _ => none }
def ClockMatchesReferenceWrongFalsely : Prop := clockMatchesReferenceRow.holds Try.pinned (OpenSpec.ofChange clockMatchesReferenceWrong)

/-- 'airchecklaw05.ClockExact': WHATEVER THE INPUT: true; the input reads as it did. -/
def clockExactSpec : ChangeSpec := { name := "clockExact", fn := fun _ => fun
  | [d1, d2, d3, d4, d5] => { results := [.lit (.bool true)], args := [d1, d2, d3, d4, d5] }
  | _ => none }
def clockExactRow : OpenClaim := { program := "ytfbgfcpehlimfaa", sum := "fc4ebf6d6b887ce1640ecf76ca031d775df87682ad4804c88de3201a1b283cb0", func := "aircheck/airchecklaw05.ClockExact", spec := "clockExact", unfollowed := true, recurses := true, apart := false }
def ClockExactSaid : Prop := clockExactRow.holds Try.pinned (OpenSpec.ofChange clockExactSpec)

/-- ITS FALSE NEIGHBOUR: 'it returns false'. Refute it at one input. -/
def clockExactWrong : ChangeSpec := { name := "clockExact", fn := fun _ => fun
  | [d1, d2, d3, d4, d5] => { results := [.lit (.bool false)], args := [d1, d2, d3, d4, d5] }
  | _ => none }
def ClockExactWrongFalsely : Prop := clockExactRow.holds Try.pinned (OpenSpec.ofChange clockExactWrong)

/-- 'airchecklaw05.ClockNarrows': WHATEVER THE INPUT: true; the input reads as it did. -/
def clockNarrowsSpec : ChangeSpec := { name := "clockNarrows", fn := fun _ => fun
  | [d1, d2, d3, d4, d5, d6, d7] => { results := [.lit (.bool true)], args := [d1, d2, d3, d4, d5, d6, d7] }
  | _ => none }
def clockNarrowsRow : OpenClaim := { program := "ytfbgfcpehlimfaa", sum := "fc4ebf6d6b887ce1640ecf76ca031d775df87682ad4804c88de3201a1b283cb0", func := "aircheck/airchecklaw05.ClockNarrows", spec := "clockNarrows", unfollowed := true, recurses := true, apart := false }
def ClockNarrowsSaid : Prop := clockNarrowsRow.holds Try.pinned (OpenSpec.ofChange clockNarrowsSpec)

/-- ITS FALSE NEIGHBOUR: 'it returns false'. Refute it at one input. -/
def clockNarrowsWrong : ChangeSpec := { name := "clockNarrows", fn := fun _ => fun
  | [d1, d2, d3, d4, d5, d6, d7] => { results := [.lit (.bool false)], args := [d1, d2, d3, d4, d5, d6, d7] }
  | _ => none }
def ClockNarrowsWrongFalsely : Prop := clockNarrowsRow.holds Try.pinned (OpenSpec.ofChange clockNarrowsWrong)

/-- 'airchecklaw05.ClockInverse': WHATEVER THE INPUT: true; the input reads as it did. -/
def clockInverseSpec : ChangeSpec := { name := "clockInverse", fn := fun _ => fun
  | [d1, d2, d3, d4, d5, d6] => { results := [.lit (.bool true)], args := [d1, d2, d3, d4, d5, d6] }
  | _ => none }
def clockInverseRow : OpenClaim := { program := "ytfbgfcpehlimfaa", sum := "fc4ebf6d6b887ce1640ecf76ca031d775df87682ad4804c88de3201a1b283cb0", func := "aircheck/airchecklaw05.ClockInverse", spec := "clockInverse", unfollowed := true, recurses := true, apart := false }
def ClockInverseSaid : Prop := clockInverseRow.holds Try.pinned (OpenSpec.ofChange clockInverseSpec)

/-- ITS FALSE NEIGHBOUR: 'it returns false'. Refute it at one input. -/
def clockInverseWrong : ChangeSpec := { name := "clockInverse", fn := fun _ => fun
  | [d1, d2, d3, d4, d5, d6] => { results := [.lit (.bool false)], args := [d1, d2, d3, d4, d5, d6] }
  | _ => none }
def ClockInverseWrongFalsely : Prop := clockInverseRow.holds Try.pinned (OpenSpec.ofChange clockInverseWrong)

/-- 'airchecklaw05.ClockAgrees': WHATEVER THE INPUT: true; the input reads as it did. -/
def clockAgreesSpec : ChangeSpec := { name := "clockAgrees", fn := fun _ => fun
  | [d1, d2] => { results := [.lit (.bool true)], args := [d1, d2] }
  | _ => none }
def clockAgreesRow : OpenClaim := { program := "ytfbgfcpehlimfaa", sum := "fc4ebf6d6b887ce1640ecf76ca031d775df87682ad4804c88de3201a1b283cb0", func := "aircheck/airchecklaw05.ClockAgrees", spec := "clockAgrees", unfollowed := true, recurses := true, apart := false }
def ClockAgreesSaid : Prop := clockAgreesRow.holds Try.pinned (OpenSpec.ofChange clockAgreesSpec)

/-- ITS FALSE NEIGHBOUR: 'it returns false'. Refute it at one input. -/
def clockAgreesWrong : ChangeSpec := { name := "clockAgrees", fn := fun _ => fun
  | [d1, d2] => { results := [.lit (.bool false)], args := [d1, d2] }
  | _ => none }
def ClockAgreesWrongFalsely : Prop := clockAgreesRow.holds Try.pinned (OpenSpec.ofChange clockAgreesWrong)

/-- 'airchecklaw05.ClockMoves': WHATEVER THE INPUT: true; the input reads as it did. -/
def clockMovesSpec : ChangeSpec := { name := "clockMoves", fn := fun _ => fun
  | [d1, d2, d3, d4, d5, d6] => { results := [.lit (.bool true)], args := [d1, d2, d3, d4, d5, d6] }
  | _ => none }
def clockMovesRow : OpenClaim := { program := "ytfbgfcpehlimfaa", sum := "fc4ebf6d6b887ce1640ecf76ca031d775df87682ad4804c88de3201a1b283cb0", func := "aircheck/airchecklaw05.ClockMoves", spec := "clockMoves", unfollowed := true, recurses := true, apart := false }
def ClockMovesSaid : Prop := clockMovesRow.holds Try.pinned (OpenSpec.ofChange clockMovesSpec)

/-- ITS FALSE NEIGHBOUR: 'it returns false'. Refute it at one input. -/
def clockMovesWrong : ChangeSpec := { name := "clockMoves", fn := fun _ => fun
  | [d1, d2, d3, d4, d5, d6] => { results := [.lit (.bool false)], args := [d1, d2, d3, d4, d5, d6] }
  | _ => none }
def ClockMovesWrongFalsely : Prop := clockMovesRow.holds Try.pinned (OpenSpec.ofChange clockMovesWrong)

/- THE SECOND FORM. 'bulk': how many values and letters a reading holds, each counted each time it is reached (what is shared counts as often as it is met; a slice's spare places count too). A statement '..UptoSaid' is the law's where the arguments, and the package variables that the reading takes, are together of bulk at most 1048576: NARROWER than '..Said'. Prove '..Said' where nothing that the law and all that it calls make is longer than what came in: it says more and counts as full. Else prove '..UptoSaid'. A law counts once. -/
mutual
def uptoBulk {H : Type} : DataW H → Nat
  | .lit (.string bytes) => bytes.length + 1
  | .lit _ => 1
  | .nil => 1
  | .ptr d => uptoBulk d + 1
  | .slice elems spare => uptoBulkAll elems + uptoBulkAll spare + 1
  | .agg parts => uptoBulkAll parts + 1
  | .iface _ d => uptoBulk d + 1
  | .map entries => uptoBulkEntries entries + 1
  | .held _ => 1
def uptoBulkAll {H : Type} : List (DataW H) → Nat
  | [] => 0
  | d :: r => uptoBulk d + uptoBulkAll r
def uptoBulkEntries {H : Type} : List (Lit × DataW H) → Nat
  | [] => 0
  | x :: r => uptoBulkEntry x + uptoBulkEntries r
def uptoBulkEntry {H : Type} : Lit × DataW H → Nat
  | (.string bytes, d) => bytes.length + uptoBulk d + 1
  | (_, d) => uptoBulk d + 1
 end
def uptoSmall : (H : Type) → List (DataW H) → Bool := fun _ ds => decide (uptoBulkAll ds ≤ 1048576)
def OpenSpec.upto (s : _root_.Go.ChangeSpec) : _root_.Go.OpenSpec := { _root_.Go.OpenSpec.ofChange s with cond := some uptoSmall }

/-- 'airchecklaw05.ClockMatchesReference', WHERE WHAT IT READS IS OF BULK AT MOST 1048576: true; the input reads as it did. -/
def clockMatchesReferenceUptoRow : OpenClaim := { program := "ytfbgfcpehlimfaa", sum := "fc4ebf6d6b887ce1640ecf76ca031d775df87682ad4804c88de3201a1b283cb0", func := "aircheck/airchecklaw05.ClockMatchesReference", spec := "clockMatchesReference", unfollowed := true, recurses := true, apart := false, narrowed := true }
def ClockMatchesReferenceUptoSaid : Prop := clockMatchesReferenceUptoRow.holds Try.pinned (OpenSpec.upto clockMatchesReferenceSpec)

/-- 'airchecklaw05.ClockExact', WHERE WHAT IT READS IS OF BULK AT MOST 1048576: true; the input reads as it did. -/
def clockExactUptoRow : OpenClaim := { program := "ytfbgfcpehlimfaa", sum := "fc4ebf6d6b887ce1640ecf76ca031d775df87682ad4804c88de3201a1b283cb0", func := "aircheck/airchecklaw05.ClockExact", spec := "clockExact", unfollowed := true, recurses := true, apart := false, narrowed := true }
def ClockExactUptoSaid : Prop := clockExactUptoRow.holds Try.pinned (OpenSpec.upto clockExactSpec)

/-- 'airchecklaw05.ClockNarrows', WHERE WHAT IT READS IS OF BULK AT MOST 1048576: true; the input reads as it did. -/
def clockNarrowsUptoRow : OpenClaim := { program := "ytfbgfcpehlimfaa", sum := "fc4ebf6d6b887ce1640ecf76ca031d775df87682ad4804c88de3201a1b283cb0", func := "aircheck/airchecklaw05.ClockNarrows", spec := "clockNarrows", unfollowed := true, recurses := true, apart := false, narrowed := true }
def ClockNarrowsUptoSaid : Prop := clockNarrowsUptoRow.holds Try.pinned (OpenSpec.upto clockNarrowsSpec)

/-- 'airchecklaw05.ClockInverse', WHERE WHAT IT READS IS OF BULK AT MOST 1048576: true; the input reads as it did. -/
def clockInverseUptoRow : OpenClaim := { program := "ytfbgfcpehlimfaa", sum := "fc4ebf6d6b887ce1640ecf76ca031d775df87682ad4804c88de3201a1b283cb0", func := "aircheck/airchecklaw05.ClockInverse", spec := "clockInverse", unfollowed := true, recurses := true, apart := false, narrowed := true }
def ClockInverseUptoSaid : Prop := clockInverseUptoRow.holds Try.pinned (OpenSpec.upto clockInverseSpec)

/-- 'airchecklaw05.ClockAgrees', WHERE WHAT IT READS IS OF BULK AT MOST 1048576: true; the input reads as it did. -/
def clockAgreesUptoRow : OpenClaim := { program := "ytfbgfcpehlimfaa", sum := "fc4ebf6d6b887ce1640ecf76ca031d775df87682ad4804c88de3201a1b283cb0", func := "aircheck/airchecklaw05.ClockAgrees", spec := "clockAgrees", unfollowed := true, recurses := true, apart := false, narrowed := true }
def ClockAgreesUptoSaid : Prop := clockAgreesUptoRow.holds Try.pinned (OpenSpec.upto clockAgreesSpec)

/-- 'airchecklaw05.ClockMoves', WHERE WHAT IT READS IS OF BULK AT MOST 1048576: true; the input reads as it did. -/
def clockMovesUptoRow : OpenClaim := { program := "ytfbgfcpehlimfaa", sum := "fc4ebf6d6b887ce1640ecf76ca031d775df87682ad4804c88de3201a1b283cb0", func := "aircheck/airchecklaw05.ClockMoves", spec := "clockMoves", unfollowed := true, recurses := true, apart := false, narrowed := true }
def ClockMovesUptoSaid : Prop := clockMovesUptoRow.holds Try.pinned (OpenSpec.upto clockMovesSpec)

end Rows
end Go.Proofs.Ytfbgfcpehlimfaa
