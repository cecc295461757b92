/-
  DERIVED. GIVEN WITH THE SEED: THE CARDS: each row of YtmfpaankkoaoaaaDoorRows.lean that lists a variable, with what it lists TIED to the program's text (the seventh form; the later family's looks); each row that meets fmt, with fmt's text TOLD by the authors' own Lean function (tested against real Go, not proved from fmt's source: count such statements apart). THE CARD IS WHAT COUNTS. Prove the row's statement (the work); the ties are given (YtmfpaankkoaoaaaDoorTie.lean); close each card by the builder's one call (the guide's Derived/Test/ToyasCard.lean, 'card_holds'). Laid BY PROGRAM, IN A SANDBOX (cutbox-door.mjs). By AI agents, Wed Nov 11 2026. No macro, syntax, notation, axiom, sorry.
-/
import Derived.Test.YtmfpaankkoaoaaaDoorRows
import GoSem.ClaimSeven
namespace Go.Proofs.YtmfpaankkoaoaaaDoor
namespace Rows

/-- THE TIED CARD OF 'airchecklaw06.WeekMatchesReference'. -/
def weekMatchesReferenceCard : Claim7 := { stood := { row := weekMatchesReferenceRow, standIns := [], harness := (true, "13dfc65b997db357f0091d45985d8fc26ac35f24ee3870714a18518331a0bfb2"), looks := false }, kinds := [], alts := [], laidByText := true, laidKinds := [.data, .data, .data, .data], laidTests := true, laidLooks := .later }
def WeekMatchesReferenceCardSaid : Prop := Claim7.holds Tryd.pinned (.plain (OpenSpec.ofChange weekMatchesReferenceSpec)) weekMatchesReferenceCard

/-- THE SECOND FORM's CARD OF 'airchecklaw06.WeekMatchesReference'. -/
def weekMatchesReferenceUptoCard : Claim7 := { stood := { row := weekMatchesReferenceUptoRow, standIns := [], harness := (true, "13dfc65b997db357f0091d45985d8fc26ac35f24ee3870714a18518331a0bfb2"), looks := false }, kinds := [], alts := [], laidByText := true, laidKinds := [.data, .data, .data, .data], laidTests := true, laidLooks := .later }
def WeekMatchesReferenceUptoCardSaid : Prop := Claim7.holds Tryd.pinned (.plain (OpenSpec.upto weekMatchesReferenceSpec)) weekMatchesReferenceUptoCard
end Rows
end Go.Proofs.YtmfpaankkoaoaaaDoor
