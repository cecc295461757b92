/- An integer of the machine. -/
import Derived.Test.YtfbgfcpehlimfaaCd
namespace Go.Proofs.Ytfbgfcpehlimfaa
def I64 (x : Int) : Prop := -9223372036854775808 ≤ x ∧ x ≤ 9223372036854775807
end Go.Proofs.Ytfbgfcpehlimfaa
