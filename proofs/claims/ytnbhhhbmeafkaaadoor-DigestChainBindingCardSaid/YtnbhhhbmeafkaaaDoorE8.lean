/- The fixed examples with which the statements begin: sane returns true. -/
import Derived.Test.YtnbhhhbmeafkaaaDoorE1
import Derived.Test.YtnbhhhbmeafkaaaDoorE2
import Derived.Test.YtnbhhhbmeafkaaaDoorE5
namespace Go.Proofs.YtnbhhhbmeafkaaaDoor
open Go.RowKit

def ps0 : List (List UInt8) := [[97], [98], [99]]
def hexNil : List UInt8 := [101, 51, 98, 48, 99, 52, 52, 50, 57, 56, 102, 99, 49, 99, 49, 52, 57, 97, 102, 98, 102, 52, 99, 56, 57, 57, 54, 102, 98, 57, 50, 52, 50, 55, 97, 101, 52, 49, 101, 52, 54, 52, 57, 98, 57, 51, 52, 99, 97, 52, 57, 53, 57, 57, 49, 98, 55, 56, 53, 50, 98, 56, 53, 53]
def hexAbc : List UInt8 := [98, 97, 55, 56, 49, 54, 98, 102, 56, 102, 48, 49, 99, 102, 101, 97, 52, 49, 52, 49, 52, 48, 100, 101, 53, 100, 97, 101, 50, 50, 50, 51, 98, 48, 48, 51, 54, 49, 97, 51, 57, 54, 49, 55, 55, 97, 57, 99, 98, 52, 49, 48, 102, 102, 54, 49, 102, 50, 48, 48, 49, 53, 97, 100]
theorem f_nil : hexL (Dm.sha []) = hexNil := by decide +kernel
theorem f_abc : hexL (Dm.sha [97, 98, 99]) = hexAbc := by decide +kernel
theorem f_p : (Dm.proof ps0 2).length = 1 := by decide +kernel
theorem f_x : (extRow ps0 1).length = 2 := by decide +kernel
theorem f_v1 : vfy (Dm.root ps0) 3 2 [99] (Dm.proof ps0 2) = true := by decide +kernel
theorem f_v2 : vfy (Dm.root ps0) 3 2 [100] (Dm.proof ps0 2) = false := by decide +kernel
theorem f_v3 : vex (Dm.root (ps0.take 1)) 1 (Dm.root ps0) 3 (extRow ps0 1) = true := by decide +kernel
theorem f_v4 : vex (Dm.root (ps0.take 2)) 1 (Dm.root ps0) 3 (extRow ps0 1) = false := by decide +kernel
end Go.Proofs.YtnbhhhbmeafkaaaDoor
