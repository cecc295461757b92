/- The shelf, once more. -/
import Derived.Test.YtabkodpjhpjgnaaGreatDoorShelf
namespace Go.Proofs.YtabkodpjhpjgnaaGreatDoor
end Go.Proofs.YtabkodpjhpjgnaaGreatDoor
