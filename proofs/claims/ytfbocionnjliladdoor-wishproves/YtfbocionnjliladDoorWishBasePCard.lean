/- What the laws on wishes stand on. -/
import Derived.Test.YtfbocionnjliladDoorWishBaseP3
import Derived.Test.YtfbocionnjliladDoorWishBaseP9
import Derived.Test.YtfbocionnjliladDoorWishBaseP10
namespace Go.Proofs.YtfbocionnjliladDoor
end Go.Proofs.YtfbocionnjliladDoor
