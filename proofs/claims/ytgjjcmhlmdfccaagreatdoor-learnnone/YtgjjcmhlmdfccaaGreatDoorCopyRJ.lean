/- CopyRequest of lagoonref00: the same request in blocks of its own. -/
import Derived.Test.YtgjjcmhlmdfccaaGreatDoorCopyTJ
import Derived.Deep.RegionLaw
namespace Go.Proofs.YtgjjcmhlmdfccaaGreatDoor
open Go.RowKit
set_option maxRecDepth 8000

end Go.Proofs.YtgjjcmhlmdfccaaGreatDoor
