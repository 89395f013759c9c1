/- The document's own Bits at numbers that are neither nought nor infinite, from the least exponent on: their bits. -/
import Derived.Test.YtickndnaejdanaaGreatDoorRefBitsJ
namespace Go.Proofs.YtickndnaejdanaaGreatDoor
open Ieee
open Go.RowKit (intOf Hid)
set_option maxRecDepth 8000

end Go.Proofs.YtickndnaejdanaaGreatDoor
