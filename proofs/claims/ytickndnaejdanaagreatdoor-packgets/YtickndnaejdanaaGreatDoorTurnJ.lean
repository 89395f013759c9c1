/- Lists in memory, their room, and what stays when some cells are written over; no Go function is walked here. -/
import Derived.Test.YtickndnaejdanaaGreatDoorMemJ
import Derived.Maps.AppendAt
namespace Go.Proofs.YtickndnaejdanaaGreatDoor
open Go.RowKit
set_option maxRecDepth 8000

end Go.Proofs.YtickndnaejdanaaGreatDoor
