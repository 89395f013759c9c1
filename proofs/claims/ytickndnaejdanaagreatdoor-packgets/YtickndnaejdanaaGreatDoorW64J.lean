/- What the document's own bytes of whole numbers are: digits and Int32 of lagoonref01. -/
import Derived.Test.YtickndnaejdanaaGreatDoorBytes8J
import Derived.Test.YtickndnaejdanaaGreatDoorCopyJ
namespace Go.Proofs.YtickndnaejdanaaGreatDoor
open Go.RowKit
set_option maxRecDepth 8000

end Go.Proofs.YtickndnaejdanaaGreatDoor

/- What the document's own bytes of an int64 are: Int64 of lagoonref01. -/
namespace Go.Proofs.YtickndnaejdanaaGreatDoor
open Go.RowKit
set_option maxRecDepth 8000

end Go.Proofs.YtickndnaejdanaaGreatDoor

/- What the Writer's Int64 does, and put64 behind it: eight bytes, the highest first. -/
namespace Go.Proofs.YtickndnaejdanaaGreatDoor
open Go.RowKit
set_option maxRecDepth 8000

end Go.Proofs.YtickndnaejdanaaGreatDoor
