/- txn.Clone: the same transaction, its request in blocks of its own. -/
import Derived.Test.YtoeialngbbfoeaaGreatDoorClCJ
import Derived.Test.YtoeialngbbfoeaaGreatDoorCopyXJ
namespace Go.Proofs.YtoeialngbbfoeaaGreatDoor
open Go.RowKit
set_option maxRecDepth 8000

end Go.Proofs.YtoeialngbbfoeaaGreatDoor
