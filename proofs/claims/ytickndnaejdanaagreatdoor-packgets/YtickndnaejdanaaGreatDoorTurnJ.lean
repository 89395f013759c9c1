/- Lists in memory, their room, and what stays when some cells are written over; no Go function is walked here. -/
import Derived.Test.YtickndnaejdanaaGreatDoorMemJ
import Derived.Maps.AppendAt
namespace Go.Proofs.YtickndnaejdanaaGreatDoor
open Go.RowKit
set_option maxRecDepth 8000

section
variable {a b c w w' : World} {S S' : Nat → Nat → Prop}

end

section
variable {w w' : World} {S : Nat → Nat → Prop} {E : TypeId} {p q : Pc} {xs : List Value}

end

end Go.Proofs.YtickndnaejdanaaGreatDoor
