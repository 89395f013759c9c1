/- What the document's own Bits (lagoonref01) answers: a float's bits, and of everything that is not a number the one form. -/
import Derived.Test.YtickndnaejdanaaGreatDoorProg
import Derived.Test.YtickndnaejdanaaGreatDoorDbl3J
import Derived.WalkLawsBesides
import Derived.Deep.Draws
import Derived.Laws.BitsAllLaws
namespace Go.Proofs.YtickndnaejdanaaGreatDoor
open Ieee
open Go.RowKit (intOf Hid)
set_option maxRecDepth 8000

section
variable (w : World)

end
end Go.Proofs.YtickndnaejdanaaGreatDoor
