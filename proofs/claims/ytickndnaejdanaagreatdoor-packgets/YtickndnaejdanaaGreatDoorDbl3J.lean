/- Plain facts on IEEE 754 doubles as words: what a word with sign, exponent and fraction stands for, and that doubling, halving, comparing and taking 1 away are exact where the document's own Bits does them; no Go function is walked here. -/
import Derived.WalkKit
import Derived.Laws.FloatArith
namespace Go.Proofs.YtickndnaejdanaaGreatDoor
open Ieee
set_option maxRecDepth 8000

end Go.Proofs.YtickndnaejdanaaGreatDoor

/- More plain facts on IEEE 754 doubles: what stands behind the point taken back as a whole number; 1 taken away. -/
namespace Go.Proofs.YtickndnaejdanaaGreatDoor
open Ieee
set_option maxRecDepth 8000

end Go.Proofs.YtickndnaejdanaaGreatDoor

/- A float's bits with one form for what is not a number; what is a number is like itself. -/
namespace Go.Proofs.YtickndnaejdanaaGreatDoor
open Ieee
set_option maxRecDepth 8000

end Go.Proofs.YtickndnaejdanaaGreatDoor
