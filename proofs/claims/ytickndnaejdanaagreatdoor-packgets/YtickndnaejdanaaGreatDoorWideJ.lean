/- What the Writer's Raw does: it puts the bytes behind those that the Writer has. -/
import Derived.Test.YtickndnaejdanaaGreatDoorWriterJ
import Derived.Test.YtickndnaejdanaaGreatDoorW64J
import Derived.Test.YtickndnaejdanaaGreatDoorDbl3J
import Derived.Laws.IdiomStrings
import Derived.Laws.Externs
import Derived.WalkLawsBesides
import Derived.Test.YtickndnaejdanaaGreatDoorRefBits2J
import Derived.Test.YtickndnaejdanaaGreatDoorCopyJ
namespace Go.Proofs.YtickndnaejdanaaGreatDoor
open Go.RowKit
set_option maxRecDepth 8000

end Go.Proofs.YtickndnaejdanaaGreatDoor

/- What the rest of the Writer's calls do: Bool, Int8, Float, Text and Buffer. -/
namespace Go.Proofs.YtickndnaejdanaaGreatDoor
open Go.RowKit
set_option maxRecDepth 8000

end Go.Proofs.YtickndnaejdanaaGreatDoor

/- What the rest of the document's own bytes are: Bool, Int8, Uint32, Float, Buffer and Text of lagoonref01; and what spoil of the statements does. -/
namespace Go.Proofs.YtickndnaejdanaaGreatDoor
open Go.RowKit
set_option maxRecDepth 8000

end Go.Proofs.YtickndnaejdanaaGreatDoor

/- What WideBytes and SpareBytes of lagoonref00 answer: the bytes with 64 marks behind them in their spare room; whether these marks stand. -/
namespace Go.Proofs.YtickndnaejdanaaGreatDoor
open Go.RowKit
set_option maxRecDepth 8000

end Go.Proofs.YtickndnaejdanaaGreatDoor
