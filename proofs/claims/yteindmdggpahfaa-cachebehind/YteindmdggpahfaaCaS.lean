/- The calls of a ring of texts: CaA's text, numbers turned into texts (mkCaS.py). -/
import Derived.Test.YteindmdggpahfaaProg
import Derived.Test.YteindmdggpahfaaCaA
import Derived.BigQuiet
import Derived.Deep.RegionHeld
import Derived.Deep.CutRange
import Derived.Lib.SliceRun
namespace Go.Proofs.Yteindmdggpahfaa
open Go.RowKit
set_option maxRecDepth 8000

end Go.Proofs.Yteindmdggpahfaa
