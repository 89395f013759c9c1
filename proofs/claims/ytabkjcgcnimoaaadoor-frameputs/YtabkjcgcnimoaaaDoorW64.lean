/- What the Writer's Int64 does, and put64 behind it: eight bytes, the highest first. -/
import Derived.Test.YtabkjcgcnimoaaaDoorBytes8
namespace Go.Proofs.YtabkjcgcnimoaaaDoor
open Go.RowKit
set_option maxRecDepth 8000

end Go.Proofs.YtabkjcgcnimoaaaDoor
