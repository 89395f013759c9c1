/- ChooseHand of the statements of layer 14, walked: true for all that came in. -/
import Derived.Test.YtljghfglabgckaaDoorChEJ
import Derived.Test.YtljghfglabgckaaDoorChFJ
import Derived.Test.YtljghfglabgckaaDoorChHJ
namespace Go.Proofs.YtljghfglabgckaaDoor
open Go.RowKit
set_option maxRecDepth 8000

abbrev chA (c : ChD) : Array Value := #[.int .i8 c.way, .int .u32 c.fe, .int .u32 c.fn, .bool c.near]

theorem storeF (P : Program) (w : World) (a : Addr) (m : Mode) (k : FloatKind) (b : Nat) : (store a (.float k b) m).run P w = stored P w a (.float k b) m := run_store P w a _ m rfl

end Go.Proofs.YtljghfglabgckaaDoor