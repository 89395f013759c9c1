/- What the Writer's Raw does: it puts the bytes behind those that the Writer has. -/
import Derived.Test.YtgfcpmipcpgifaaWriter
namespace Go.Proofs.Ytgfcpmipcpgifaa
open Go.RowKit
set_option maxRecDepth 8000

end Go.Proofs.Ytgfcpmipcpgifaa
