/- A disk's Start: the power given back. -/
import Derived.Test.YtjdigknhiopdeaaGreatDkKJ
namespace Go.Proofs.YtjdigknhiopdeaaGreat
open Go.RowKit Go.Shelf
set_option maxRecDepth 8000

end Go.Proofs.YtjdigknhiopdeaaGreat
