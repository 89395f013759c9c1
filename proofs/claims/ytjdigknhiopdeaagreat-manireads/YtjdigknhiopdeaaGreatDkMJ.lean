/- What a disk tells of its files: their names, an image of all of them. -/
import Derived.Test.YtjdigknhiopdeaaGreatDkLJ
import Derived.Deep.MidRow
namespace Go.Proofs.YtjdigknhiopdeaaGreat
open Go.RowKit Go.Shelf
set_option maxRecDepth 8000

theorem Tryz.infoStrD : (Tryz.prog.info? 9).map (fun i => (i.zero, i.size, i.bytes)) = some (some (.string ⟨#[]⟩), 1, 16) := by kernel_rfl

end Go.Proofs.YtjdigknhiopdeaaGreat
