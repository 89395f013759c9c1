/- What put of the statements does with a buffer and with raw bytes: the list that is handed in stays, its spare room too, and may be written over then. -/
import Derived.Test.YtblgipjipeaemaaGreatDoorPutJ
namespace Go.Proofs.YtblgipjipeaemaaGreatDoor
open Go.RowKit
set_option maxRecDepth 8000

theorem news {w w' : World} (h : Below w.heap.size w w') : Kept w w' (fun _ => False) := (Below.kept h).mono (fun k hk hs => by omega)

end Go.Proofs.YtblgipjipeaemaaGreatDoor