/- The walk of QuorumAcks, over what came in. -/
import Derived.Test.YtlnoighjdmjdeaaQwG
namespace Go.Proofs.Ytlnoighjdmjdeaa
open Go.RowKit Go.Shelf
set_option maxRecDepth 8000

theorem acks_row (v : Value) (ws : List Int) (u : Value) (gs : List Int) (t : Value) (l : List PuT) (w : World) (hv : SeesQ w v ws) (_ : ws.length ≤ 140737488355328) (hu : SeesQ w u gs) (_ : gs.length ≤ 140737488355328) (hp : SeesPu w t l) (_ : l.length ≤ 140737488355328) :
    Calls Try.prog 3 #[v, u, t] w fun e w' => e = .returned (.bool true) ∧ Below w.heap.size w w' := acks_walk v u t ws gs l w hv hu hp

end Go.Proofs.Ytlnoighjdmjdeaa
