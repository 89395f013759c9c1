/- The walk of QuorumTwo, over what came in. -/
import Derived.Test.YtlnoighjdmjdeaaQwJ
namespace Go.Proofs.Ytlnoighjdmjdeaa
open Go.RowKit Go.Shelf
set_option maxRecDepth 8000

theorem two_row (v u o t : Value) (ws gs : List Int) (lo lt : List PuT) (w : World) (hv : SeesQ w v ws) (hu : SeesQ w u gs) (ho : SeesPu w o lo) (ht : SeesPu w t lt) (_ : ws.length ≤ 140737488355328 ∧ gs.length ≤ 140737488355328) (_ : lo.length ≤ 140737488355328) (_ : lt.length ≤ 140737488355328) :
    Calls Try.prog 4 #[.agg [v, u, o, t].toArray] w fun e w' => e = .returned (.bool true) ∧ Below w.heap.size w w' := two_walk v u o t ws gs lo lt w hv hu ho ht

end Go.Proofs.Ytlnoighjdmjdeaa
