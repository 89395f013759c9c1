/- The walk of QuorumMeets, over what came in. -/
import Derived.Test.YtlnoighjdmjdeaaQuM
namespace Go.Proofs.Ytlnoighjdmjdeaa
open Go.RowKit Go.Shelf
set_option maxRecDepth 8000

theorem meets_row (v u : Value) (ws gs : List Int) (a b : Int) (w : World) (hv : SeesQ w v ws) (hu : SeesQ w u gs) (_ : ws.length ≤ 140737488355328 ∧ gs.length ≤ 140737488355328) (ha : 0 ≤ a ∧ a ≤ 255) (hb : 0 ≤ b ∧ b ≤ 255) :
    Calls Try.prog 5 #[.agg [v, u, .int .u8 a, .int .u8 b].toArray] w fun e w' => e = .returned (.bool true) ∧ Below w.heap.size w w' := by
  obtain ⟨x, rfl⟩ := Int.eq_ofNat_of_zero_le ha.1
  obtain ⟨y, rfl⟩ := Int.eq_ofNat_of_zero_le hb.1
  exact meets_walk v u ws gs x y w hv hu (by omega) (by omega)

end Go.Proofs.Ytlnoighjdmjdeaa
