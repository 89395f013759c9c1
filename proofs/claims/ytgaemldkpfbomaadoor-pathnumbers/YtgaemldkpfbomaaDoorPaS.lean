/- What every law of layer 5 begins with: is a text too long for the document's bound? -/
import Derived.Test.YtgaemldkpfbomaaDoorPaE
import Derived.ProofKit
import Derived.OpenShut
import Derived.ShutString
import Derived.ChangeOld
namespace Go.Proofs.YtgaemldkpfbomaaDoor
open Go.ChangeShapes Go.WideShapes Go.ChangeAt Go.RowKit
set_option maxRecDepth 8000

theorem Tryd.own : ownKnob Tryd.prog.godebug = none := by kernel_rfl

theorem long_any (s : ByteArray) (w : World) : Calls Tryd.prog 4 #[.string s] w fun e w' => e = .returned (.bool (decide (2147483632 ≤ s.size))) ∧ w' = w := by
  go_enter Tryd.func4, Tryd.ntmps4
  go_wp2
  go_ret
  refine ⟨?_, rfl⟩
  refine congrArg (fun b => Ending.returned (Value.bool b)) ?_
  simp
  omega

end Go.Proofs.YtgaemldkpfbomaaDoor
