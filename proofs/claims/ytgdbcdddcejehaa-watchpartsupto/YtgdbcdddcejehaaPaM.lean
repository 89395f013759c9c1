/- What the document's fault and Check answer. -/
import Derived.Test.YtgdbcdddcejehaaPaL
namespace Go.Proofs.Ytgdbcdddcejehaa
open Go.RowKit Go.Shelf
set_option maxRecDepth 8000

/-- The rest of fault: the code points. -/
theorem mn_cast (d f : Nat) (k : Nat) : ((mn d f (some k) : Nat) : Int) = if ((f : Int) + k < d) then (f : Int) + k else d := by
  unfold mn
  simp only
  split <;> omega

end Go.Proofs.Ytgdbcdddcejehaa
