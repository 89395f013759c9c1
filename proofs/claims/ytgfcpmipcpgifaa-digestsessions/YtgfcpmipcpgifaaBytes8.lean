/- The eight bytes of a whole number; no Go function is walked here. -/
import Derived.Test.YtgfcpmipcpgifaaWriter
namespace Go.Proofs.Ytgfcpmipcpgifaa

/-- The eight bytes of a number from 0 on. -/
def be8 (n : Int) : List Int := be4 (n / 4294967296) ++ be4 (n % 4294967296)

def up64 (n : Int) : Int := n % 18446744073709551616
theorem up64_bd (n : Int) : 0 ≤ up64 n ∧ up64 n ≤ 18446744073709551615 := by unfold up64; omega

end Go.Proofs.Ytgfcpmipcpgifaa
