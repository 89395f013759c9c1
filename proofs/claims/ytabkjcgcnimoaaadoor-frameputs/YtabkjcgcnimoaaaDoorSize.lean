/- What the Reader's size does: it looks at a length, or at a count, and stays ahead of it; the fault where it may not be. -/
import Derived.Test.YtabkjcgcnimoaaaDoorReader
namespace Go.Proofs.YtabkjcgcnimoaaaDoor
open Go.RowKit
set_option maxRecDepth 8000

/-- The count that stands ahead: the first four bytes as an int32. -/
def ahead (xs : List Int) : Int := wrap32 (num (xs.take 4))

theorem wrap32_bd (n : Int) : -2147483648 ≤ wrap32 n ∧ wrap32 n ≤ 2147483647 := by unfold wrap32; omega

section
variable (g : Nat) (v : Value) (xs : List Int) (most : Int) (w : World)

end
theorem nilErr_any (w : World) : Calls Tryd.prog 87 #[.pointer none] w fun e w' => e = .returned (.int .i64 1) ∧ w' = w := by
  go_enter Tryd.func87, Tryd.ntmps87
  go_wp2
  go_ret
  exact ⟨rfl, rfl⟩

theorem nilReads_any (w : World) : Calls Tryd.prog 82 #[.pointer none] w fun e w' => e = .returned (.bool false) ∧ w' = w := by
  go_enter Tryd.func82, Tryd.ntmps82
  go_wp2_with fail
  refine (nilErr_any _).mono ?_
  rintro e w1 ⟨rfl, rfl⟩
  go_wp2
  go_ret
  exact ⟨rfl, rfl⟩

theorem nilPeek_any (n : Int) (w : World) : Calls Tryd.prog 79 #[.pointer none, .int .i64 n] w fun e w' => e = .returned (.tuple #[.slice none 0 0, .bool false]) ∧ w' = w := by
  go_enter Tryd.func79, Tryd.ntmps79
  go_wp2_with fail
  refine (nilReads_any _).mono ?_
  rintro e w1 ⟨rfl, rfl⟩
  go_wp2
  go_ret2
  exact ⟨rfl, rfl⟩

end Go.Proofs.YtabkjcgcnimoaaaDoor
