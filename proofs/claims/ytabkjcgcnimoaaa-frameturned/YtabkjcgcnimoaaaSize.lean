/- What the Reader's size does: it looks at a length, or at a count, and stays ahead of it; the fault where it may not be. -/
import Derived.Test.YtabkjcgcnimoaaaReader
namespace Go.Proofs.Ytabkjcgcnimoaaa
open Go.RowKit
set_option maxRecDepth 8000

/-- The count that stands ahead: the first four bytes as an int32. -/
def ahead (xs : List Int) : Int := wrap32 (num (xs.take 4))

theorem wrap32_bd (n : Int) : -2147483648 ≤ wrap32 n ∧ wrap32 n ≤ 2147483647 := by unfold wrap32; omega

section
variable (g : Nat) (v : Value) (xs : List Int) (most : Int) (w : World)

end
theorem nilErr_any (w : World) : Calls Try.prog 35 #[.pointer none] w fun e w' => e = .returned (.int .i64 1) ∧ w' = w := by
  go_enter Try.func35, Try.ntmps35
  go_wp2
  go_ret
  exact ⟨rfl, rfl⟩

theorem nilReads_any (w : World) : Calls Try.prog 34 #[.pointer none] w fun e w' => e = .returned (.bool false) ∧ w' = w := by
  go_enter Try.func34, Try.ntmps34
  go_wp2_with fail
  refine (nilErr_any _).mono ?_
  rintro e w1 ⟨rfl, rfl⟩
  go_wp2
  go_ret
  exact ⟨rfl, rfl⟩

theorem nilPeek_any (n : Int) (w : World) : Calls Try.prog 32 #[.pointer none, .int .i64 n] w fun e w' => e = .returned (.tuple #[.slice none 0 0, .bool false]) ∧ w' = w := by
  go_enter Try.func32, Try.ntmps32
  go_wp2_with fail
  refine (nilReads_any _).mono ?_
  rintro e w1 ⟨rfl, rfl⟩
  go_wp2
  go_ret2
  exact ⟨rfl, rfl⟩

end Go.Proofs.Ytabkjcgcnimoaaa
