/- EqBrought at two that tell nothing. -/
import Derived.Test.YtgjjcmhlmdfccaaGreatDoorLnBJ
namespace Go.Proofs.YtgjjcmhlmdfccaaGreatDoor
open Go.RowKit
set_option maxRecDepth 8000
set_option linter.unusedSimpArgs false
set_option linter.unusedVariables false

theorem eqB0 (w : World) : Calls Tryz.prog 19 #[.slice none 0 0, .slice none 0 0] w fun r w' => r = .returned (.bool true) ∧ w' = w := by
  go_enter Tryz.func19, Tryz.ntmps19
  go_wp2_with fail
  go_loopw [5] (fun i wr => i = .int .i64 0 ∧ wr = w) (fun _ _ => 0)
  case atStart => exact ⟨rfl, rfl⟩
  case round =>
    obtain ⟨rfl, rfl⟩ := hrel
    go_wp2
    go_ret
    exact ⟨rfl, rfl⟩

theorem eqT0 (w : World) : Calls Tryz.prog 20 #[.slice none 0 0, .slice none 0 0] w fun r w' => r = .returned (.bool true) ∧ w' = w := by
  go_enter Tryz.func20, Tryz.ntmps20
  go_wp2_with fail
  go_loopw [5] (fun i wr => i = .int .i64 0 ∧ wr = w) (fun _ _ => 0)
  case atStart => exact ⟨rfl, rfl⟩
  case round =>
    obtain ⟨rfl, rfl⟩ := hrel
    go_wp2
    go_ret
    exact ⟨rfl, rfl⟩

set_option maxHeartbeats 2000000 in
theorem eqBr0 (w : World) : Calls Tryz.prog 8 #[.agg brZ, .agg brZ] w fun r w' => r = .returned (.bool true) ∧ Below w.heap.size w w' := by
  have HB : Hid (Below w.heap.size w ((w.alloc (.cells brZ 54)).alloc (.cells brZ 54))) := two_alloc _ _ _
  have hg : Tryz.prog.eqGuardType Tryz.prog.depth 27 = false := by kernel_rfl
  have hq := eqZx 0 0 0 0
  simp only [and_self, decide_true] at hq
  have HX : Hid (∀ W, Calls Tryz.prog 19 #[.slice none 0 0, .slice none 0 0] W fun r w' => r = .returned (.bool true) ∧ w' = W) := eqB0
  have HY : Hid (∀ W, Calls Tryz.prog 20 #[.slice none 0 0, .slice none 0 0] W fun r w' => r = .returned (.bool true) ∧ w' = W) := eqT0
  go_enter Tryz.func8, Tryz.ntmps8
  go_wp2_with fail
  go_at_call 19
  refine (HX.out _).mono ?_
  rintro _ w1 ⟨rfl, rfl⟩
  go_wp2_with fail
  go_at_call 20
  refine (HY.out _).mono ?_
  rintro _ w1 ⟨rfl, rfl⟩
  go_wp2
  go_ret
  exact ⟨rfl, HB.out⟩
end Go.Proofs.YtgjjcmhlmdfccaaGreatDoor
