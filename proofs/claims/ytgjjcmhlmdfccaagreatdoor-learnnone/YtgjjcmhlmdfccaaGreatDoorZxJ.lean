/- Zxids: what Compare, Pack, Unpack and Next of package txn, and the document's own, answer. -/
import Derived.Test.YtgjjcmhlmdfccaaGreatDoorProg
import Derived.Test.YtgjjcmhlmdfccaaGreatDoorStorJ
import Derived.Laws.StructEq
namespace Go.Proofs.YtgjjcmhlmdfccaaGreatDoor
open Go.RowKit
set_option maxRecDepth 8000

/-- Two zxids held against each other: -1, 0 or 1. -/
def zcmp (e n f m : Int) : Int := if e < f ∨ (e = f ∧ n < m) then -1 else if e = f ∧ n = m then 0 else 1

abbrev zx (e n : Int) : Value := .agg #[.int .u32 e, .int .u32 n]

theorem eqZx (e n f m : Int) (w : World) : (binOp .eql 27 (.agg #[.int .u32 e, .int .u32 n]) (.agg #[.int .u32 f, .int .u32 m])).run Tryz.prog w = .ok (.bool (decide (e = f ∧ n = m))) w := by
  have hu : Tryz.prog.underlying 27 = some (.struct (Tryz.prog.fieldsOf 27)) := by kernel_rfl
  have hp : Tryz.prog.stoodInHeld 27 = false := by kernel_rfl
  have u3 := Tryz.underlying23
  have a3 := Tryz.isAgg23
  have z3 := Tryz.sizeOf23
  rw [run_eql_struct, show (10000 : Nat) = 9999 + 1 from rfl, run_equalIn_agg w 9999 _ _ _ hu hp]
  simp only [Program.fieldsOf, Tryz.underlying27]
  go_simp
  by_cases h1 : e = f <;> by_cases h2 : n = m <;> simp [h1, h2]

theorem two_alloc (w : World) (o o' : Obj) : Below w.heap.size w ((w.alloc o).alloc o') := ((Below.refl _ _).alloc (Nat.le_refl _) _).alloc (by simp) _
theorem one_alloc (w : World) (o : Obj) : Below w.heap.size w (w.alloc o) := (Below.refl _ _).alloc (Nat.le_refl _) _

set_option maxHeartbeats 400000 in
theorem compare_any (e n f m : Int) (w : World) :
    Calls Tryz.prog 32 #[zx e n, zx f m] w fun r w' => r = .returned (.int .i64 (zcmp e n f m)) ∧ Below w.heap.size w w' := by
  have hg : Tryz.prog.eqGuardType Tryz.prog.depth 27 = false := by kernel_rfl
  have hB := two_alloc w
  have hq := eqZx e n f m
  go_enter Tryz.func32, Tryz.ntmps32
  go_wp2
  all_goals (go_ret; refine ⟨?_, hB _ _⟩; unfold zcmp; split <;> (try split) <;> first | rfl | omega)

theorem isEpoch_any (n : Int) (w : World) (h0 : 0 ≤ n) :
    Calls Tryz.prog 163 #[.int .u32 n] w fun r w' => r = .returned (.bool (decide (1 ≤ n ∧ n ≤ 2147483647))) ∧ w' = w := by
  go_enter Tryz.func163, Tryz.ntmps163
  go_wp2
  all_goals (go_ret; refine ⟨?_, rfl⟩; first | rfl | (congr 2; simp; omega))

end Go.Proofs.YtgjjcmhlmdfccaaGreatDoor
