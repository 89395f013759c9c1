/- EqTxn of lagoonref00 at two transactions of the same data. -/
import Derived.Test.YtgjjcmhlmdfccaaGreatDoorEqQJ
import Derived.Test.YtgjjcmhlmdfccaaGreatDoorZxJ
import Derived.Test.YtgjjcmhlmdfccaaGreatDoorWfMJ
import Derived.Laws.IdiomStrings
import Derived.Laws.Externs
import Derived.WalkLawsBesides
import Derived.Test.YtgjjcmhlmdfccaaGreatDoorLeafSumJ
import Derived.Test.YtgjjcmhlmdfccaaGreatDoorChkJ
import Derived.Defers
import Derived.Recover
import Derived.Test.YtgjjcmhlmdfccaaGreatDoorChk5J
import Derived.Test.YtgjjcmhlmdfccaaGreatDoorChk3J
import Derived.Test.YtgjjcmhlmdfccaaGreatDoorStorJ
namespace Go.Proofs.YtgjjcmhlmdfccaaGreatDoor
open Go.RowKit
set_option maxRecDepth 8000

theorem eqOr (s b m : Int) (w : World) : (binOp .eql 29 (.agg #[.int .i8 s, .int .u32 b, .int .i64 m]) (.agg #[.int .i8 s, .int .u32 b, .int .i64 m])).run Tryz.prog w = .ok (.bool true) w := by
  have hu : Tryz.prog.underlying 29 = some (.struct (Tryz.prog.fieldsOf 29)) := by kernel_rfl
  have hp : Tryz.prog.stoodInHeld 29 = false := by kernel_rfl
  have u3 := Tryz.underlying22
  have a3 := Tryz.isAgg22
  have z3 := Tryz.sizeOf22
  have u4 := Tryz.underlying23
  have a4 := Tryz.isAgg23
  have z4 := Tryz.sizeOf23
  have u5 := Tryz.underlying2
  have a5 := Tryz.isAgg2
  have z5 := Tryz.sizeOf2
  rw [run_eql_struct, show (10000 : Nat) = 9999 + 1 from rfl, run_equalIn_agg w 9999 _ _ _ hu hp]
  simp only [Program.fieldsOf, Tryz.underlying29]
  go_simp

set_option maxHeartbeats 1000000 in
theorem eqTxn_same (cs ds : List Value) (t : TxD) (w : World) (hcs : SeesTx w cs t) (hds : SeesTx w ds t) :
    Calls Tryz.prog 14 #[.agg cs.toArray, .agg ds.toArray] w fun r w' => r = .returned (.bool true) ∧ Below w.heap.size w w' := by
  obtain ⟨rc, rfl, hr⟩ := hcs
  obtain ⟨rd, rfl, hr'⟩ := hds
  obtain ⟨e, n, sv, bt, nm, rq⟩ := t
  have HX : Hid (∀ W : World, Below w.heap.size w W → Calls Tryz.prog 26 #[.agg rc.toArray, .agg rd.toArray] W fun r w' => r = .returned (.bool true) ∧ Below W.heap.size W w') := fun W hW =>
    eqRequest_same rq rc rd W (hr.later hW (Nat.le_refl _)) (hr'.later hW (Nat.le_refl _))
  obtain ⟨kx, sx, dx0, dx1, dx2, ax0, ax1, ax2, vx, px, qx, zx, tx, wx0, wx1, wx2, ox0, ox1, ox2, rfl⟩ := rq_forms hr
  obtain ⟨ky, sy, dy0, dy1, dy2, ay0, ay1, ay2, vy, py, qy, zy, ty, wy0, wy1, wy2, oy0, oy1, oy2, rfl⟩ := rq_forms hr'
  have hg : Tryz.prog.eqGuardType Tryz.prog.depth 27 = false := by kernel_rfl
  have hg' : Tryz.prog.eqGuardType Tryz.prog.depth 29 = false := by kernel_rfl
  have hq := eqZx e n e n
  rw [decide_eq_true (⟨rfl, rfl⟩ : e = e ∧ n = n)] at hq
  have hq' := eqOr sv bt nm
  simp only [txHead, List.cons_append, List.nil_append]
  clear hr hr'
  have HB := two_alloc w
  go_enter Tryz.func14, Tryz.ntmps14
  go_wp2_with fail
  refine (HX.out _ (HB _ _)).mono ?_
  rintro r w1 ⟨rfl, b1⟩
  have HB1 : Hid (Below w.heap.size w w1) := (HB _ _).trans (b1.mono (by simp; omega))
  clear b1 HB
  go_wp2
  go_ret
  exact ⟨rfl, HB1.out⟩
end Go.Proofs.YtgjjcmhlmdfccaaGreatDoor

/- The eight bytes of a whole number; no Go function is walked here. -/
namespace Go.Proofs.YtgjjcmhlmdfccaaGreatDoor

end Go.Proofs.YtgjjcmhlmdfccaaGreatDoor

/- What the Writer's Int64 does, and put64 behind it: eight bytes, the highest first. -/
namespace Go.Proofs.YtgjjcmhlmdfccaaGreatDoor
open Go.RowKit
set_option maxRecDepth 8000

end Go.Proofs.YtgjjcmhlmdfccaaGreatDoor

/- What the Writer's Raw does: it puts the bytes behind those that the Writer has. -/
namespace Go.Proofs.YtgjjcmhlmdfccaaGreatDoor
open Go.RowKit
set_option maxRecDepth 8000

end Go.Proofs.YtgjjcmhlmdfccaaGreatDoor

/- What the rest of the Writer's calls do: Bool, Int8, Float, Text and Buffer. -/
namespace Go.Proofs.YtgjjcmhlmdfccaaGreatDoor
open Go.RowKit
set_option maxRecDepth 8000

end Go.Proofs.YtgjjcmhlmdfccaaGreatDoor

/- What putId, and PutList of ids with it, put behind a Writer's bytes. -/
namespace Go.Proofs.YtgjjcmhlmdfccaaGreatDoor
open Go.RowKit
set_option maxRecDepth 8000

end Go.Proofs.YtgjjcmhlmdfccaaGreatDoor

/- What txn.Write answers of a transaction that may be, by what put lays of its request. -/
namespace Go.Proofs.YtgjjcmhlmdfccaaGreatDoor
open Go.RowKit
set_option maxRecDepth 8000

end Go.Proofs.YtgjjcmhlmdfccaaGreatDoor

/- What put of package txn lays of a Delete without ids. -/
namespace Go.Proofs.YtgjjcmhlmdfccaaGreatDoor
open Go.RowKit
set_option maxRecDepth 8000

end Go.Proofs.YtgjjcmhlmdfccaaGreatDoor

/- What txn.Check and txn.Write answer of the transaction that the statements' own first look makes. -/
namespace Go.Proofs.YtgjjcmhlmdfccaaGreatDoor
open Go.RowKit
set_option maxRecDepth 8000

end Go.Proofs.YtgjjcmhlmdfccaaGreatDoor

/- What get of package txn reads of a Delete without ids. -/
namespace Go.Proofs.YtgjjcmhlmdfccaaGreatDoor
open Go.RowKit
set_option maxRecDepth 8000

end Go.Proofs.YtgjjcmhlmdfccaaGreatDoor

/- What txn.Read answers of the bytes of the transaction that the statements' own first look makes. -/
namespace Go.Proofs.YtgjjcmhlmdfccaaGreatDoor
open Go.RowKit
set_option maxRecDepth 8000

section
variable {w W W' : World} {g : Nat} {v : Value} {xs ys : List Int} {t : Nat} {cs : Array Value}

end

end Go.Proofs.YtgjjcmhlmdfccaaGreatDoor

/- EqTxn of lagoonref00 at two transactions of the same data, and what the statements' own first look 'works' answers: true. -/
namespace Go.Proofs.YtgjjcmhlmdfccaaGreatDoor
open Go.RowKit
set_option maxRecDepth 8000

end Go.Proofs.YtgjjcmhlmdfccaaGreatDoor
