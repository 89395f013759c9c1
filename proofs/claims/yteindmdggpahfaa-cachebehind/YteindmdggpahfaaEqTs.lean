/- EqTxn of lagoonref00 at two transactions of the same data. -/
import Derived.Test.YteindmdggpahfaaEqQ
import Derived.Test.YteindmdggpahfaaZx
namespace Go.Proofs.Yteindmdggpahfaa
open Go.RowKit
set_option maxRecDepth 8000

theorem eqOr (s b m : Int) (w : World) : (binOp .eql 35 (.agg #[.int .i8 s, .int .u32 b, .int .i64 m]) (.agg #[.int .i8 s, .int .u32 b, .int .i64 m])).run Try.prog w = .ok (.bool true) w := by
  have hu : Try.prog.underlying 35 = some (.struct (Try.prog.fieldsOf 35)) := by kernel_rfl
  have hp : Try.prog.stoodInHeld 35 = false := by kernel_rfl
  have u3 := Try.underlying33
  have a3 := Try.isAgg33
  have z3 := Try.sizeOf33
  have u4 := Try.underlying22
  have a4 := Try.isAgg22
  have z4 := Try.sizeOf22
  have u5 := Try.underlying2
  have a5 := Try.isAgg2
  have z5 := Try.sizeOf2
  rw [run_eql_struct, show (10000 : Nat) = 9999 + 1 from rfl, run_equalIn_agg w 9999 _ _ _ hu hp]
  simp only [Program.fieldsOf, Try.underlying35]
  go_simp

set_option maxHeartbeats 1000000 in
theorem eqTxn_same (cs ds : List Value) (t : TxD) (w : World) (hcs : SeesTx w cs t) (hds : SeesTx w ds t) :
    Calls Try.prog 10 #[.agg cs.toArray, .agg ds.toArray] w fun r w' => r = .returned (.bool true) ∧ Below w.heap.size w w' := by
  obtain ⟨rc, rfl, hr⟩ := hcs
  obtain ⟨rd, rfl, hr'⟩ := hds
  obtain ⟨e, n, sv, bt, nm, rq⟩ := t
  have HX : Hid (∀ W : World, Below w.heap.size w W → Calls Try.prog 25 #[.agg rc.toArray, .agg rd.toArray] W fun r w' => r = .returned (.bool true) ∧ Below W.heap.size W w') := fun W hW =>
    eqRequest_same rq rc rd W (hr.later hW (Nat.le_refl _)) (hr'.later hW (Nat.le_refl _))
  obtain ⟨kx, sx, dx0, dx1, dx2, ax0, ax1, ax2, vx, px, qx, zx, tx, wx0, wx1, wx2, ox0, ox1, ox2, rfl⟩ := rq_forms hr
  obtain ⟨ky, sy, dy0, dy1, dy2, ay0, ay1, ay2, vy, py, qy, zy, ty, wy0, wy1, wy2, oy0, oy1, oy2, rfl⟩ := rq_forms hr'
  have hg : Try.prog.eqGuardType Try.prog.depth 24 = false := by kernel_rfl
  have hg' : Try.prog.eqGuardType Try.prog.depth 35 = false := by kernel_rfl
  have hq := eqZx e n e n
  rw [decide_eq_true (⟨rfl, rfl⟩ : e = e ∧ n = n)] at hq
  have hq' := eqOr sv bt nm
  simp only [txHead, List.cons_append, List.nil_append]
  clear hr hr'
  have HB := two_alloc w
  go_enter Try.func10, Try.ntmps10
  go_wp2_with fail
  refine (HX.out _ (HB _ _)).mono ?_
  rintro r w1 ⟨rfl, b1⟩
  have HB1 : Hid (Below w.heap.size w w1) := (HB _ _).trans (b1.mono (by simp; omega))
  clear b1 HB
  go_wp2
  go_ret
  exact ⟨rfl, HB1.out⟩
end Go.Proofs.Yteindmdggpahfaa
