/- EqTxn of lagoonref00 at two transactions of the same data, and what the statements' own first look 'works' answers: true. -/
import Derived.Test.YtljghfglabgckaaDoorEqQJ
import Derived.Test.YtljghfglabgckaaDoorWkReadJ
namespace Go.Proofs.YtljghfglabgckaaDoor
open Go.RowKit
set_option maxRecDepth 8000

theorem eqOr (s b m : Int) (w : World) : (binOp .eql 41 (.agg #[.int .i8 s, .int .u32 b, .int .i64 m]) (.agg #[.int .i8 s, .int .u32 b, .int .i64 m])).run Tryd.prog w = .ok (.bool true) w := by
  have hu : Tryd.prog.underlying 41 = some (.struct (Tryd.prog.fieldsOf 41)) := by kernel_rfl
  have hp : Tryd.prog.stoodInHeld 41 = false := by kernel_rfl
  have u3 := Tryd.underlying31
  have a3 := Tryd.isAgg31
  have z3 := Tryd.sizeOf31
  have u4 := Tryd.underlying28
  have a4 := Tryd.isAgg28
  have z4 := Tryd.sizeOf28
  have u5 := Tryd.underlying2
  have a5 := Tryd.isAgg2
  have z5 := Tryd.sizeOf2
  rw [run_eql_struct, show (10000 : Nat) = 9999 + 1 from rfl, run_equalIn_agg w 9999 _ _ _ hu hp]
  simp only [Program.fieldsOf, Tryd.underlying41]
  go_simp

set_option maxHeartbeats 1000000 in
theorem eqTxn_same (cs ds : List Value) (t : TxD) (w : World) (hcs : SeesTx w cs t) (hds : SeesTx w ds t) :
    Calls Tryd.prog 24 #[.agg cs.toArray, .agg ds.toArray] w fun r w' => r = .returned (.bool true) ∧ Below w.heap.size w w' := by
  obtain ⟨rc, rfl, hr⟩ := hcs
  obtain ⟨rd, rfl, hr'⟩ := hds
  obtain ⟨e, n, sv, bt, nm, rq⟩ := t
  have HX : Hid (∀ W : World, Below w.heap.size w W → Calls Tryd.prog 30 #[.agg rc.toArray, .agg rd.toArray] W fun r w' => r = .returned (.bool true) ∧ Below W.heap.size W w') := fun W hW =>
    eqRequest_same rq rc rd W (hr.later hW (Nat.le_refl _)) (hr'.later hW (Nat.le_refl _))
  obtain ⟨kx, sx, dx0, dx1, dx2, ax0, ax1, ax2, vx, px, qx, zx, tx, wx0, wx1, wx2, ox0, ox1, ox2, rfl⟩ := rq_forms hr
  obtain ⟨ky, sy, dy0, dy1, dy2, ay0, ay1, ay2, vy, py, qy, zy, ty, wy0, wy1, wy2, oy0, oy1, oy2, rfl⟩ := rq_forms hr'
  have hg : Tryd.prog.eqGuardType Tryd.prog.depth 30 = false := by kernel_rfl
  have hg' : Tryd.prog.eqGuardType Tryd.prog.depth 41 = false := by kernel_rfl
  have hq := eqZx e n e n
  rw [decide_eq_true (⟨rfl, rfl⟩ : e = e ∧ n = n)] at hq
  have hq' := eqOr sv bt nm
  simp only [txHead, List.cons_append, List.nil_append]
  clear hr hr'
  have HB := two_alloc w
  go_enter Tryd.func24, Tryd.ntmps24
  go_wp2_with fail
  refine (HX.out _ (HB _ _)).mono ?_
  rintro r w1 ⟨rfl, b1⟩
  have HB1 : Hid (Below w.heap.size w w1) := (HB _ _).trans (b1.mono (by simp; omega))
  clear b1 HB
  go_wp2
  go_ret
  exact ⟨rfl, HB1.out⟩

def rqWd : Rq := .mk ⟨2, pathW, [], [], -1, false, false, 0, 0, []⟩ 0 (fun i => i.elim0)
def txWd : TxD := ⟨1, 2, 3, 4, 5, rqWd⟩
theorem sees_works (w : World) : SeesTx w txW.toList txWd :=
  ⟨rqW.toList, rfl, .mk ⟨2, pathW, [], [], -1, false, false, 0, 0, []⟩ 0 (fun i => i.elim0) _ _ _ _ (fun i => i.elim0) ⟨none, 0, rfl, Nat.le_refl _, by unfold maxLen; omega, fun _ => rfl, .inl rfl⟩ (SeesR.nil w 3) (SeesR.nil w 2) (SeesR.nil w 11) (fun i => i.elim0)⟩

end Go.Proofs.YtljghfglabgckaaDoor