/- What txn.Check answers, for every transaction. -/
import Derived.Test.YtgjjcmhlmdfccaaGreatDoorMayBJ
import Derived.Test.YtgjjcmhlmdfccaaGreatDoorChk5J
namespace Go.Proofs.YtgjjcmhlmdfccaaGreatDoor
open Go.RowKit
set_option maxRecDepth 8000

section
variable (e n sv bt nm k : Int) (s : ByteArray) (da aa wa oa : Option Addr) (dl dc al ac wl wc ol oc : Nat) (ver : Int) (eph seq : Bool) (ses tmo : Int) (w : World) (h0 : 0 ≤ e) (h2 : 0 ≤ n)
include h0 h2

set_option maxHeartbeats 4000000 in
theorem check_1 (hz : zxOk e n = false) :
    Calls Tryz.prog 118 #[.agg #[.int .u32 e, .int .u32 n, .int .i8 sv, .int .u32 bt, .int .i64 nm, .int .i8 k, .string s, .slice da dl dc, .slice aa al ac, .int .i32 ver, .bool eph, .bool seq, .int .i64 ses, .int .i32 tmo, .slice wa wl wc, .slice oa ol oc]] w fun r w' => r = .returned (.int .i64 40) ∧ Below w.heap.size w w' := by
  have HZ : Hid (∀ W : World, Calls Tryz.prog 141 #[.agg #[.int .u32 e, .int .u32 n]] W fun r w' => r = .returned (.bool false) ∧ Below W.heap.size W w') := fun W => by
    rw [← hz]; exact isZxid_any e n W h0 h2
  have HL : Hid (∀ o : Obj, Below w.heap.size w (w.alloc o).drew) := fun o => below_drewN (one_alloc w o) 1
  clear hz h0 h2
  go_enter Tryz.func118, Tryz.ntmps118
  go_wp2_with fail
  generalize eW0 : (w.alloc (.cells #[.int .u32 e, .int .u32 n, .int .i8 sv, .int .u32 bt, .int .i64 nm, .int .i8 k, .string s, .slice da dl dc, .slice aa al ac, .int .i32 ver, .bool eph, .bool seq, .int .i64 ses, .int .i32 tmo, .slice wa wl wc, .slice oa ol oc] 37)) = W0
  have k0 : W0.drew.cell? ⟨w.heap.size, 0, none⟩ = some (.int .u32 e) ∧ W0.drew.cell? ⟨w.heap.size, 1, none⟩ = some (.int .u32 n) ∧ W0.drew.cell? ⟨w.heap.size, 2, none⟩ = some (.int .i8 sv) ∧ W0.drew.cell? ⟨w.heap.size, 3, none⟩ = some (.int .u32 bt) ∧ W0.drew.cell? ⟨w.heap.size, 4, none⟩ = some (.int .i64 nm) ∧ W0.drew.cell? ⟨w.heap.size, 5, none⟩ = some (.int .i8 k) ∧ W0.drew.cell? ⟨w.heap.size, 6, none⟩ = some (.string s) ∧ W0.drew.cell? ⟨w.heap.size, 7, none⟩ = some (.slice da dl dc) ∧ W0.drew.cell? ⟨w.heap.size, 8, none⟩ = some (.slice aa al ac) ∧ W0.drew.cell? ⟨w.heap.size, 9, none⟩ = some (.int .i32 ver) ∧ W0.drew.cell? ⟨w.heap.size, 10, none⟩ = some (.bool eph) ∧ W0.drew.cell? ⟨w.heap.size, 11, none⟩ = some (.bool seq) ∧ W0.drew.cell? ⟨w.heap.size, 12, none⟩ = some (.int .i64 ses) ∧ W0.drew.cell? ⟨w.heap.size, 13, none⟩ = some (.int .i32 tmo) ∧ W0.drew.cell? ⟨w.heap.size, 14, none⟩ = some (.slice wa wl wc) ∧ W0.drew.cell? ⟨w.heap.size, 15, none⟩ = some (.slice oa ol oc) := by
    subst eW0
    refine ⟨?_, ?_, ?_, ?_, ?_, ?_, ?_, ?_, ?_, ?_, ?_, ?_, ?_, ?_, ?_, ?_⟩ <;> (show World.cell? (w.alloc _) _ = _; rw [cell_of_row _ _ _ _ _ _ (heap_alloc_new _ _)]; rfl)
  have HG0 : Hid (Below w.heap.size w W0.drew) := by subst eW0; exact HL.out _
  have HK0 : Hid _ := k0
  clear HL eW0 k0
  refine wp_region_held_drew (S := fun w' => w'.cell? ⟨w.heap.size, 0, none⟩ = some (.int .u32 e) ∧ w'.cell? ⟨w.heap.size, 1, none⟩ = some (.int .u32 n) ∧ w'.cell? ⟨w.heap.size, 2, none⟩ = some (.int .i8 sv) ∧ w'.cell? ⟨w.heap.size, 3, none⟩ = some (.int .u32 bt) ∧ w'.cell? ⟨w.heap.size, 4, none⟩ = some (.int .i64 nm) ∧ w'.cell? ⟨w.heap.size, 5, none⟩ = some (.int .i8 k) ∧ w'.cell? ⟨w.heap.size, 6, none⟩ = some (.string s) ∧ w'.cell? ⟨w.heap.size, 7, none⟩ = some (.slice da dl dc) ∧ w'.cell? ⟨w.heap.size, 8, none⟩ = some (.slice aa al ac) ∧ w'.cell? ⟨w.heap.size, 9, none⟩ = some (.int .i32 ver) ∧ w'.cell? ⟨w.heap.size, 10, none⟩ = some (.bool eph) ∧ w'.cell? ⟨w.heap.size, 11, none⟩ = some (.bool seq) ∧ w'.cell? ⟨w.heap.size, 12, none⟩ = some (.int .i64 ses) ∧ w'.cell? ⟨w.heap.size, 13, none⟩ = some (.int .i32 tmo) ∧ w'.cell? ⟨w.heap.size, 14, none⟩ = some (.slice wa wl wc) ∧ w'.cell? ⟨w.heap.size, 15, none⟩ = some (.slice oa ol oc)) (by kernel_rfl) HK0.out (fun hHeld => ?_)
  refine wpAnyH_take (i := 0) (oi := { dst := some 3, op := Op.fieldAddr 37 (Operand.tmp 1) 0, type := 0, pos := "txn.go:19", after := #[], guard := none }) (v := ?_) rfl (by kernel_rfl) (by kernel_rfl) (by kernel_rfl) (fun _ _ _ h => h) (Or.inl ⟨by rfl, ?_⟩) (by assumption) ?_
  rotate_left
  · (intro w hSw; (try dsimp only at hSw); go_simp) <;> with_reducible rfl
  try simp only [Act.put, List.setIfInBounds_toArray, List.set_cons_zero, List.set_cons_succ]
  refine wpAnyH_take (i := 1) (oi := { dst := some 4, op := Op.load 27 (Operand.tmp 3), type := 27, pos := "txn.go:19", after := #[{ on := 0, ground := Ground.data }], guard := none }) (v := ?_) rfl (by kernel_rfl) (by kernel_rfl) (by kernel_rfl) (fun _ _ _ h => h) (Or.inl ⟨by rfl, ?_⟩) (by assumption) ?_
  rotate_left
  · (intro w hSw; (try dsimp only at hSw); go_simp) <;> with_reducible rfl
  try simp only [Act.put, List.setIfInBounds_toArray, List.set_cons_zero, List.set_cons_succ]
  refine wpAnyH_ready (rs := [2]) (by kernel_rfl) (by simp) ?_
  refine AllReadyH.cons (o := { dst := some 5, op := Op.call { callee := Callee.value (Operand.func 141), args := #[Operand.tmp 4], argTypes := #[27] }, type := 4, pos := "txn.go:19", after := #[{ on := 1, ground := Ground.data }], guard := none }) rfl (fun K hK => ?_) AllReadyH.nil
  go_simp
  refine (HZ.out _).mono ?_
  rintro r w1 ⟨rfl, g1⟩
  have HG1 : Hid (Below w.heap.size w w1) := HG0.out.trans (g1.mono HG0.out.size)
  have HK1 : Hid _ := keep16 g1 HK0.out
  clear g1 hHeld
  refine hK.out _ _ HK1.out (fun hHeld => ?_)
  clear hK K
  refine wpAnyH_take (i := 3) (oi := { dst := some 6, op := Op.unOp UnOp.not 4 (Operand.tmp 5), type := 4, pos := "txn.go:19", after := #[{ on := 2, ground := Ground.data }], guard := none }) (v := ?_) rfl (by kernel_rfl) (by kernel_rfl) (by kernel_rfl) (fun _ _ _ h => h) (Or.inl ⟨by rfl, ?_⟩) (by assumption) ?_
  rotate_left
  · (intro w hSw; (try dsimp only at hSw); go_simp) <;> with_reducible rfl
  try simp only [Act.put, List.setIfInBounds_toArray, List.set_cons_zero, List.set_cons_succ]
  refine wpAnyH_take (i := 4) (oi := { dst := some 7, op := Op.move (Operand.tmp 6), type := 4, pos := "txn.go:19", after := #[{ on := 3, ground := Ground.data }, { on := 2, ground := Ground.chain }], guard := none }) (v := ?_) rfl (by kernel_rfl) (by kernel_rfl) (by kernel_rfl) (fun _ _ _ h => h) (Or.inl ⟨by rfl, ?_⟩) (by assumption) ?_
  rotate_left
  · (intro w hSw; (try dsimp only at hSw); go_simp) <;> with_reducible rfl
  try simp only [Act.put, List.setIfInBounds_toArray, List.set_cons_zero, List.set_cons_succ]
  refine wpAnyH_take (i := 5) (oi := { dst := some 8, op := Op.fieldAddr 37 (Operand.tmp 1) 1, type := 0, pos := "txn.go:19", after := #[{ on := 4, ground := Ground.guard }], guard := some (4, false) }) (v := undef) rfl (by kernel_rfl) (by kernel_rfl) (by kernel_rfl) (fun _ _ _ h => h) (Or.inr ⟨by rfl, rfl⟩) (by assumption) ?_
  try simp only [Act.put, List.setIfInBounds_toArray, List.set_cons_zero, List.set_cons_succ]
  refine wpAnyH_take (i := 6) (oi := { dst := some 9, op := Op.load 29 (Operand.tmp 8), type := 29, pos := "txn.go:19", after := #[{ on := 5, ground := Ground.data }, { on := 4, ground := Ground.guard }], guard := some (4, false) }) (v := undef) rfl (by kernel_rfl) (by kernel_rfl) (by kernel_rfl) (fun _ _ _ h => h) (Or.inr ⟨by rfl, rfl⟩) (by assumption) ?_
  try simp only [Act.put, List.setIfInBounds_toArray, List.set_cons_zero, List.set_cons_succ]
  refine wpAnyH_ready (rs := [7]) (by kernel_rfl) (by simp) ?_
  refine AllReadyH.cons (o := { dst := some 10, op := Op.call { callee := Callee.value (Operand.func 142), args := #[Operand.tmp 9], argTypes := #[29] }, type := 4, pos := "txn.go:19", after := #[{ on := 6, ground := Ground.data }, { on := 4, ground := Ground.chain }, { on := 4, ground := Ground.guard }], guard := some (4, false) }) rfl (fun K hK => ?_) AllReadyH.nil
  go_simp
  refine hK.out _ _ (by assumption) (fun _ => ?_)
  clear hK K
  refine wpAnyH_take (i := 8) (oi := { dst := some 11, op := Op.unOp UnOp.not 4 (Operand.tmp 10), type := 4, pos := "txn.go:19", after := #[{ on := 7, ground := Ground.data }, { on := 4, ground := Ground.guard }], guard := some (4, false) }) (v := undef) rfl (by kernel_rfl) (by kernel_rfl) (by kernel_rfl) (fun _ _ _ h => h) (Or.inr ⟨by rfl, rfl⟩) (by assumption) ?_
  try simp only [Act.put, List.setIfInBounds_toArray, List.set_cons_zero, List.set_cons_succ]
  refine wpAnyH_take (i := 9) (oi := { dst := some 12, op := Op.pick (Operand.tmp 7) (Operand.const (Value.bool true)) (Operand.tmp 11), type := 4, pos := "txn.go:19", after := #[{ on := 4, ground := Ground.data }, { on := 8, ground := Ground.data }], guard := none }) (v := ?_) rfl (by kernel_rfl) (by kernel_rfl) (by kernel_rfl) (fun _ _ _ h => h) (Or.inl ⟨by rfl, ?_⟩) (by assumption) ?_
  rotate_left
  · (intro w hSw; (try dsimp only at hSw); go_simp) <;> with_reducible rfl
  try simp only [Act.put, List.setIfInBounds_toArray, List.set_cons_zero, List.set_cons_succ]
  refine wpAnyH_take (i := 10) (oi := { dst := some 13, op := Op.move (Operand.tmp 12), type := 4, pos := "txn.go:19", after := #[{ on := 9, ground := Ground.data }, { on := 7, ground := Ground.chain }], guard := none }) (v := ?_) rfl (by kernel_rfl) (by kernel_rfl) (by kernel_rfl) (fun _ _ _ h => h) (Or.inl ⟨by rfl, ?_⟩) (by assumption) ?_
  rotate_left
  · (intro w hSw; (try dsimp only at hSw); go_simp) <;> with_reducible rfl
  try simp only [Act.put, List.setIfInBounds_toArray, List.set_cons_zero, List.set_cons_succ]
  refine wpAnyH_take (i := 12) (oi := { dst := some 15, op := Op.fieldAddr 37 (Operand.tmp 1) 2, type := 0, pos := "txn.go:19", after := #[{ on := 10, ground := Ground.guard }], guard := some (10, false) }) (v := undef) rfl (by kernel_rfl) (by kernel_rfl) (by kernel_rfl) (fun _ _ _ h => h) (Or.inr ⟨by rfl, rfl⟩) (by assumption) ?_
  try simp only [Act.put, List.setIfInBounds_toArray, List.set_cons_zero, List.set_cons_succ]
  refine wpAnyH_take (i := 13) (oi := { dst := some 16, op := Op.load 35 (Operand.tmp 15), type := 35, pos := "txn.go:19", after := #[{ on := 12, ground := Ground.data }, { on := 10, ground := Ground.guard }], guard := some (10, false) }) (v := undef) rfl (by kernel_rfl) (by kernel_rfl) (by kernel_rfl) (fun _ _ _ h => h) (Or.inr ⟨by rfl, rfl⟩) (by assumption) ?_
  try simp only [Act.put, List.setIfInBounds_toArray, List.set_cons_zero, List.set_cons_succ]
  refine wpAnyH_ready (rs := [11]) (by kernel_rfl) (by simp) ?_
  refine AllReadyH.cons (o := { dst := some 14, op := Op.call { callee := Callee.value (Operand.func 143), args := #[], argTypes := #[] }, type := 174, pos := "txn.go:19", after := #[{ on := 10, ground := Ground.chain }, { on := 10, ground := Ground.guard }], guard := some (10, false) }) rfl (fun K hK => ?_) AllReadyH.nil
  go_simp
  refine hK.out _ _ (by assumption) (fun _ => ?_)
  clear hK K
  refine wpAnyH_ready (rs := [14]) (by kernel_rfl) (by simp) ?_
  refine AllReadyH.cons (o := { dst := some 17, op := Op.call { callee := Callee.value (Operand.func 144), args := #[Operand.tmp 14, Operand.tmp 16], argTypes := #[174, 35] }, type := 4, pos := "txn.go:19", after := #[{ on := 11, ground := Ground.data }, { on := 13, ground := Ground.data }, { on := 11, ground := Ground.chain }, { on := 10, ground := Ground.guard }], guard := some (10, false) }) rfl (fun K hK => ?_) AllReadyH.nil
  go_simp
  refine hK.out _ _ (by assumption) (fun _ => ?_)
  clear hK K
  refine wpAnyH_take (i := 15) (oi := { dst := some 18, op := Op.unOp UnOp.not 4 (Operand.tmp 17), type := 4, pos := "txn.go:19", after := #[{ on := 14, ground := Ground.data }, { on := 10, ground := Ground.guard }], guard := some (10, false) }) (v := undef) rfl (by kernel_rfl) (by kernel_rfl) (by kernel_rfl) (fun _ _ _ h => h) (Or.inr ⟨by rfl, rfl⟩) (by assumption) ?_
  try simp only [Act.put, List.setIfInBounds_toArray, List.set_cons_zero, List.set_cons_succ]
  refine wpAnyH_take (i := 16) (oi := { dst := some 19, op := Op.pick (Operand.tmp 13) (Operand.const (Value.bool true)) (Operand.tmp 18), type := 4, pos := "txn.go:19", after := #[{ on := 10, ground := Ground.data }, { on := 15, ground := Ground.data }], guard := none }) (v := ?_) rfl (by kernel_rfl) (by kernel_rfl) (by kernel_rfl) (fun _ _ _ h => h) (Or.inl ⟨by rfl, ?_⟩) (by assumption) ?_
  rotate_left
  · (intro w hSw; (try dsimp only at hSw); go_simp) <;> with_reducible rfl
  try simp only [Act.put, List.setIfInBounds_toArray, List.set_cons_zero, List.set_cons_succ]
  refine wpAnyH_done (by kernel_rfl) ?_ _
  go_wp2_with fail
  go_ret
  exact ⟨rfl, HG1.out⟩

set_option maxHeartbeats 4000000 in
theorem check_2 (hz : zxOk e n = true) (hO : origOk sv nm = false) :
    Calls Tryz.prog 118 #[.agg #[.int .u32 e, .int .u32 n, .int .i8 sv, .int .u32 bt, .int .i64 nm, .int .i8 k, .string s, .slice da dl dc, .slice aa al ac, .int .i32 ver, .bool eph, .bool seq, .int .i64 ses, .int .i32 tmo, .slice wa wl wc, .slice oa ol oc]] w fun r w' => r = .returned (.int .i64 40) ∧ Below w.heap.size w w' := by
  have HZ : Hid (∀ W : World, Calls Tryz.prog 141 #[.agg #[.int .u32 e, .int .u32 n]] W fun r w' => r = .returned (.bool true) ∧ Below W.heap.size W w') := fun W => by
    rw [← hz]; exact isZxid_any e n W h0 h2
  have HO : Hid (∀ W : World, Calls Tryz.prog 142 #[.agg #[.int .i8 sv, .int .u32 bt, .int .i64 nm]] W fun r w' => r = .returned (.bool false) ∧ Below W.heap.size W w') := fun W => by
    rw [← hO]; exact isOrigin_any sv bt nm W
  have HL : Hid (∀ o : Obj, Below w.heap.size w (w.alloc o).drew) := fun o => below_drewN (one_alloc w o) 1
  clear hz hO h0 h2
  go_enter Tryz.func118, Tryz.ntmps118
  go_wp2_with fail
  generalize eW0 : (w.alloc (.cells #[.int .u32 e, .int .u32 n, .int .i8 sv, .int .u32 bt, .int .i64 nm, .int .i8 k, .string s, .slice da dl dc, .slice aa al ac, .int .i32 ver, .bool eph, .bool seq, .int .i64 ses, .int .i32 tmo, .slice wa wl wc, .slice oa ol oc] 37)) = W0
  have k0 : W0.drew.cell? ⟨w.heap.size, 0, none⟩ = some (.int .u32 e) ∧ W0.drew.cell? ⟨w.heap.size, 1, none⟩ = some (.int .u32 n) ∧ W0.drew.cell? ⟨w.heap.size, 2, none⟩ = some (.int .i8 sv) ∧ W0.drew.cell? ⟨w.heap.size, 3, none⟩ = some (.int .u32 bt) ∧ W0.drew.cell? ⟨w.heap.size, 4, none⟩ = some (.int .i64 nm) ∧ W0.drew.cell? ⟨w.heap.size, 5, none⟩ = some (.int .i8 k) ∧ W0.drew.cell? ⟨w.heap.size, 6, none⟩ = some (.string s) ∧ W0.drew.cell? ⟨w.heap.size, 7, none⟩ = some (.slice da dl dc) ∧ W0.drew.cell? ⟨w.heap.size, 8, none⟩ = some (.slice aa al ac) ∧ W0.drew.cell? ⟨w.heap.size, 9, none⟩ = some (.int .i32 ver) ∧ W0.drew.cell? ⟨w.heap.size, 10, none⟩ = some (.bool eph) ∧ W0.drew.cell? ⟨w.heap.size, 11, none⟩ = some (.bool seq) ∧ W0.drew.cell? ⟨w.heap.size, 12, none⟩ = some (.int .i64 ses) ∧ W0.drew.cell? ⟨w.heap.size, 13, none⟩ = some (.int .i32 tmo) ∧ W0.drew.cell? ⟨w.heap.size, 14, none⟩ = some (.slice wa wl wc) ∧ W0.drew.cell? ⟨w.heap.size, 15, none⟩ = some (.slice oa ol oc) := by
    subst eW0
    refine ⟨?_, ?_, ?_, ?_, ?_, ?_, ?_, ?_, ?_, ?_, ?_, ?_, ?_, ?_, ?_, ?_⟩ <;> (show World.cell? (w.alloc _) _ = _; rw [cell_of_row _ _ _ _ _ _ (heap_alloc_new _ _)]; rfl)
  have HG0 : Hid (Below w.heap.size w W0.drew) := by subst eW0; exact HL.out _
  have HK0 : Hid _ := k0
  clear HL eW0 k0
  refine wp_region_held_drew (S := fun w' => w'.cell? ⟨w.heap.size, 0, none⟩ = some (.int .u32 e) ∧ w'.cell? ⟨w.heap.size, 1, none⟩ = some (.int .u32 n) ∧ w'.cell? ⟨w.heap.size, 2, none⟩ = some (.int .i8 sv) ∧ w'.cell? ⟨w.heap.size, 3, none⟩ = some (.int .u32 bt) ∧ w'.cell? ⟨w.heap.size, 4, none⟩ = some (.int .i64 nm) ∧ w'.cell? ⟨w.heap.size, 5, none⟩ = some (.int .i8 k) ∧ w'.cell? ⟨w.heap.size, 6, none⟩ = some (.string s) ∧ w'.cell? ⟨w.heap.size, 7, none⟩ = some (.slice da dl dc) ∧ w'.cell? ⟨w.heap.size, 8, none⟩ = some (.slice aa al ac) ∧ w'.cell? ⟨w.heap.size, 9, none⟩ = some (.int .i32 ver) ∧ w'.cell? ⟨w.heap.size, 10, none⟩ = some (.bool eph) ∧ w'.cell? ⟨w.heap.size, 11, none⟩ = some (.bool seq) ∧ w'.cell? ⟨w.heap.size, 12, none⟩ = some (.int .i64 ses) ∧ w'.cell? ⟨w.heap.size, 13, none⟩ = some (.int .i32 tmo) ∧ w'.cell? ⟨w.heap.size, 14, none⟩ = some (.slice wa wl wc) ∧ w'.cell? ⟨w.heap.size, 15, none⟩ = some (.slice oa ol oc)) (by kernel_rfl) HK0.out (fun hHeld => ?_)
  refine wpAnyH_take (i := 0) (oi := { dst := some 3, op := Op.fieldAddr 37 (Operand.tmp 1) 0, type := 0, pos := "txn.go:19", after := #[], guard := none }) (v := ?_) rfl (by kernel_rfl) (by kernel_rfl) (by kernel_rfl) (fun _ _ _ h => h) (Or.inl ⟨by rfl, ?_⟩) (by assumption) ?_
  rotate_left
  · (intro w hSw; (try dsimp only at hSw); go_simp) <;> with_reducible rfl
  try simp only [Act.put, List.setIfInBounds_toArray, List.set_cons_zero, List.set_cons_succ]
  refine wpAnyH_take (i := 1) (oi := { dst := some 4, op := Op.load 27 (Operand.tmp 3), type := 27, pos := "txn.go:19", after := #[{ on := 0, ground := Ground.data }], guard := none }) (v := ?_) rfl (by kernel_rfl) (by kernel_rfl) (by kernel_rfl) (fun _ _ _ h => h) (Or.inl ⟨by rfl, ?_⟩) (by assumption) ?_
  rotate_left
  · (intro w hSw; (try dsimp only at hSw); go_simp) <;> with_reducible rfl
  try simp only [Act.put, List.setIfInBounds_toArray, List.set_cons_zero, List.set_cons_succ]
  refine wpAnyH_ready (rs := [2]) (by kernel_rfl) (by simp) ?_
  refine AllReadyH.cons (o := { dst := some 5, op := Op.call { callee := Callee.value (Operand.func 141), args := #[Operand.tmp 4], argTypes := #[27] }, type := 4, pos := "txn.go:19", after := #[{ on := 1, ground := Ground.data }], guard := none }) rfl (fun K hK => ?_) AllReadyH.nil
  go_simp
  refine (HZ.out _).mono ?_
  rintro r w1 ⟨rfl, g1⟩
  have HG1 : Hid (Below w.heap.size w w1) := HG0.out.trans (g1.mono HG0.out.size)
  have HK1 : Hid _ := keep16 g1 HK0.out
  clear g1 hHeld
  refine hK.out _ _ HK1.out (fun hHeld => ?_)
  clear hK K
  refine wpAnyH_take (i := 3) (oi := { dst := some 6, op := Op.unOp UnOp.not 4 (Operand.tmp 5), type := 4, pos := "txn.go:19", after := #[{ on := 2, ground := Ground.data }], guard := none }) (v := ?_) rfl (by kernel_rfl) (by kernel_rfl) (by kernel_rfl) (fun _ _ _ h => h) (Or.inl ⟨by rfl, ?_⟩) (by assumption) ?_
  rotate_left
  · (intro w hSw; (try dsimp only at hSw); go_simp) <;> with_reducible rfl
  try simp only [Act.put, List.setIfInBounds_toArray, List.set_cons_zero, List.set_cons_succ]
  refine wpAnyH_take (i := 4) (oi := { dst := some 7, op := Op.move (Operand.tmp 6), type := 4, pos := "txn.go:19", after := #[{ on := 3, ground := Ground.data }, { on := 2, ground := Ground.chain }], guard := none }) (v := ?_) rfl (by kernel_rfl) (by kernel_rfl) (by kernel_rfl) (fun _ _ _ h => h) (Or.inl ⟨by rfl, ?_⟩) (by assumption) ?_
  rotate_left
  · (intro w hSw; (try dsimp only at hSw); go_simp) <;> with_reducible rfl
  try simp only [Act.put, List.setIfInBounds_toArray, List.set_cons_zero, List.set_cons_succ]
  refine wpAnyH_take (i := 5) (oi := { dst := some 8, op := Op.fieldAddr 37 (Operand.tmp 1) 1, type := 0, pos := "txn.go:19", after := #[{ on := 4, ground := Ground.guard }], guard := some (4, false) }) (v := ?_) rfl (by kernel_rfl) (by kernel_rfl) (by kernel_rfl) (fun _ _ _ h => h) (Or.inl ⟨by rfl, ?_⟩) (by assumption) ?_
  rotate_left
  · (intro w hSw; (try dsimp only at hSw); go_simp) <;> with_reducible rfl
  try simp only [Act.put, List.setIfInBounds_toArray, List.set_cons_zero, List.set_cons_succ]
  refine wpAnyH_take (i := 6) (oi := { dst := some 9, op := Op.load 29 (Operand.tmp 8), type := 29, pos := "txn.go:19", after := #[{ on := 5, ground := Ground.data }, { on := 4, ground := Ground.guard }], guard := some (4, false) }) (v := ?_) rfl (by kernel_rfl) (by kernel_rfl) (by kernel_rfl) (fun _ _ _ h => h) (Or.inl ⟨by rfl, ?_⟩) (by assumption) ?_
  rotate_left
  · (intro w hSw; (try dsimp only at hSw); go_simp) <;> with_reducible rfl
  try simp only [Act.put, List.setIfInBounds_toArray, List.set_cons_zero, List.set_cons_succ]
  refine wpAnyH_ready (rs := [7]) (by kernel_rfl) (by simp) ?_
  refine AllReadyH.cons (o := { dst := some 10, op := Op.call { callee := Callee.value (Operand.func 142), args := #[Operand.tmp 9], argTypes := #[29] }, type := 4, pos := "txn.go:19", after := #[{ on := 6, ground := Ground.data }, { on := 4, ground := Ground.chain }, { on := 4, ground := Ground.guard }], guard := some (4, false) }) rfl (fun K hK => ?_) AllReadyH.nil
  go_simp
  refine (HO.out _).mono ?_
  rintro r w2 ⟨rfl, g2⟩
  have HG2 : Hid (Below w.heap.size w w2) := HG1.out.trans (g2.mono HG1.out.size)
  have HK2 : Hid _ := keep16 g2 HK1.out
  clear g2 hHeld
  refine hK.out _ _ HK2.out (fun hHeld => ?_)
  clear hK K
  refine wpAnyH_take (i := 8) (oi := { dst := some 11, op := Op.unOp UnOp.not 4 (Operand.tmp 10), type := 4, pos := "txn.go:19", after := #[{ on := 7, ground := Ground.data }, { on := 4, ground := Ground.guard }], guard := some (4, false) }) (v := ?_) rfl (by kernel_rfl) (by kernel_rfl) (by kernel_rfl) (fun _ _ _ h => h) (Or.inl ⟨by rfl, ?_⟩) (by assumption) ?_
  rotate_left
  · (intro w hSw; (try dsimp only at hSw); go_simp) <;> with_reducible rfl
  try simp only [Act.put, List.setIfInBounds_toArray, List.set_cons_zero, List.set_cons_succ]
  refine wpAnyH_take (i := 9) (oi := { dst := some 12, op := Op.pick (Operand.tmp 7) (Operand.const (Value.bool true)) (Operand.tmp 11), type := 4, pos := "txn.go:19", after := #[{ on := 4, ground := Ground.data }, { on := 8, ground := Ground.data }], guard := none }) (v := ?_) rfl (by kernel_rfl) (by kernel_rfl) (by kernel_rfl) (fun _ _ _ h => h) (Or.inl ⟨by rfl, ?_⟩) (by assumption) ?_
  rotate_left
  · (intro w hSw; (try dsimp only at hSw); go_simp) <;> with_reducible rfl
  try simp only [Act.put, List.setIfInBounds_toArray, List.set_cons_zero, List.set_cons_succ]
  refine wpAnyH_take (i := 10) (oi := { dst := some 13, op := Op.move (Operand.tmp 12), type := 4, pos := "txn.go:19", after := #[{ on := 9, ground := Ground.data }, { on := 7, ground := Ground.chain }], guard := none }) (v := ?_) rfl (by kernel_rfl) (by kernel_rfl) (by kernel_rfl) (fun _ _ _ h => h) (Or.inl ⟨by rfl, ?_⟩) (by assumption) ?_
  rotate_left
  · (intro w hSw; (try dsimp only at hSw); go_simp) <;> with_reducible rfl
  try simp only [Act.put, List.setIfInBounds_toArray, List.set_cons_zero, List.set_cons_succ]
  refine wpAnyH_take (i := 12) (oi := { dst := some 15, op := Op.fieldAddr 37 (Operand.tmp 1) 2, type := 0, pos := "txn.go:19", after := #[{ on := 10, ground := Ground.guard }], guard := some (10, false) }) (v := undef) rfl (by kernel_rfl) (by kernel_rfl) (by kernel_rfl) (fun _ _ _ h => h) (Or.inr ⟨by rfl, rfl⟩) (by assumption) ?_
  try simp only [Act.put, List.setIfInBounds_toArray, List.set_cons_zero, List.set_cons_succ]
  refine wpAnyH_take (i := 13) (oi := { dst := some 16, op := Op.load 35 (Operand.tmp 15), type := 35, pos := "txn.go:19", after := #[{ on := 12, ground := Ground.data }, { on := 10, ground := Ground.guard }], guard := some (10, false) }) (v := undef) rfl (by kernel_rfl) (by kernel_rfl) (by kernel_rfl) (fun _ _ _ h => h) (Or.inr ⟨by rfl, rfl⟩) (by assumption) ?_
  try simp only [Act.put, List.setIfInBounds_toArray, List.set_cons_zero, List.set_cons_succ]
  refine wpAnyH_ready (rs := [11]) (by kernel_rfl) (by simp) ?_
  refine AllReadyH.cons (o := { dst := some 14, op := Op.call { callee := Callee.value (Operand.func 143), args := #[], argTypes := #[] }, type := 174, pos := "txn.go:19", after := #[{ on := 10, ground := Ground.chain }, { on := 10, ground := Ground.guard }], guard := some (10, false) }) rfl (fun K hK => ?_) AllReadyH.nil
  go_simp
  refine hK.out _ _ (by assumption) (fun _ => ?_)
  clear hK K
  refine wpAnyH_ready (rs := [14]) (by kernel_rfl) (by simp) ?_
  refine AllReadyH.cons (o := { dst := some 17, op := Op.call { callee := Callee.value (Operand.func 144), args := #[Operand.tmp 14, Operand.tmp 16], argTypes := #[174, 35] }, type := 4, pos := "txn.go:19", after := #[{ on := 11, ground := Ground.data }, { on := 13, ground := Ground.data }, { on := 11, ground := Ground.chain }, { on := 10, ground := Ground.guard }], guard := some (10, false) }) rfl (fun K hK => ?_) AllReadyH.nil
  go_simp
  refine hK.out _ _ (by assumption) (fun _ => ?_)
  clear hK K
  refine wpAnyH_take (i := 15) (oi := { dst := some 18, op := Op.unOp UnOp.not 4 (Operand.tmp 17), type := 4, pos := "txn.go:19", after := #[{ on := 14, ground := Ground.data }, { on := 10, ground := Ground.guard }], guard := some (10, false) }) (v := undef) rfl (by kernel_rfl) (by kernel_rfl) (by kernel_rfl) (fun _ _ _ h => h) (Or.inr ⟨by rfl, rfl⟩) (by assumption) ?_
  try simp only [Act.put, List.setIfInBounds_toArray, List.set_cons_zero, List.set_cons_succ]
  refine wpAnyH_take (i := 16) (oi := { dst := some 19, op := Op.pick (Operand.tmp 13) (Operand.const (Value.bool true)) (Operand.tmp 18), type := 4, pos := "txn.go:19", after := #[{ on := 10, ground := Ground.data }, { on := 15, ground := Ground.data }], guard := none }) (v := ?_) rfl (by kernel_rfl) (by kernel_rfl) (by kernel_rfl) (fun _ _ _ h => h) (Or.inl ⟨by rfl, ?_⟩) (by assumption) ?_
  rotate_left
  · (intro w hSw; (try dsimp only at hSw); go_simp) <;> with_reducible rfl
  try simp only [Act.put, List.setIfInBounds_toArray, List.set_cons_zero, List.set_cons_succ]
  refine wpAnyH_done (by kernel_rfl) ?_ _
  go_wp2_with fail
  go_ret
  exact ⟨rfl, HG2.out⟩

end

/-- May a transaction be? -/
def txOk (t : TxD) : Bool := zxOk t.ep t.n && origOk t.srv t.num && mayP 8 0 t.rq

theorem check_any (cs : List Value) (t : TxD) (w : World) (h : SeesTx w cs t) (hg : t.good) (hn : Nam w) :
    Calls Tryz.prog 118 #[.agg cs.toArray] w fun r w' => r = .returned (.int .i64 (if txOk t then 0 else 40)) ∧ Below w.heap.size w w' := by
  obtain ⟨rc, rfl, hr⟩ := h
  have HM : ∀ W : World, Below w.heap.size w W → Calls Tryz.prog 144 #[lay 8 0, .agg rc.toArray] W fun r w' => r = .returned (.bool (mayP 8 0 t.rq)) ∧ Below W.heap.size W w' := fun W hW =>
    mayBe_any t.rq 8 0 rc W (by omega) (hr.later hW (Nat.le_refl _)) hg.rq (hn.below hW hn.lt)
  obtain ⟨q0, q1, d0, d1, d2, a0, a1, a2, q4, q5, q6, q7, q8, e0, e1, e2, o0, o1, o2, rfl⟩ := rq_forms hr
  have g1 := hg.e0
  have g2 := hg.n0
  by_cases hz : zxOk t.ep t.n = true
  · by_cases ho : origOk t.srv t.num = true
    · have e : txOk t = mayP 8 0 t.rq := by simp [txOk, hz, ho]
      rw [e]
      exact check_ok t.ep t.n t.srv t.boot t.num q0 q1 d0 a0 e0 o0 d1 d2 a1 a2 e1 e2 o1 o2 q4 q5 q6 q7 q8 (mayP 8 0 t.rq) w g1 g2 hz ho HM
    · have e : txOk t = false := by simp [txOk, ho]
      rw [e]
      exact check_2 t.ep t.n t.srv t.boot t.num q0 q1 d0 a0 e0 o0 d1 d2 a1 a2 e1 e2 o1 o2 q4 q5 q6 q7 q8 w g1 g2 hz (by simpa using ho)
  · have e : txOk t = false := by simp [txOk, hz]
    rw [e]
    exact check_1 t.ep t.n t.srv t.boot t.num q0 q1 d0 a0 e0 o0 d1 d2 a1 a2 e1 e2 o1 o2 q4 q5 q6 q7 q8 w g1 g2 (by simpa using hz)
end Go.Proofs.YtgjjcmhlmdfccaaGreatDoor
