/- EqTxns of lagoonref00 at the same data: true. -/
import Derived.Test.YtljghfglabgckaaDoorWorks4J
import Derived.Test.YtljghfglabgckaaDoorLargeTJ
import Derived.Deep.RegionHeld
namespace Go.Proofs.YtljghfglabgckaaDoor
open Go.RowKit
set_option maxRecDepth 8000

set_option maxHeartbeats 4000000 in
theorem eqTxns_same (v u : Value) (l : List TxD) (w : World) (h : SeesTxs w v l) (g : SeesTxs w u l) :
    Calls Tryd.prog 12 #[v, u] w fun e w' => e = .returned (.bool true) ∧ Below w.heap.size w w' := by
  obtain ⟨ax, cx, rfl, hx1, hx2⟩ := txs_shape h
  obtain ⟨ay, cy, rfl, hy1, hy2⟩ := txs_shape g
  have HS : Hid (SeesTxs w (.slice ax l.length cx) l ∧ SeesTxs w (.slice ay l.length cy) l) := ⟨h, g⟩
  unfold maxLen at hx2 hy2
  clear h g
  go_enter Tryd.func12, Tryd.ntmps12
  go_wp2_with fail
  go_loopw [5] (fun i wr => ∃ k : Nat, k ≤ l.length ∧ i = .int .i64 k ∧ Hid (Below w.heap.size w wr)) (fun i _ => l.length - (intOf i).toNat)
  case atStart => exact ⟨0, Nat.zero_le _, rfl, Below.refl _ _⟩
  case round =>
    obtain ⟨k, hk, rfl, HB⟩ := hrel
    by_cases hlt : k < l.length
    · obtain ⟨bx, ofx, cap', rc, hv, _, _, hrx, hax⟩ := txs_at (HS.out.1.below HB.out (Nat.le_refl _)) k hlt
      simp at hv
      obtain ⟨rfl, rfl⟩ := hv
      obtain ⟨b_y, ofy, cap', rd, hv, _, _, hry, hay⟩ := txs_at (HS.out.2.below HB.out (Nat.le_refl _)) k hlt
      simp at hv
      obtain ⟨rfl, rfl⟩ := hv
      obtain ⟨qx0, qx1, dx0, dx1, dx2, ax0, ax1, ax2, qx4, qx5, qx6, qx7, qx8, ex0, ex1, ex2, ox0, ox1, ox2, rfl⟩ := rq_forms hrx
      obtain ⟨qy0, qy1, dy0, dy1, dy2, ay0, ay1, ay2, qy4, qy5, qy6, qy7, qy8, ey0, ey1, ey2, oy0, oy1, oy2, rfl⟩ := rq_forms hry
      have hh : txHead l[k] = [.int .u32 l[k].ep, .int .u32 l[k].n, .int .i8 l[k].srv, .int .u32 l[k].boot, .int .i64 l[k].num] := rfl
      rw [hh] at hax hay
      have HR : Hid (SeesRq wr [.int .i8 qx0, .string qx1, .slice dx0 dx1 dx2, .slice ax0 ax1 ax2, .int .i32 qx4, .bool qx5, .bool qx6, .int .i64 qx7, .int .i32 qx8, .slice ex0 ex1 ex2, .slice ox0 ox1 ox2] l[k].rq ∧ SeesRq wr [.int .i8 qy0, .string qy1, .slice dy0 dy1 dy2, .slice ay0 ay1 ay2, .int .i32 qy4, .bool qy5, .bool qy6, .int .i64 qy7, .int .i32 qy8, .slice ey0 ey1 ey2, .slice oy0 oy1 oy2] l[k].rq) := ⟨hrx, hry⟩
      clear hh hrx hry HS
      generalize l[k] = t at *
      have HKx : Hid (∀ W' : World, Below wr.heap.size wr W' → W'.cell? ⟨bx, ofx + k * 16, none⟩ = some (.int .u32 t.ep) ∧ W'.cell? ⟨bx, ofx + k * 16 + 1, none⟩ = some (.int .u32 t.n) ∧ W'.cell? ⟨bx, ofx + k * 16 + 2, none⟩ = some (.int .i8 t.srv) ∧ W'.cell? ⟨bx, ofx + k * 16 + 3, none⟩ = some (.int .u32 t.boot) ∧ W'.cell? ⟨bx, ofx + k * 16 + 4, none⟩ = some (.int .i64 t.num) ∧ W'.cell? ⟨bx, ofx + k * 16 + 5, none⟩ = some (.int .i8 qx0) ∧ W'.cell? ⟨bx, ofx + k * 16 + 6, none⟩ = some (.string qx1) ∧ W'.cell? ⟨bx, ofx + k * 16 + 7, none⟩ = some (.slice dx0 dx1 dx2) ∧ W'.cell? ⟨bx, ofx + k * 16 + 8, none⟩ = some (.slice ax0 ax1 ax2) ∧ W'.cell? ⟨bx, ofx + k * 16 + 9, none⟩ = some (.int .i32 qx4) ∧ W'.cell? ⟨bx, ofx + k * 16 + 10, none⟩ = some (.bool qx5) ∧ W'.cell? ⟨bx, ofx + k * 16 + 11, none⟩ = some (.bool qx6) ∧ W'.cell? ⟨bx, ofx + k * 16 + 12, none⟩ = some (.int .i64 qx7) ∧ W'.cell? ⟨bx, ofx + k * 16 + 13, none⟩ = some (.int .i32 qx8) ∧ W'.cell? ⟨bx, ofx + k * 16 + 14, none⟩ = some (.slice ex0 ex1 ex2) ∧ W'.cell? ⟨bx, ofx + k * 16 + 15, none⟩ = some (.slice ox0 ox1 ox2)) := fun W' hW => ⟨cell_later (hax 0 (by omega)) hW (Nat.le_refl _), cell_later (hax 1 (by omega)) hW (Nat.le_refl _), cell_later (hax 2 (by omega)) hW (Nat.le_refl _), cell_later (hax 3 (by omega)) hW (Nat.le_refl _), cell_later (hax 4 (by omega)) hW (Nat.le_refl _), cell_later (hax 5 (by omega)) hW (Nat.le_refl _), cell_later (hax 6 (by omega)) hW (Nat.le_refl _), cell_later (hax 7 (by omega)) hW (Nat.le_refl _), cell_later (hax 8 (by omega)) hW (Nat.le_refl _), cell_later (hax 9 (by omega)) hW (Nat.le_refl _), cell_later (hax 10 (by omega)) hW (Nat.le_refl _), cell_later (hax 11 (by omega)) hW (Nat.le_refl _), cell_later (hax 12 (by omega)) hW (Nat.le_refl _), cell_later (hax 13 (by omega)) hW (Nat.le_refl _), cell_later (hax 14 (by omega)) hW (Nat.le_refl _), cell_later (hax 15 (by omega)) hW (Nat.le_refl _)⟩
      have HKy : Hid (∀ W' : World, Below wr.heap.size wr W' → W'.cell? ⟨b_y, ofy + k * 16, none⟩ = some (.int .u32 t.ep) ∧ W'.cell? ⟨b_y, ofy + k * 16 + 1, none⟩ = some (.int .u32 t.n) ∧ W'.cell? ⟨b_y, ofy + k * 16 + 2, none⟩ = some (.int .i8 t.srv) ∧ W'.cell? ⟨b_y, ofy + k * 16 + 3, none⟩ = some (.int .u32 t.boot) ∧ W'.cell? ⟨b_y, ofy + k * 16 + 4, none⟩ = some (.int .i64 t.num) ∧ W'.cell? ⟨b_y, ofy + k * 16 + 5, none⟩ = some (.int .i8 qy0) ∧ W'.cell? ⟨b_y, ofy + k * 16 + 6, none⟩ = some (.string qy1) ∧ W'.cell? ⟨b_y, ofy + k * 16 + 7, none⟩ = some (.slice dy0 dy1 dy2) ∧ W'.cell? ⟨b_y, ofy + k * 16 + 8, none⟩ = some (.slice ay0 ay1 ay2) ∧ W'.cell? ⟨b_y, ofy + k * 16 + 9, none⟩ = some (.int .i32 qy4) ∧ W'.cell? ⟨b_y, ofy + k * 16 + 10, none⟩ = some (.bool qy5) ∧ W'.cell? ⟨b_y, ofy + k * 16 + 11, none⟩ = some (.bool qy6) ∧ W'.cell? ⟨b_y, ofy + k * 16 + 12, none⟩ = some (.int .i64 qy7) ∧ W'.cell? ⟨b_y, ofy + k * 16 + 13, none⟩ = some (.int .i32 qy8) ∧ W'.cell? ⟨b_y, ofy + k * 16 + 14, none⟩ = some (.slice ey0 ey1 ey2) ∧ W'.cell? ⟨b_y, ofy + k * 16 + 15, none⟩ = some (.slice oy0 oy1 oy2)) := fun W' hW => ⟨cell_later (hay 0 (by omega)) hW (Nat.le_refl _), cell_later (hay 1 (by omega)) hW (Nat.le_refl _), cell_later (hay 2 (by omega)) hW (Nat.le_refl _), cell_later (hay 3 (by omega)) hW (Nat.le_refl _), cell_later (hay 4 (by omega)) hW (Nat.le_refl _), cell_later (hay 5 (by omega)) hW (Nat.le_refl _), cell_later (hay 6 (by omega)) hW (Nat.le_refl _), cell_later (hay 7 (by omega)) hW (Nat.le_refl _), cell_later (hay 8 (by omega)) hW (Nat.le_refl _), cell_later (hay 9 (by omega)) hW (Nat.le_refl _), cell_later (hay 10 (by omega)) hW (Nat.le_refl _), cell_later (hay 11 (by omega)) hW (Nat.le_refl _), cell_later (hay 12 (by omega)) hW (Nat.le_refl _), cell_later (hay 13 (by omega)) hW (Nat.le_refl _), cell_later (hay 14 (by omega)) hW (Nat.le_refl _), cell_later (hay 15 (by omega)) hW (Nat.le_refl _)⟩
      clear hax hay
      have hwd : Below wr.heap.size wr wr.drew := below_drewN (Below.refl _ _) 1
      have HX := eqTxn_same ([.int .u32 t.ep, .int .u32 t.n, .int .i8 t.srv, .int .u32 t.boot, .int .i64 t.num, .int .i8 qx0, .string qx1, .slice dx0 dx1 dx2, .slice ax0 ax1 ax2, .int .i32 qx4, .bool qx5, .bool qx6, .int .i64 qx7, .int .i32 qx8, .slice ex0 ex1 ex2, .slice ox0 ox1 ox2]) ([.int .u32 t.ep, .int .u32 t.n, .int .i8 t.srv, .int .u32 t.boot, .int .i64 t.num, .int .i8 qy0, .string qy1, .slice dy0 dy1 dy2, .slice ay0 ay1 ay2, .int .i32 qy4, .bool qy5, .bool qy6, .int .i64 qy7, .int .i32 qy8, .slice ey0 ey1 ey2, .slice oy0 oy1 oy2]) t wr.drew ⟨_, rfl, HR.out.1.later hwd (Nat.le_refl _)⟩ ⟨_, rfl, HR.out.2.later hwd (Nat.le_refl _)⟩
      have HWD : Hid _ := hwd
      clear hwd
      have i0 : (0 : Int) ≤ (k : Int) := by omega
      have i1 : (k : Int) < (l.length : Int) := by omega
      go_wp2
      refine wp_region_held_drew (S := fun W' => Below wr.heap.size wr W') (by kernel_rfl) ?_ (fun hHeld => ?_)
      · exact below_drewN (Below.refl _ _) 1
      refine wpAnyH_take (i := 0) (oi := { dst := some 17, op := Op.move (Operand.tmp 0), type := 22, pos := "equal.go:97", after := #[], guard := none }) (v := ?_) rfl (by kernel_rfl) (by kernel_rfl) (by kernel_rfl) (fun _ _ _ h => h) (Or.inl ⟨by rfl, ?_⟩) (by assumption) ?_
      rotate_left
      · (intro w hSw; (try dsimp only at hSw); go_simp) <;> with_reducible rfl
      try simp only [Act.put, List.setIfInBounds_toArray, List.set_cons_zero, List.set_cons_succ]
      refine wpAnyH_take (i := 1) (oi := { dst := some 18, op := Op.move (Operand.tmp 5), type := 3, pos := "equal.go:97", after := #[], guard := none }) (v := ?_) rfl (by kernel_rfl) (by kernel_rfl) (by kernel_rfl) (fun _ _ _ h => h) (Or.inl ⟨by rfl, ?_⟩) (by assumption) ?_
      rotate_left
      · (intro w hSw; (try dsimp only at hSw); go_simp) <;> with_reducible rfl
      try simp only [Act.put, List.setIfInBounds_toArray, List.set_cons_zero, List.set_cons_succ]
      refine wpAnyH_take (i := 2) (oi := { dst := some 19, op := Op.indexAddr 22 (Operand.tmp 17) (Operand.tmp 18), type := 0, pos := "equal.go:97", after := #[{ on := 0, ground := Ground.data }, { on := 1, ground := Ground.data }], guard := none }) (v := ?_) rfl (by kernel_rfl) (by kernel_rfl) (by kernel_rfl) (fun _ _ _ h => h) (Or.inl ⟨by rfl, ?_⟩) (by assumption) ?_
      rotate_left
      · (intro w hSw; (try dsimp only at hSw); go_simp) <;> with_reducible rfl
      try simp only [Act.put, List.setIfInBounds_toArray, List.set_cons_zero, List.set_cons_succ]
      refine wpAnyH_take (i := 3) (oi := { dst := some 20, op := Op.load 49 (Operand.tmp 19), type := 49, pos := "equal.go:97", after := #[{ on := 2, ground := Ground.data }], guard := none }) (v := ?_) rfl (by kernel_rfl) (by kernel_rfl) (by kernel_rfl) (fun _ _ _ h => h) (Or.inl ⟨by rfl, ?_⟩) (by assumption) ?_
      rotate_left
      · (intro V hV; (try dsimp only at hV); obtain ⟨g0, g1, g2, g3, g4, g5, g6, g7, g8, g9, g10, g11, g12, g13, g14, g15⟩ := HKx.out V hV; clear hV; go_simp) <;> with_reducible rfl
      try simp only [Act.put, List.setIfInBounds_toArray, List.set_cons_zero, List.set_cons_succ]
      refine wpAnyH_take (i := 4) (oi := { dst := some 21, op := Op.move (Operand.tmp 1), type := 22, pos := "equal.go:97", after := #[], guard := none }) (v := ?_) rfl (by kernel_rfl) (by kernel_rfl) (by kernel_rfl) (fun _ _ _ h => h) (Or.inl ⟨by rfl, ?_⟩) (by assumption) ?_
      rotate_left
      · (intro w hSw; (try dsimp only at hSw); go_simp) <;> with_reducible rfl
      try simp only [Act.put, List.setIfInBounds_toArray, List.set_cons_zero, List.set_cons_succ]
      refine wpAnyH_take (i := 5) (oi := { dst := some 22, op := Op.move (Operand.tmp 5), type := 3, pos := "equal.go:97", after := #[], guard := none }) (v := ?_) rfl (by kernel_rfl) (by kernel_rfl) (by kernel_rfl) (fun _ _ _ h => h) (Or.inl ⟨by rfl, ?_⟩) (by assumption) ?_
      rotate_left
      · (intro w hSw; (try dsimp only at hSw); go_simp) <;> with_reducible rfl
      try simp only [Act.put, List.setIfInBounds_toArray, List.set_cons_zero, List.set_cons_succ]
      refine wpAnyH_take (i := 6) (oi := { dst := some 23, op := Op.indexAddr 22 (Operand.tmp 21) (Operand.tmp 22), type := 0, pos := "equal.go:97", after := #[{ on := 4, ground := Ground.data }, { on := 5, ground := Ground.data }], guard := none }) (v := ?_) rfl (by kernel_rfl) (by kernel_rfl) (by kernel_rfl) (fun _ _ _ h => h) (Or.inl ⟨by rfl, ?_⟩) (by assumption) ?_
      rotate_left
      · (intro w hSw; (try dsimp only at hSw); go_simp) <;> with_reducible rfl
      try simp only [Act.put, List.setIfInBounds_toArray, List.set_cons_zero, List.set_cons_succ]
      refine wpAnyH_take (i := 7) (oi := { dst := some 24, op := Op.load 49 (Operand.tmp 23), type := 49, pos := "equal.go:97", after := #[{ on := 6, ground := Ground.data }], guard := none }) (v := ?_) rfl (by kernel_rfl) (by kernel_rfl) (by kernel_rfl) (fun _ _ _ h => h) (Or.inl ⟨by rfl, ?_⟩) (by assumption) ?_
      rotate_left
      · (intro V hV; (try dsimp only at hV); obtain ⟨g0, g1, g2, g3, g4, g5, g6, g7, g8, g9, g10, g11, g12, g13, g14, g15⟩ := HKy.out V hV; clear hV; go_simp) <;> with_reducible rfl
      try simp only [Act.put, List.setIfInBounds_toArray, List.set_cons_zero, List.set_cons_succ]
      refine wpAnyH_ready (rs := [8]) (by kernel_rfl) (by simp) ?_
      refine AllReadyH.cons (o := { dst := some 25, op := Op.call { callee := Callee.value (Operand.func 24), args := #[Operand.tmp 20, Operand.tmp 24], argTypes := #[49, 49] }, type := 4, pos := "equal.go:97", after := #[{ on := 3, ground := Ground.data }, { on := 7, ground := Ground.data }], guard := none }) rfl (fun K hK => ?_) AllReadyH.nil
      go_simp
      refine HX.mono ?_
      rintro e wc ⟨rfl, hb⟩
      have HB2 : Hid (Below wr.heap.size wr wc) := HWD.out.trans (hb.mono HWD.out.size)
      clear hHeld hb
      refine hK.out _ _ HB2.out (fun hHeld => ?_)
      clear hK K
      refine wpAnyH_take (i := 9) (oi := { dst := some 26, op := Op.unOp UnOp.not 4 (Operand.tmp 25), type := 4, pos := "equal.go:97", after := #[{ on := 8, ground := Ground.data }], guard := none }) (v := ?_) rfl (by kernel_rfl) (by kernel_rfl) (by kernel_rfl) (fun _ _ _ h => h) (Or.inl ⟨by rfl, ?_⟩) (by assumption) ?_
      rotate_left
      · (intro w hSw; (try dsimp only at hSw); go_simp) <;> with_reducible rfl
      try simp only [Act.put, List.setIfInBounds_toArray, List.set_cons_zero, List.set_cons_succ]
      refine wpAnyH_done (by kernel_rfl) ?_ _
      have HB3 : Hid (Below w.heap.size w wc) := HB.out.trans (HB2.out.mono HB.out.size)
      clear HKx HKy HB2 hHeld HR HB
      go_wp2
      go_roundw
      case rel => exact ⟨k + 1, by omega, by go_num, HB3⟩
      case measure => simp [intOf]; omega
    · go_wp2_with fail
      go_ret
      exact ⟨rfl, HB.out⟩
end Go.Proofs.YtljghfglabgckaaDoor
