/- WideTxn of lagoonref00: a transaction of its own, each list with marks behind it. -/
import Derived.Test.YtoeialngbbfoeaaGreatDoorWdFJ
import Derived.Test.YtoeialngbbfoeaaGreatDoorCopyXJ
namespace Go.Proofs.YtoeialngbbfoeaaGreatDoor
open Go.RowKit Go.Shelf
set_option maxRecDepth 8000

set_option maxHeartbeats 4000000 in
theorem wideTxn_any (cs : List Value) (t : TxD) (w : World) (h : SeesTx w cs t) (hp : t.rq.parts ≤ 20000) (ht : Tab w) (hg0 : 1 < w.heap.size) :
    Calls Tryz.prog 6 #[.agg cs.toArray] w fun e w' => ∃ ds, e = .returned (.agg (txHead t ++ ds).toArray) ∧ WidQ w' (fun k => w.heap.size ≤ k ∧ k < w'.heap.size) ds t.rq ∧ Below w.heap.size w w' := by
  obtain ⟨rc, rfl, hr⟩ := h
  obtain ⟨ep, tn, srv, boot, num, rq⟩ := t
  simp only at hr hp
  have HX : Hid (∀ W : World, Below w.heap.size w W → Calls Tryz.prog 18 #[.agg rc.toArray] W fun e w' => ∃ ds, e = .returned (.agg ds.toArray) ∧ WidQ w' (fun k => W.heap.size ≤ k ∧ k < w'.heap.size) ds rq ∧ Below W.heap.size W w') := fun W hW =>
    wideRequest_any rq rc W (hr.later hW (Nat.le_refl _)) hp (ht.below hW hg0) (Nat.lt_of_lt_of_le hg0 hW.size)
  obtain ⟨qx0, qx1, dx0, dx1, dx2, ax0, ax1, ax2, qx4, qx5, qx6, qx7, qx8, ex0, ex1, ex2, ox0, ox1, ox2, rfl⟩ := rq_forms hr
  clear hr ht hg0
  simp only [txHead, List.cons_append, List.nil_append]
  obtain ⟨V, eV⟩ : ∃ V, V = (w.alloc (.cells #[.int .u32 ep, .int .u32 tn, .int .i8 srv, .int .u32 boot, .int .i64 num, .int .i8 qx0, .string qx1, .slice dx0 dx1 dx2, .slice ax0 ax1 ax2, .int .i32 qx4, .bool qx5, .bool qx6, .int .i64 qx7, .int .i32 qx8, .slice ex0 ex1 ex2, .slice ox0 ox1 ox2] 35)).alloc (.cells #[.int .u32 0, .int .u32 0, .int .i8 0, .int .u32 0, .int .i64 0, .int .i8 0, .string ⟨#[]⟩, .slice none 0 0, .slice none 0 0, .int .i32 0, .bool false, .bool false, .int .i64 0, .int .i32 0, .slice none 0 0, .slice none 0 0] 35) := ⟨_, rfl⟩
  have HV : Hid (Below w.heap.size w V ∧ V.heap.size = w.heap.size + 2 ∧ V.heap[w.heap.size]? = some (.cells #[.int .u32 ep, .int .u32 tn, .int .i8 srv, .int .u32 boot, .int .i64 num, .int .i8 qx0, .string qx1, .slice dx0 dx1 dx2, .slice ax0 ax1 ax2, .int .i32 qx4, .bool qx5, .bool qx6, .int .i64 qx7, .int .i32 qx8, .slice ex0 ex1 ex2, .slice ox0 ox1 ox2] 35 (0, 0)) ∧ V.heap[w.heap.size + 1]? = some (.cells #[.int .u32 0, .int .u32 0, .int .i8 0, .int .u32 0, .int .i64 0, .int .i8 0, .string ⟨#[]⟩, .slice none 0 0, .slice none 0 0, .int .i32 0, .bool false, .bool false, .int .i64 0, .int .i32 0, .slice none 0 0, .slice none 0 0] 35 (0, 0))) := by
    subst eV
    refine ⟨two_alloc _ _ _, by simp, ?_, ?_⟩
    · rw [Below.heap_alloc _ _ _ (by simp)]; exact heap_alloc_new _ _
    · have := heap_alloc_new (w.alloc (.cells #[.int .u32 ep, .int .u32 tn, .int .i8 srv, .int .u32 boot, .int .i64 num, .int .i8 qx0, .string qx1, .slice dx0 dx1 dx2, .slice ax0 ax1 ax2, .int .i32 qx4, .bool qx5, .bool qx6, .int .i64 qx7, .int .i32 qx8, .slice ex0 ex1 ex2, .slice ox0 ox1 ox2] 35)) (.cells #[.int .u32 0, .int .u32 0, .int .i8 0, .int .u32 0, .int .i64 0, .int .i8 0, .string ⟨#[]⟩, .slice none 0 0, .slice none 0 0, .int .i32 0, .bool false, .bool false, .int .i64 0, .int .i32 0, .slice none 0 0, .slice none 0 0] 35 (0, 0))
      simpa using this
  have HE : Hid _ := eV
  clear eV
  go_enter Tryz.func6, Tryz.ntmps6
  go_wp2_with fail
  rw [← HE.out]
  refine (HX.out _ HV.out.1).mono ?_
  rintro e w1 ⟨ds, rfl, hr1, b1⟩
  obtain ⟨qy0, qy1, dy0, dy1, dy2, ay0, ay1, ay2, qy4, qy5, qy6, qy7, qy8, ey0, ey1, ey2, oy0, oy1, oy2, rfl⟩ := rq_forms (hr1.sees hp)
  have hN := (Below.kept b1).heap HV.out.2.2.1 (by have := HV.out.2.1; omega)
  have hO := (Below.kept b1).heap HV.out.2.2.2 (by have := HV.out.2.1; omega)
  have f5 : w1.frozen? ⟨w.heap.size, 5, none⟩ = false := frozen_of_row _ _ _ _ _ hN
  have f6 : w1.frozen? ⟨w.heap.size, 6, none⟩ = false := frozen_of_row _ _ _ _ _ hN
  have f7 : w1.frozen? ⟨w.heap.size, 7, none⟩ = false := frozen_of_row _ _ _ _ _ hN
  have f8 : w1.frozen? ⟨w.heap.size, 8, none⟩ = false := frozen_of_row _ _ _ _ _ hN
  have f9 : w1.frozen? ⟨w.heap.size, 9, none⟩ = false := frozen_of_row _ _ _ _ _ hN
  have f10 : w1.frozen? ⟨w.heap.size, 10, none⟩ = false := frozen_of_row _ _ _ _ _ hN
  have f11 : w1.frozen? ⟨w.heap.size, 11, none⟩ = false := frozen_of_row _ _ _ _ _ hN
  have f12 : w1.frozen? ⟨w.heap.size, 12, none⟩ = false := frozen_of_row _ _ _ _ _ hN
  have f13 : w1.frozen? ⟨w.heap.size, 13, none⟩ = false := frozen_of_row _ _ _ _ _ hN
  have f14 : w1.frozen? ⟨w.heap.size, 14, none⟩ = false := frozen_of_row _ _ _ _ _ hN
  have f15 : w1.frozen? ⟨w.heap.size, 15, none⟩ = false := frozen_of_row _ _ _ _ _ hN
  have c0 : w1.cell? ⟨w.heap.size, 0, none⟩ = some (.int .u32 ep) := by rw [cell_of_row _ _ _ _ _ _ hN]; rfl
  have c1 : w1.cell? ⟨w.heap.size, 1, none⟩ = some (.int .u32 tn) := by rw [cell_of_row _ _ _ _ _ _ hN]; rfl
  have c2 : w1.cell? ⟨w.heap.size, 2, none⟩ = some (.int .i8 srv) := by rw [cell_of_row _ _ _ _ _ _ hN]; rfl
  have c3 : w1.cell? ⟨w.heap.size, 3, none⟩ = some (.int .u32 boot) := by rw [cell_of_row _ _ _ _ _ _ hN]; rfl
  have c4 : w1.cell? ⟨w.heap.size, 4, none⟩ = some (.int .i64 num) := by rw [cell_of_row _ _ _ _ _ _ hN]; rfl
  have c5 : w1.cell? ⟨w.heap.size, 5, none⟩ = some (.int .i8 qx0) := by rw [cell_of_row _ _ _ _ _ _ hN]; rfl
  have c6 : w1.cell? ⟨w.heap.size, 6, none⟩ = some (.string qx1) := by rw [cell_of_row _ _ _ _ _ _ hN]; rfl
  have c7 : w1.cell? ⟨w.heap.size, 7, none⟩ = some (.slice dx0 dx1 dx2) := by rw [cell_of_row _ _ _ _ _ _ hN]; rfl
  have c8 : w1.cell? ⟨w.heap.size, 8, none⟩ = some (.slice ax0 ax1 ax2) := by rw [cell_of_row _ _ _ _ _ _ hN]; rfl
  have c9 : w1.cell? ⟨w.heap.size, 9, none⟩ = some (.int .i32 qx4) := by rw [cell_of_row _ _ _ _ _ _ hN]; rfl
  have c10 : w1.cell? ⟨w.heap.size, 10, none⟩ = some (.bool qx5) := by rw [cell_of_row _ _ _ _ _ _ hN]; rfl
  have c11 : w1.cell? ⟨w.heap.size, 11, none⟩ = some (.bool qx6) := by rw [cell_of_row _ _ _ _ _ _ hN]; rfl
  have c12 : w1.cell? ⟨w.heap.size, 12, none⟩ = some (.int .i64 qx7) := by rw [cell_of_row _ _ _ _ _ _ hN]; rfl
  have c13 : w1.cell? ⟨w.heap.size, 13, none⟩ = some (.int .i32 qx8) := by rw [cell_of_row _ _ _ _ _ _ hN]; rfl
  have c14 : w1.cell? ⟨w.heap.size, 14, none⟩ = some (.slice ex0 ex1 ex2) := by rw [cell_of_row _ _ _ _ _ _ hN]; rfl
  have c15 : w1.cell? ⟨w.heap.size, 15, none⟩ = some (.slice ox0 ox1 ox2) := by rw [cell_of_row _ _ _ _ _ _ hN]; rfl
  have o0 : w1.cell? ⟨w.heap.size + 1, 0, none⟩ = some (.int .u32 0) := by rw [cell_of_row _ _ _ _ _ _ hO]; rfl
  have o1 : w1.cell? ⟨w.heap.size + 1, 1, none⟩ = some (.int .u32 0) := by rw [cell_of_row _ _ _ _ _ _ hO]; rfl
  have o2 : w1.cell? ⟨w.heap.size + 1, 2, none⟩ = some (.int .i8 0) := by rw [cell_of_row _ _ _ _ _ _ hO]; rfl
  have o3 : w1.cell? ⟨w.heap.size + 1, 3, none⟩ = some (.int .u32 0) := by rw [cell_of_row _ _ _ _ _ _ hO]; rfl
  have o4 : w1.cell? ⟨w.heap.size + 1, 4, none⟩ = some (.int .i64 0) := by rw [cell_of_row _ _ _ _ _ _ hO]; rfl
  have o5 : w1.cell? ⟨w.heap.size + 1, 5, none⟩ = some (.int .i8 0) := by rw [cell_of_row _ _ _ _ _ _ hO]; rfl
  have o6 : w1.cell? ⟨w.heap.size + 1, 6, none⟩ = some (.string ⟨#[]⟩) := by rw [cell_of_row _ _ _ _ _ _ hO]; rfl
  have o7 : w1.cell? ⟨w.heap.size + 1, 7, none⟩ = some (.slice none 0 0) := by rw [cell_of_row _ _ _ _ _ _ hO]; rfl
  have o8 : w1.cell? ⟨w.heap.size + 1, 8, none⟩ = some (.slice none 0 0) := by rw [cell_of_row _ _ _ _ _ _ hO]; rfl
  have o9 : w1.cell? ⟨w.heap.size + 1, 9, none⟩ = some (.int .i32 0) := by rw [cell_of_row _ _ _ _ _ _ hO]; rfl
  have o10 : w1.cell? ⟨w.heap.size + 1, 10, none⟩ = some (.bool false) := by rw [cell_of_row _ _ _ _ _ _ hO]; rfl
  have o11 : w1.cell? ⟨w.heap.size + 1, 11, none⟩ = some (.bool false) := by rw [cell_of_row _ _ _ _ _ _ hO]; rfl
  have o12 : w1.cell? ⟨w.heap.size + 1, 12, none⟩ = some (.int .i64 0) := by rw [cell_of_row _ _ _ _ _ _ hO]; rfl
  have o13 : w1.cell? ⟨w.heap.size + 1, 13, none⟩ = some (.int .i32 0) := by rw [cell_of_row _ _ _ _ _ _ hO]; rfl
  have o14 : w1.cell? ⟨w.heap.size + 1, 14, none⟩ = some (.slice none 0 0) := by rw [cell_of_row _ _ _ _ _ _ hO]; rfl
  have o15 : w1.cell? ⟨w.heap.size + 1, 15, none⟩ = some (.slice none 0 0) := by rw [cell_of_row _ _ _ _ _ _ hO]; rfl
  have p0 : w1.frozen? ⟨w.heap.size + 1, 0, none⟩ = false := frozen_of_row _ _ _ _ _ hO
  have p1 : w1.frozen? ⟨w.heap.size + 1, 1, none⟩ = false := frozen_of_row _ _ _ _ _ hO
  have p2 : w1.frozen? ⟨w.heap.size + 1, 2, none⟩ = false := frozen_of_row _ _ _ _ _ hO
  have p3 : w1.frozen? ⟨w.heap.size + 1, 3, none⟩ = false := frozen_of_row _ _ _ _ _ hO
  have p4 : w1.frozen? ⟨w.heap.size + 1, 4, none⟩ = false := frozen_of_row _ _ _ _ _ hO
  have p5 : w1.frozen? ⟨w.heap.size + 1, 5, none⟩ = false := frozen_of_row _ _ _ _ _ hO
  have p6 : w1.frozen? ⟨w.heap.size + 1, 6, none⟩ = false := frozen_of_row _ _ _ _ _ hO
  have p7 : w1.frozen? ⟨w.heap.size + 1, 7, none⟩ = false := frozen_of_row _ _ _ _ _ hO
  have p8 : w1.frozen? ⟨w.heap.size + 1, 8, none⟩ = false := frozen_of_row _ _ _ _ _ hO
  have p9 : w1.frozen? ⟨w.heap.size + 1, 9, none⟩ = false := frozen_of_row _ _ _ _ _ hO
  have p10 : w1.frozen? ⟨w.heap.size + 1, 10, none⟩ = false := frozen_of_row _ _ _ _ _ hO
  have p11 : w1.frozen? ⟨w.heap.size + 1, 11, none⟩ = false := frozen_of_row _ _ _ _ _ hO
  have p12 : w1.frozen? ⟨w.heap.size + 1, 12, none⟩ = false := frozen_of_row _ _ _ _ _ hO
  have p13 : w1.frozen? ⟨w.heap.size + 1, 13, none⟩ = false := frozen_of_row _ _ _ _ _ hO
  have p14 : w1.frozen? ⟨w.heap.size + 1, 14, none⟩ = false := frozen_of_row _ _ _ _ _ hO
  have p15 : w1.frozen? ⟨w.heap.size + 1, 15, none⟩ = false := frozen_of_row _ _ _ _ _ hO
  have H1 : Hid (WidQ w1 (fun k => V.heap.size ≤ k ∧ k < w1.heap.size) _ rq ∧ Below w.heap.size w w1 ∧ w1.heap[w.heap.size]? = some (.cells #[.int .u32 ep, .int .u32 tn, .int .i8 srv, .int .u32 boot, .int .i64 num, .int .i8 qx0, .string qx1, .slice dx0 dx1 dx2, .slice ax0 ax1 ax2, .int .i32 qx4, .bool qx5, .bool qx6, .int .i64 qx7, .int .i32 qx8, .slice ex0 ex1 ex2, .slice ox0 ox1 ox2] 35 (0, 0)) ∧ w1.heap[w.heap.size + 1]? = some (.cells #[.int .u32 0, .int .u32 0, .int .i8 0, .int .u32 0, .int .i64 0, .int .i8 0, .string ⟨#[]⟩, .slice none 0 0, .slice none 0 0, .int .i32 0, .bool false, .bool false, .int .i64 0, .int .i32 0, .slice none 0 0, .slice none 0 0] 35 (0, 0)) ∧ V.heap.size = w.heap.size + 2) := ⟨hr1, HV.out.1.trans (b1.mono HV.out.1.size), hN, hO, HV.out.2.1⟩
  clear hr1 b1 hN hO HX HV HE
  go_wp2_with fail
  clear f5 f6 f7 f8 f9 f10 f11 f12 f13 f14 f15 c0 c1 c2 c3 c4 c5 c6 c7 c8 c9 c10 c11 c12 c13 c14 c15 o0 o1 o2 o3 o4 o5 o6 o7 o8 o9 o10 o11 o12 o13 o14 o15 p0 p1 p2 p3 p4 p5 p6 p7 p8 p9 p10 p11 p12 p13 p14 p15
  obtain ⟨hrow1, hk1⟩ := stored5 (.int .i8 qy0) (.string qy1) (.slice dy0 dy1 dy2) (.slice ay0 ay1 ay2) (.int .i32 qy4) (.bool qy5) (.bool qy6) (.int .i64 qy7) (.int .i32 qy8) (.slice ey0 ey1 ey2) (.slice oy0 oy1 oy2) H1.out.2.2.1
  have hO2 := hk1.heap H1.out.2.2.2.1 (by omega)
  obtain ⟨hrow2, hk2⟩ := stored16 (.int .u32 ep) (.int .u32 tn) (.int .i8 srv) (.int .u32 boot) (.int .i64 num) (.int .i8 qy0) (.string qy1) (.slice dy0 dy1 dy2) (.slice ay0 ay1 ay2) (.int .i32 qy4) (.bool qy5) (.bool qy6) (.int .i64 qy7) (.int .i32 qy8) (.slice ey0 ey1 ey2) (.slice oy0 oy1 oy2) hO2
  have hk := (hk1.mono (fun k _ h => show k = w.heap.size ∨ k = w.heap.size + 1 from .inl h)).trans hk2 (fun k _ h => .inr h)
  have hsz := hk.size
  have hld := run_loadVar_row (P := Tryz.prog) _ _ _ 35 _ _ _ hrow2 Tryz.underlying35 rfl tx_size
  refine bodyPost_ret (v := .agg #[.int .u32 ep, .int .u32 tn, .int .i8 srv, .int .u32 boot, .int .i64 num, .int .i8 qy0, .string qy1, .slice dy0 dy1 dy2, .slice ay0 ay1 ay2, .int .i32 qy4, .bool qy5, .bool qy6, .int .i64 qy7, .int .i32 qy8, .slice ey0 ey1 ey2, .slice oy0 oy1 oy2]) ?_ rfl ⟨[.int .i8 qy0, .string qy1, .slice dy0 dy1 dy2, .slice ay0 ay1 ay2, .int .i32 qy4, .bool qy5, .bool qy6, .int .i64 qy7, .int .i32 qy8, .slice ey0 ey1 ey2, .slice oy0 oy1 oy2], rfl, WidQ.kept hk (fun q hq => ⟨fun e => by have := H1.out.2.2.2.2; omega, by have := H1.out.2.2.2.2; omega, Nat.lt_of_lt_of_le hq.2 hsz⟩) H1.out.1, H1.out.2.1.trans (hk.below H1.out.2.1.size (fun q e => by omega))⟩
  rw [resCell1 Tryz.results6]
  show ((asAddr (.pointer (some ⟨w.heap.size + 1, 0, none⟩))).run Tryz.prog _).andThen _ = _
  simp only [asAddr, Sem.run_pure, Result.andThen_ok, hld]
end Go.Proofs.YtoeialngbbfoeaaGreatDoor
