/- txn.sameRequest of any two requests: false where a field differs. -/
import Derived.Test.YtoeialngbbfoeaaGreatDoorBqHJ
import Derived.Test.YtoeialngbbfoeaaGreatDoorWfNJ
namespace Go.Proofs.YtoeialngbbfoeaaGreatDoor
open Go.RowKit
set_option maxRecDepth 8000

theorem two_rowsQ1 (w : World) (A B : Array Value) {t : TypeId} : ((w.alloc (.cells A t)).alloc (.cells B t)).heap[w.heap.size]? = some (.cells A t (0, 0)) := by rw [Below.heap_alloc _ _ _ (by simp)]; exact heap_alloc_new _ _
theorem two_rowsQ2 (w : World) (A B : Array Value) {t : TypeId} : ((w.alloc (.cells A t)).alloc (.cells B t)).heap[w.heap.size + 1]? = some (.cells B t (0, 0)) := by
  have := heap_alloc_new (w.alloc (.cells A t)) (.cells B t)
  simpa using this
theorem laterQ3 {w W W' : World} {A B : Obj} {i j : Nat} (h : Below w.heap.size w W ∧ W.heap[i]? = some A ∧ W.heap[j]? = some B) (hb : Below W.heap.size W W') : Below w.heap.size w W' ∧ W'.heap[i]? = some A ∧ W'.heap[j]? = some B :=
  ⟨h.1.trans (hb.mono h.1.size), (Below.kept hb).heap h.2.1 (by have := lt_of_block h.2.1; omega), (Below.kept hb).heap h.2.2 (by have := lt_of_block h.2.2; omega)⟩

set_option maxHeartbeats 2000000 in
theorem sd_0 (kind kind' : Int) (path path' : ByteArray) (dx0 : Option Addr) (dx1 dx2 : Nat) (dy0 : Option Addr) (dy1 dy2 : Nat) (ax0 : Option Addr) (ax1 ax2 : Nat) (ay0 : Option Addr) (ay1 ay2 : Nat) (ver ver' : Int) (eph eph' : Bool) (seq seq' : Bool) (ses ses' : Int) (tmo tmo' : Int) (wx0 : Option Addr) (wx1 wx2 : Nat) (wy0 : Option Addr) (wy1 wy2 : Nat) (ox0 : Option Addr) (ox1 ox2 : Nat) (oy0 : Option Addr) (oy1 oy2 : Nat) (w : World) (h0 : (kind == kind') = false) :
    Calls Tryz.prog 19 #[.agg #[.int .i8 kind, .string path, .slice dx0 dx1 dx2, .slice ax0 ax1 ax2, .int .i32 ver, .bool eph, .bool seq, .int .i64 ses, .int .i32 tmo, .slice wx0 wx1 wx2, .slice ox0 ox1 ox2], .agg #[.int .i8 kind', .string path', .slice dy0 dy1 dy2, .slice ay0 ay1 ay2, .int .i32 ver', .bool eph', .bool seq', .int .i64 ses', .int .i32 tmo', .slice wy0 wy1 wy2, .slice oy0 oy1 oy2]] w fun e w' => e = .returned (.bool false) ∧ Below w.heap.size w w' := by
  obtain ⟨V, eV⟩ : ∃ V, V = (w.alloc (.cells #[.int .i8 kind, .string path, .slice dx0 dx1 dx2, .slice ax0 ax1 ax2, .int .i32 ver, .bool eph, .bool seq, .int .i64 ses, .int .i32 tmo, .slice wx0 wx1 wx2, .slice ox0 ox1 ox2] 33)).alloc (.cells #[.int .i8 kind', .string path', .slice dy0 dy1 dy2, .slice ay0 ay1 ay2, .int .i32 ver', .bool eph', .bool seq', .int .i64 ses', .int .i32 tmo', .slice wy0 wy1 wy2, .slice oy0 oy1 oy2] 33) := ⟨_, rfl⟩
  have HV : Hid (Below w.heap.size w V ∧ V.heap[w.heap.size]? = some (.cells #[.int .i8 kind, .string path, .slice dx0 dx1 dx2, .slice ax0 ax1 ax2, .int .i32 ver, .bool eph, .bool seq, .int .i64 ses, .int .i32 tmo, .slice wx0 wx1 wx2, .slice ox0 ox1 ox2] 33 (0, 0)) ∧ V.heap[w.heap.size + 1]? = some (.cells #[.int .i8 kind', .string path', .slice dy0 dy1 dy2, .slice ay0 ay1 ay2, .int .i32 ver', .bool eph', .bool seq', .int .i64 ses', .int .i32 tmo', .slice wy0 wy1 wy2, .slice oy0 oy1 oy2] 33 (0, 0))) := by
    subst eV
    exact ⟨two_alloc _ _ _, two_rowsQ1 _ _ _, two_rowsQ2 _ _ _⟩
  have HE : Hid _ := eV
  clear eV
  go_enter Tryz.func19, Tryz.ntmps19
  go_wp2_with fail
  all_goals (go_ret; exact ⟨rfl, two_alloc _ _ _⟩)

set_option maxHeartbeats 2000000 in
theorem sd_1 (kind : Int) (path path' : ByteArray) (dx0 : Option Addr) (dx1 dx2 : Nat) (dy0 : Option Addr) (dy1 dy2 : Nat) (ax0 : Option Addr) (ax1 ax2 : Nat) (ay0 : Option Addr) (ay1 ay2 : Nat) (ver ver' : Int) (eph eph' : Bool) (seq seq' : Bool) (ses ses' : Int) (tmo tmo' : Int) (wx0 : Option Addr) (wx1 wx2 : Nat) (wy0 : Option Addr) (wy1 wy2 : Nat) (ox0 : Option Addr) (ox1 ox2 : Nat) (oy0 : Option Addr) (oy1 oy2 : Nat) (w : World) (h0 : (path.toList == path'.toList) = false) :
    Calls Tryz.prog 19 #[.agg #[.int .i8 kind, .string path, .slice dx0 dx1 dx2, .slice ax0 ax1 ax2, .int .i32 ver, .bool eph, .bool seq, .int .i64 ses, .int .i32 tmo, .slice wx0 wx1 wx2, .slice ox0 ox1 ox2], .agg #[.int .i8 kind, .string path', .slice dy0 dy1 dy2, .slice ay0 ay1 ay2, .int .i32 ver', .bool eph', .bool seq', .int .i64 ses', .int .i32 tmo', .slice wy0 wy1 wy2, .slice oy0 oy1 oy2]] w fun e w' => e = .returned (.bool false) ∧ Below w.heap.size w w' := by
  obtain ⟨V, eV⟩ : ∃ V, V = (w.alloc (.cells #[.int .i8 kind, .string path, .slice dx0 dx1 dx2, .slice ax0 ax1 ax2, .int .i32 ver, .bool eph, .bool seq, .int .i64 ses, .int .i32 tmo, .slice wx0 wx1 wx2, .slice ox0 ox1 ox2] 33)).alloc (.cells #[.int .i8 kind, .string path', .slice dy0 dy1 dy2, .slice ay0 ay1 ay2, .int .i32 ver', .bool eph', .bool seq', .int .i64 ses', .int .i32 tmo', .slice wy0 wy1 wy2, .slice oy0 oy1 oy2] 33) := ⟨_, rfl⟩
  have HV : Hid (Below w.heap.size w V ∧ V.heap[w.heap.size]? = some (.cells #[.int .i8 kind, .string path, .slice dx0 dx1 dx2, .slice ax0 ax1 ax2, .int .i32 ver, .bool eph, .bool seq, .int .i64 ses, .int .i32 tmo, .slice wx0 wx1 wx2, .slice ox0 ox1 ox2] 33 (0, 0)) ∧ V.heap[w.heap.size + 1]? = some (.cells #[.int .i8 kind, .string path', .slice dy0 dy1 dy2, .slice ay0 ay1 ay2, .int .i32 ver', .bool eph', .bool seq', .int .i64 ses', .int .i32 tmo', .slice wy0 wy1 wy2, .slice oy0 oy1 oy2] 33 (0, 0))) := by
    subst eV
    exact ⟨two_alloc _ _ _, two_rowsQ1 _ _ _, two_rowsQ2 _ _ _⟩
  have HE : Hid _ := eV
  clear eV
  go_enter Tryz.func19, Tryz.ntmps19
  go_wp2_with fail
  all_goals (go_ret; exact ⟨rfl, two_alloc _ _ _⟩)

set_option maxHeartbeats 2000000 in
theorem sd_2 (kind : Int) (path : ByteArray) (dx0 : Option Addr) (dx1 dx2 : Nat) (dy0 : Option Addr) (dy1 dy2 : Nat) (ax0 : Option Addr) (ax1 ax2 : Nat) (ay0 : Option Addr) (ay1 ay2 : Nat) (ver ver' : Int) (eph eph' : Bool) (seq seq' : Bool) (ses ses' : Int) (tmo tmo' : Int) (wx0 : Option Addr) (wx1 wx2 : Nat) (wy0 : Option Addr) (wy1 wy2 : Nat) (ox0 : Option Addr) (ox1 ox2 : Nat) (oy0 : Option Addr) (oy1 oy2 : Nat) (w : World) (H2 : ∀ W : World, Below w.heap.size w W → Calls Tryz.prog 70 #[.slice dx0 dx1 dx2, .slice dy0 dy1 dy2] W fun e w' => e = .returned (.bool false) ∧ Below W.heap.size W w') :
    Calls Tryz.prog 19 #[.agg #[.int .i8 kind, .string path, .slice dx0 dx1 dx2, .slice ax0 ax1 ax2, .int .i32 ver, .bool eph, .bool seq, .int .i64 ses, .int .i32 tmo, .slice wx0 wx1 wx2, .slice ox0 ox1 ox2], .agg #[.int .i8 kind, .string path, .slice dy0 dy1 dy2, .slice ay0 ay1 ay2, .int .i32 ver', .bool eph', .bool seq', .int .i64 ses', .int .i32 tmo', .slice wy0 wy1 wy2, .slice oy0 oy1 oy2]] w fun e w' => e = .returned (.bool false) ∧ Below w.heap.size w w' := by
  have K2 : Hid _ := H2
  clear H2
  obtain ⟨V, eV⟩ : ∃ V, V = (w.alloc (.cells #[.int .i8 kind, .string path, .slice dx0 dx1 dx2, .slice ax0 ax1 ax2, .int .i32 ver, .bool eph, .bool seq, .int .i64 ses, .int .i32 tmo, .slice wx0 wx1 wx2, .slice ox0 ox1 ox2] 33)).alloc (.cells #[.int .i8 kind, .string path, .slice dy0 dy1 dy2, .slice ay0 ay1 ay2, .int .i32 ver', .bool eph', .bool seq', .int .i64 ses', .int .i32 tmo', .slice wy0 wy1 wy2, .slice oy0 oy1 oy2] 33) := ⟨_, rfl⟩
  have HV : Hid (Below w.heap.size w V ∧ V.heap[w.heap.size]? = some (.cells #[.int .i8 kind, .string path, .slice dx0 dx1 dx2, .slice ax0 ax1 ax2, .int .i32 ver, .bool eph, .bool seq, .int .i64 ses, .int .i32 tmo, .slice wx0 wx1 wx2, .slice ox0 ox1 ox2] 33 (0, 0)) ∧ V.heap[w.heap.size + 1]? = some (.cells #[.int .i8 kind, .string path, .slice dy0 dy1 dy2, .slice ay0 ay1 ay2, .int .i32 ver', .bool eph', .bool seq', .int .i64 ses', .int .i32 tmo', .slice wy0 wy1 wy2, .slice oy0 oy1 oy2] 33 (0, 0))) := by
    subst eV
    exact ⟨two_alloc _ _ _, two_rowsQ1 _ _ _, two_rowsQ2 _ _ _⟩
  have HE : Hid _ := eV
  clear eV
  go_enter Tryz.func19, Tryz.ntmps19
  go_wp2_with fail
  rw [← HE.out]
  clear HE
  refine (K2.out _ HV.out.1).mono ?_
  rintro _ w2 ⟨rfl, b2⟩
  have HV2 : Hid (Below w.heap.size w w2 ∧ w2.heap[w.heap.size]? = some (.cells #[.int .i8 kind, .string path, .slice dx0 dx1 dx2, .slice ax0 ax1 ax2, .int .i32 ver, .bool eph, .bool seq, .int .i64 ses, .int .i32 tmo, .slice wx0 wx1 wx2, .slice ox0 ox1 ox2] 33 (0, 0)) ∧ w2.heap[w.heap.size + 1]? = some (.cells #[.int .i8 kind, .string path, .slice dy0 dy1 dy2, .slice ay0 ay1 ay2, .int .i32 ver', .bool eph', .bool seq', .int .i64 ses', .int .i32 tmo', .slice wy0 wy1 wy2, .slice oy0 oy1 oy2] 33 (0, 0))) := laterQ3 HV.out b2
  clear b2 HV
  go_wp2_with fail
  all_goals (go_ret; exact ⟨rfl, HV2.out.1⟩)

set_option maxHeartbeats 2000000 in
theorem sd_3 (kind : Int) (path : ByteArray) (dx0 : Option Addr) (dx1 dx2 : Nat) (dy0 : Option Addr) (dy1 dy2 : Nat) (ax0 : Option Addr) (ax1 ax2 : Nat) (ay0 : Option Addr) (ay1 ay2 : Nat) (ver ver' : Int) (eph eph' : Bool) (seq seq' : Bool) (ses ses' : Int) (tmo tmo' : Int) (wx0 : Option Addr) (wx1 wx2 : Nat) (wy0 : Option Addr) (wy1 wy2 : Nat) (ox0 : Option Addr) (ox1 ox2 : Nat) (oy0 : Option Addr) (oy1 oy2 : Nat) (w : World) (H2 : ∀ W : World, Below w.heap.size w W → Calls Tryz.prog 70 #[.slice dx0 dx1 dx2, .slice dy0 dy1 dy2] W fun e w' => e = .returned (.bool true) ∧ Below W.heap.size W w') (H3 : ∀ W : World, Below w.heap.size w W → Calls Tryz.prog 71 #[.slice ax0 ax1 ax2, .slice ay0 ay1 ay2] W fun e w' => e = .returned (.bool false) ∧ Below W.heap.size W w') :
    Calls Tryz.prog 19 #[.agg #[.int .i8 kind, .string path, .slice dx0 dx1 dx2, .slice ax0 ax1 ax2, .int .i32 ver, .bool eph, .bool seq, .int .i64 ses, .int .i32 tmo, .slice wx0 wx1 wx2, .slice ox0 ox1 ox2], .agg #[.int .i8 kind, .string path, .slice dy0 dy1 dy2, .slice ay0 ay1 ay2, .int .i32 ver', .bool eph', .bool seq', .int .i64 ses', .int .i32 tmo', .slice wy0 wy1 wy2, .slice oy0 oy1 oy2]] w fun e w' => e = .returned (.bool false) ∧ Below w.heap.size w w' := by
  have K2 : Hid _ := H2
  have K3 : Hid _ := H3
  clear H2 H3
  obtain ⟨V, eV⟩ : ∃ V, V = (w.alloc (.cells #[.int .i8 kind, .string path, .slice dx0 dx1 dx2, .slice ax0 ax1 ax2, .int .i32 ver, .bool eph, .bool seq, .int .i64 ses, .int .i32 tmo, .slice wx0 wx1 wx2, .slice ox0 ox1 ox2] 33)).alloc (.cells #[.int .i8 kind, .string path, .slice dy0 dy1 dy2, .slice ay0 ay1 ay2, .int .i32 ver', .bool eph', .bool seq', .int .i64 ses', .int .i32 tmo', .slice wy0 wy1 wy2, .slice oy0 oy1 oy2] 33) := ⟨_, rfl⟩
  have HV : Hid (Below w.heap.size w V ∧ V.heap[w.heap.size]? = some (.cells #[.int .i8 kind, .string path, .slice dx0 dx1 dx2, .slice ax0 ax1 ax2, .int .i32 ver, .bool eph, .bool seq, .int .i64 ses, .int .i32 tmo, .slice wx0 wx1 wx2, .slice ox0 ox1 ox2] 33 (0, 0)) ∧ V.heap[w.heap.size + 1]? = some (.cells #[.int .i8 kind, .string path, .slice dy0 dy1 dy2, .slice ay0 ay1 ay2, .int .i32 ver', .bool eph', .bool seq', .int .i64 ses', .int .i32 tmo', .slice wy0 wy1 wy2, .slice oy0 oy1 oy2] 33 (0, 0))) := by
    subst eV
    exact ⟨two_alloc _ _ _, two_rowsQ1 _ _ _, two_rowsQ2 _ _ _⟩
  have HE : Hid _ := eV
  clear eV
  go_enter Tryz.func19, Tryz.ntmps19
  go_wp2_with fail
  rw [← HE.out]
  clear HE
  refine (K2.out _ HV.out.1).mono ?_
  rintro _ w2 ⟨rfl, b2⟩
  have HV2 : Hid (Below w.heap.size w w2 ∧ w2.heap[w.heap.size]? = some (.cells #[.int .i8 kind, .string path, .slice dx0 dx1 dx2, .slice ax0 ax1 ax2, .int .i32 ver, .bool eph, .bool seq, .int .i64 ses, .int .i32 tmo, .slice wx0 wx1 wx2, .slice ox0 ox1 ox2] 33 (0, 0)) ∧ w2.heap[w.heap.size + 1]? = some (.cells #[.int .i8 kind, .string path, .slice dy0 dy1 dy2, .slice ay0 ay1 ay2, .int .i32 ver', .bool eph', .bool seq', .int .i64 ses', .int .i32 tmo', .slice wy0 wy1 wy2, .slice oy0 oy1 oy2] 33 (0, 0))) := laterQ3 HV.out b2
  clear b2 HV
  have c3 : w2.cell? ⟨w.heap.size, 3, none⟩ = some (.slice ax0 ax1 ax2) := by rw [cell_of_row _ _ _ _ _ _ HV2.out.2.1]; rfl
  have z3 : w2.cell? ⟨w.heap.size + 1, 3, none⟩ = some (.slice ay0 ay1 ay2) := by rw [cell_of_row _ _ _ _ _ _ HV2.out.2.2]; rfl
  go_wp2_with fail
  refine (K3.out _ HV2.out.1).mono ?_
  rintro _ w3 ⟨rfl, b3⟩
  have HV3 : Hid (Below w.heap.size w w3 ∧ w3.heap[w.heap.size]? = some (.cells #[.int .i8 kind, .string path, .slice dx0 dx1 dx2, .slice ax0 ax1 ax2, .int .i32 ver, .bool eph, .bool seq, .int .i64 ses, .int .i32 tmo, .slice wx0 wx1 wx2, .slice ox0 ox1 ox2] 33 (0, 0)) ∧ w3.heap[w.heap.size + 1]? = some (.cells #[.int .i8 kind, .string path, .slice dy0 dy1 dy2, .slice ay0 ay1 ay2, .int .i32 ver', .bool eph', .bool seq', .int .i64 ses', .int .i32 tmo', .slice wy0 wy1 wy2, .slice oy0 oy1 oy2] 33 (0, 0))) := laterQ3 HV2.out b3
  clear b3 HV2
  clear c3 z3
  go_wp2_with fail
  all_goals (go_ret; exact ⟨rfl, HV3.out.1⟩)

set_option maxHeartbeats 2000000 in
theorem sd_4 (kind : Int) (path : ByteArray) (dx0 : Option Addr) (dx1 dx2 : Nat) (dy0 : Option Addr) (dy1 dy2 : Nat) (ax0 : Option Addr) (ax1 ax2 : Nat) (ay0 : Option Addr) (ay1 ay2 : Nat) (ver ver' : Int) (eph eph' : Bool) (seq seq' : Bool) (ses ses' : Int) (tmo tmo' : Int) (wx0 : Option Addr) (wx1 wx2 : Nat) (wy0 : Option Addr) (wy1 wy2 : Nat) (ox0 : Option Addr) (ox1 ox2 : Nat) (oy0 : Option Addr) (oy1 oy2 : Nat) (w : World) (H2 : ∀ W : World, Below w.heap.size w W → Calls Tryz.prog 70 #[.slice dx0 dx1 dx2, .slice dy0 dy1 dy2] W fun e w' => e = .returned (.bool true) ∧ Below W.heap.size W w') (H3 : ∀ W : World, Below w.heap.size w W → Calls Tryz.prog 71 #[.slice ax0 ax1 ax2, .slice ay0 ay1 ay2] W fun e w' => e = .returned (.bool true) ∧ Below W.heap.size W w') (h0 : (ver == ver') = false) :
    Calls Tryz.prog 19 #[.agg #[.int .i8 kind, .string path, .slice dx0 dx1 dx2, .slice ax0 ax1 ax2, .int .i32 ver, .bool eph, .bool seq, .int .i64 ses, .int .i32 tmo, .slice wx0 wx1 wx2, .slice ox0 ox1 ox2], .agg #[.int .i8 kind, .string path, .slice dy0 dy1 dy2, .slice ay0 ay1 ay2, .int .i32 ver', .bool eph', .bool seq', .int .i64 ses', .int .i32 tmo', .slice wy0 wy1 wy2, .slice oy0 oy1 oy2]] w fun e w' => e = .returned (.bool false) ∧ Below w.heap.size w w' := by
  have K2 : Hid _ := H2
  have K3 : Hid _ := H3
  clear H2 H3
  obtain ⟨V, eV⟩ : ∃ V, V = (w.alloc (.cells #[.int .i8 kind, .string path, .slice dx0 dx1 dx2, .slice ax0 ax1 ax2, .int .i32 ver, .bool eph, .bool seq, .int .i64 ses, .int .i32 tmo, .slice wx0 wx1 wx2, .slice ox0 ox1 ox2] 33)).alloc (.cells #[.int .i8 kind, .string path, .slice dy0 dy1 dy2, .slice ay0 ay1 ay2, .int .i32 ver', .bool eph', .bool seq', .int .i64 ses', .int .i32 tmo', .slice wy0 wy1 wy2, .slice oy0 oy1 oy2] 33) := ⟨_, rfl⟩
  have HV : Hid (Below w.heap.size w V ∧ V.heap[w.heap.size]? = some (.cells #[.int .i8 kind, .string path, .slice dx0 dx1 dx2, .slice ax0 ax1 ax2, .int .i32 ver, .bool eph, .bool seq, .int .i64 ses, .int .i32 tmo, .slice wx0 wx1 wx2, .slice ox0 ox1 ox2] 33 (0, 0)) ∧ V.heap[w.heap.size + 1]? = some (.cells #[.int .i8 kind, .string path, .slice dy0 dy1 dy2, .slice ay0 ay1 ay2, .int .i32 ver', .bool eph', .bool seq', .int .i64 ses', .int .i32 tmo', .slice wy0 wy1 wy2, .slice oy0 oy1 oy2] 33 (0, 0))) := by
    subst eV
    exact ⟨two_alloc _ _ _, two_rowsQ1 _ _ _, two_rowsQ2 _ _ _⟩
  have HE : Hid _ := eV
  clear eV
  go_enter Tryz.func19, Tryz.ntmps19
  go_wp2_with fail
  rw [← HE.out]
  clear HE
  refine (K2.out _ HV.out.1).mono ?_
  rintro _ w2 ⟨rfl, b2⟩
  have HV2 : Hid (Below w.heap.size w w2 ∧ w2.heap[w.heap.size]? = some (.cells #[.int .i8 kind, .string path, .slice dx0 dx1 dx2, .slice ax0 ax1 ax2, .int .i32 ver, .bool eph, .bool seq, .int .i64 ses, .int .i32 tmo, .slice wx0 wx1 wx2, .slice ox0 ox1 ox2] 33 (0, 0)) ∧ w2.heap[w.heap.size + 1]? = some (.cells #[.int .i8 kind, .string path, .slice dy0 dy1 dy2, .slice ay0 ay1 ay2, .int .i32 ver', .bool eph', .bool seq', .int .i64 ses', .int .i32 tmo', .slice wy0 wy1 wy2, .slice oy0 oy1 oy2] 33 (0, 0))) := laterQ3 HV.out b2
  clear b2 HV
  have c3 : w2.cell? ⟨w.heap.size, 3, none⟩ = some (.slice ax0 ax1 ax2) := by rw [cell_of_row _ _ _ _ _ _ HV2.out.2.1]; rfl
  have z3 : w2.cell? ⟨w.heap.size + 1, 3, none⟩ = some (.slice ay0 ay1 ay2) := by rw [cell_of_row _ _ _ _ _ _ HV2.out.2.2]; rfl
  go_wp2_with fail
  refine (K3.out _ HV2.out.1).mono ?_
  rintro _ w3 ⟨rfl, b3⟩
  have HV3 : Hid (Below w.heap.size w w3 ∧ w3.heap[w.heap.size]? = some (.cells #[.int .i8 kind, .string path, .slice dx0 dx1 dx2, .slice ax0 ax1 ax2, .int .i32 ver, .bool eph, .bool seq, .int .i64 ses, .int .i32 tmo, .slice wx0 wx1 wx2, .slice ox0 ox1 ox2] 33 (0, 0)) ∧ w3.heap[w.heap.size + 1]? = some (.cells #[.int .i8 kind, .string path, .slice dy0 dy1 dy2, .slice ay0 ay1 ay2, .int .i32 ver', .bool eph', .bool seq', .int .i64 ses', .int .i32 tmo', .slice wy0 wy1 wy2, .slice oy0 oy1 oy2] 33 (0, 0))) := laterQ3 HV2.out b3
  clear b3 HV2
  clear c3 z3
  have c4 : w3.cell? ⟨w.heap.size, 4, none⟩ = some (.int .i32 ver) := by rw [cell_of_row _ _ _ _ _ _ HV3.out.2.1]; rfl
  have z4 : w3.cell? ⟨w.heap.size + 1, 4, none⟩ = some (.int .i32 ver') := by rw [cell_of_row _ _ _ _ _ _ HV3.out.2.2]; rfl
  go_wp2_with fail
  all_goals (go_ret; exact ⟨rfl, HV3.out.1⟩)

set_option maxHeartbeats 2000000 in
theorem sd_5 (kind : Int) (path : ByteArray) (dx0 : Option Addr) (dx1 dx2 : Nat) (dy0 : Option Addr) (dy1 dy2 : Nat) (ax0 : Option Addr) (ax1 ax2 : Nat) (ay0 : Option Addr) (ay1 ay2 : Nat) (ver : Int) (eph : Bool) (seq seq' : Bool) (ses ses' : Int) (tmo tmo' : Int) (wx0 : Option Addr) (wx1 wx2 : Nat) (wy0 : Option Addr) (wy1 wy2 : Nat) (ox0 : Option Addr) (ox1 ox2 : Nat) (oy0 : Option Addr) (oy1 oy2 : Nat) (w : World) (H2 : ∀ W : World, Below w.heap.size w W → Calls Tryz.prog 70 #[.slice dx0 dx1 dx2, .slice dy0 dy1 dy2] W fun e w' => e = .returned (.bool true) ∧ Below W.heap.size W w') (H3 : ∀ W : World, Below w.heap.size w W → Calls Tryz.prog 71 #[.slice ax0 ax1 ax2, .slice ay0 ay1 ay2] W fun e w' => e = .returned (.bool true) ∧ Below W.heap.size W w') :
    Calls Tryz.prog 19 #[.agg #[.int .i8 kind, .string path, .slice dx0 dx1 dx2, .slice ax0 ax1 ax2, .int .i32 ver, .bool eph, .bool seq, .int .i64 ses, .int .i32 tmo, .slice wx0 wx1 wx2, .slice ox0 ox1 ox2], .agg #[.int .i8 kind, .string path, .slice dy0 dy1 dy2, .slice ay0 ay1 ay2, .int .i32 ver, .bool (!eph), .bool seq', .int .i64 ses', .int .i32 tmo', .slice wy0 wy1 wy2, .slice oy0 oy1 oy2]] w fun e w' => e = .returned (.bool false) ∧ Below w.heap.size w w' := by
  have K2 : Hid _ := H2
  have K3 : Hid _ := H3
  clear H2 H3
  have hne : (eph == !eph) = false := by cases eph <;> rfl
  obtain ⟨V, eV⟩ : ∃ V, V = (w.alloc (.cells #[.int .i8 kind, .string path, .slice dx0 dx1 dx2, .slice ax0 ax1 ax2, .int .i32 ver, .bool eph, .bool seq, .int .i64 ses, .int .i32 tmo, .slice wx0 wx1 wx2, .slice ox0 ox1 ox2] 33)).alloc (.cells #[.int .i8 kind, .string path, .slice dy0 dy1 dy2, .slice ay0 ay1 ay2, .int .i32 ver, .bool (!eph), .bool seq', .int .i64 ses', .int .i32 tmo', .slice wy0 wy1 wy2, .slice oy0 oy1 oy2] 33) := ⟨_, rfl⟩
  have HV : Hid (Below w.heap.size w V ∧ V.heap[w.heap.size]? = some (.cells #[.int .i8 kind, .string path, .slice dx0 dx1 dx2, .slice ax0 ax1 ax2, .int .i32 ver, .bool eph, .bool seq, .int .i64 ses, .int .i32 tmo, .slice wx0 wx1 wx2, .slice ox0 ox1 ox2] 33 (0, 0)) ∧ V.heap[w.heap.size + 1]? = some (.cells #[.int .i8 kind, .string path, .slice dy0 dy1 dy2, .slice ay0 ay1 ay2, .int .i32 ver, .bool (!eph), .bool seq', .int .i64 ses', .int .i32 tmo', .slice wy0 wy1 wy2, .slice oy0 oy1 oy2] 33 (0, 0))) := by
    subst eV
    exact ⟨two_alloc _ _ _, two_rowsQ1 _ _ _, two_rowsQ2 _ _ _⟩
  have HE : Hid _ := eV
  clear eV
  go_enter Tryz.func19, Tryz.ntmps19
  go_wp2_with fail
  rw [← HE.out]
  clear HE
  refine (K2.out _ HV.out.1).mono ?_
  rintro _ w2 ⟨rfl, b2⟩
  have HV2 : Hid (Below w.heap.size w w2 ∧ w2.heap[w.heap.size]? = some (.cells #[.int .i8 kind, .string path, .slice dx0 dx1 dx2, .slice ax0 ax1 ax2, .int .i32 ver, .bool eph, .bool seq, .int .i64 ses, .int .i32 tmo, .slice wx0 wx1 wx2, .slice ox0 ox1 ox2] 33 (0, 0)) ∧ w2.heap[w.heap.size + 1]? = some (.cells #[.int .i8 kind, .string path, .slice dy0 dy1 dy2, .slice ay0 ay1 ay2, .int .i32 ver, .bool (!eph), .bool seq', .int .i64 ses', .int .i32 tmo', .slice wy0 wy1 wy2, .slice oy0 oy1 oy2] 33 (0, 0))) := laterQ3 HV.out b2
  clear b2 HV
  have c3 : w2.cell? ⟨w.heap.size, 3, none⟩ = some (.slice ax0 ax1 ax2) := by rw [cell_of_row _ _ _ _ _ _ HV2.out.2.1]; rfl
  have z3 : w2.cell? ⟨w.heap.size + 1, 3, none⟩ = some (.slice ay0 ay1 ay2) := by rw [cell_of_row _ _ _ _ _ _ HV2.out.2.2]; rfl
  go_wp2_with fail
  refine (K3.out _ HV2.out.1).mono ?_
  rintro _ w3 ⟨rfl, b3⟩
  have HV3 : Hid (Below w.heap.size w w3 ∧ w3.heap[w.heap.size]? = some (.cells #[.int .i8 kind, .string path, .slice dx0 dx1 dx2, .slice ax0 ax1 ax2, .int .i32 ver, .bool eph, .bool seq, .int .i64 ses, .int .i32 tmo, .slice wx0 wx1 wx2, .slice ox0 ox1 ox2] 33 (0, 0)) ∧ w3.heap[w.heap.size + 1]? = some (.cells #[.int .i8 kind, .string path, .slice dy0 dy1 dy2, .slice ay0 ay1 ay2, .int .i32 ver, .bool (!eph), .bool seq', .int .i64 ses', .int .i32 tmo', .slice wy0 wy1 wy2, .slice oy0 oy1 oy2] 33 (0, 0))) := laterQ3 HV2.out b3
  clear b3 HV2
  clear c3 z3
  have c4 : w3.cell? ⟨w.heap.size, 4, none⟩ = some (.int .i32 ver) := by rw [cell_of_row _ _ _ _ _ _ HV3.out.2.1]; rfl
  have z4 : w3.cell? ⟨w.heap.size + 1, 4, none⟩ = some (.int .i32 ver) := by rw [cell_of_row _ _ _ _ _ _ HV3.out.2.2]; rfl
  have c5 : w3.cell? ⟨w.heap.size, 5, none⟩ = some (.bool eph) := by rw [cell_of_row _ _ _ _ _ _ HV3.out.2.1]; rfl
  have z5 : w3.cell? ⟨w.heap.size + 1, 5, none⟩ = some (.bool (!eph)) := by rw [cell_of_row _ _ _ _ _ _ HV3.out.2.2]; rfl
  go_wp2_with fail
  all_goals (go_ret; exact ⟨rfl, HV3.out.1⟩)

set_option maxHeartbeats 2000000 in
theorem sd_6 (kind : Int) (path : ByteArray) (dx0 : Option Addr) (dx1 dx2 : Nat) (dy0 : Option Addr) (dy1 dy2 : Nat) (ax0 : Option Addr) (ax1 ax2 : Nat) (ay0 : Option Addr) (ay1 ay2 : Nat) (ver : Int) (eph : Bool) (seq : Bool) (ses ses' : Int) (tmo tmo' : Int) (wx0 : Option Addr) (wx1 wx2 : Nat) (wy0 : Option Addr) (wy1 wy2 : Nat) (ox0 : Option Addr) (ox1 ox2 : Nat) (oy0 : Option Addr) (oy1 oy2 : Nat) (w : World) (H2 : ∀ W : World, Below w.heap.size w W → Calls Tryz.prog 70 #[.slice dx0 dx1 dx2, .slice dy0 dy1 dy2] W fun e w' => e = .returned (.bool true) ∧ Below W.heap.size W w') (H3 : ∀ W : World, Below w.heap.size w W → Calls Tryz.prog 71 #[.slice ax0 ax1 ax2, .slice ay0 ay1 ay2] W fun e w' => e = .returned (.bool true) ∧ Below W.heap.size W w') :
    Calls Tryz.prog 19 #[.agg #[.int .i8 kind, .string path, .slice dx0 dx1 dx2, .slice ax0 ax1 ax2, .int .i32 ver, .bool eph, .bool seq, .int .i64 ses, .int .i32 tmo, .slice wx0 wx1 wx2, .slice ox0 ox1 ox2], .agg #[.int .i8 kind, .string path, .slice dy0 dy1 dy2, .slice ay0 ay1 ay2, .int .i32 ver, .bool eph, .bool (!seq), .int .i64 ses', .int .i32 tmo', .slice wy0 wy1 wy2, .slice oy0 oy1 oy2]] w fun e w' => e = .returned (.bool false) ∧ Below w.heap.size w w' := by
  have K2 : Hid _ := H2
  have K3 : Hid _ := H3
  clear H2 H3
  have hne : (seq == !seq) = false := by cases seq <;> rfl
  obtain ⟨V, eV⟩ : ∃ V, V = (w.alloc (.cells #[.int .i8 kind, .string path, .slice dx0 dx1 dx2, .slice ax0 ax1 ax2, .int .i32 ver, .bool eph, .bool seq, .int .i64 ses, .int .i32 tmo, .slice wx0 wx1 wx2, .slice ox0 ox1 ox2] 33)).alloc (.cells #[.int .i8 kind, .string path, .slice dy0 dy1 dy2, .slice ay0 ay1 ay2, .int .i32 ver, .bool eph, .bool (!seq), .int .i64 ses', .int .i32 tmo', .slice wy0 wy1 wy2, .slice oy0 oy1 oy2] 33) := ⟨_, rfl⟩
  have HV : Hid (Below w.heap.size w V ∧ V.heap[w.heap.size]? = some (.cells #[.int .i8 kind, .string path, .slice dx0 dx1 dx2, .slice ax0 ax1 ax2, .int .i32 ver, .bool eph, .bool seq, .int .i64 ses, .int .i32 tmo, .slice wx0 wx1 wx2, .slice ox0 ox1 ox2] 33 (0, 0)) ∧ V.heap[w.heap.size + 1]? = some (.cells #[.int .i8 kind, .string path, .slice dy0 dy1 dy2, .slice ay0 ay1 ay2, .int .i32 ver, .bool eph, .bool (!seq), .int .i64 ses', .int .i32 tmo', .slice wy0 wy1 wy2, .slice oy0 oy1 oy2] 33 (0, 0))) := by
    subst eV
    exact ⟨two_alloc _ _ _, two_rowsQ1 _ _ _, two_rowsQ2 _ _ _⟩
  have HE : Hid _ := eV
  clear eV
  go_enter Tryz.func19, Tryz.ntmps19
  go_wp2_with fail
  rw [← HE.out]
  clear HE
  refine (K2.out _ HV.out.1).mono ?_
  rintro _ w2 ⟨rfl, b2⟩
  have HV2 : Hid (Below w.heap.size w w2 ∧ w2.heap[w.heap.size]? = some (.cells #[.int .i8 kind, .string path, .slice dx0 dx1 dx2, .slice ax0 ax1 ax2, .int .i32 ver, .bool eph, .bool seq, .int .i64 ses, .int .i32 tmo, .slice wx0 wx1 wx2, .slice ox0 ox1 ox2] 33 (0, 0)) ∧ w2.heap[w.heap.size + 1]? = some (.cells #[.int .i8 kind, .string path, .slice dy0 dy1 dy2, .slice ay0 ay1 ay2, .int .i32 ver, .bool eph, .bool (!seq), .int .i64 ses', .int .i32 tmo', .slice wy0 wy1 wy2, .slice oy0 oy1 oy2] 33 (0, 0))) := laterQ3 HV.out b2
  clear b2 HV
  have c3 : w2.cell? ⟨w.heap.size, 3, none⟩ = some (.slice ax0 ax1 ax2) := by rw [cell_of_row _ _ _ _ _ _ HV2.out.2.1]; rfl
  have z3 : w2.cell? ⟨w.heap.size + 1, 3, none⟩ = some (.slice ay0 ay1 ay2) := by rw [cell_of_row _ _ _ _ _ _ HV2.out.2.2]; rfl
  go_wp2_with fail
  refine (K3.out _ HV2.out.1).mono ?_
  rintro _ w3 ⟨rfl, b3⟩
  have HV3 : Hid (Below w.heap.size w w3 ∧ w3.heap[w.heap.size]? = some (.cells #[.int .i8 kind, .string path, .slice dx0 dx1 dx2, .slice ax0 ax1 ax2, .int .i32 ver, .bool eph, .bool seq, .int .i64 ses, .int .i32 tmo, .slice wx0 wx1 wx2, .slice ox0 ox1 ox2] 33 (0, 0)) ∧ w3.heap[w.heap.size + 1]? = some (.cells #[.int .i8 kind, .string path, .slice dy0 dy1 dy2, .slice ay0 ay1 ay2, .int .i32 ver, .bool eph, .bool (!seq), .int .i64 ses', .int .i32 tmo', .slice wy0 wy1 wy2, .slice oy0 oy1 oy2] 33 (0, 0))) := laterQ3 HV2.out b3
  clear b3 HV2
  clear c3 z3
  have c4 : w3.cell? ⟨w.heap.size, 4, none⟩ = some (.int .i32 ver) := by rw [cell_of_row _ _ _ _ _ _ HV3.out.2.1]; rfl
  have z4 : w3.cell? ⟨w.heap.size + 1, 4, none⟩ = some (.int .i32 ver) := by rw [cell_of_row _ _ _ _ _ _ HV3.out.2.2]; rfl
  have c5 : w3.cell? ⟨w.heap.size, 5, none⟩ = some (.bool eph) := by rw [cell_of_row _ _ _ _ _ _ HV3.out.2.1]; rfl
  have z5 : w3.cell? ⟨w.heap.size + 1, 5, none⟩ = some (.bool eph) := by rw [cell_of_row _ _ _ _ _ _ HV3.out.2.2]; rfl
  have c6 : w3.cell? ⟨w.heap.size, 6, none⟩ = some (.bool seq) := by rw [cell_of_row _ _ _ _ _ _ HV3.out.2.1]; rfl
  have z6 : w3.cell? ⟨w.heap.size + 1, 6, none⟩ = some (.bool (!seq)) := by rw [cell_of_row _ _ _ _ _ _ HV3.out.2.2]; rfl
  go_wp2_with fail
  all_goals (go_ret; exact ⟨rfl, HV3.out.1⟩)

set_option maxHeartbeats 2000000 in
theorem sd_7 (kind : Int) (path : ByteArray) (dx0 : Option Addr) (dx1 dx2 : Nat) (dy0 : Option Addr) (dy1 dy2 : Nat) (ax0 : Option Addr) (ax1 ax2 : Nat) (ay0 : Option Addr) (ay1 ay2 : Nat) (ver : Int) (eph : Bool) (seq : Bool) (ses ses' : Int) (tmo tmo' : Int) (wx0 : Option Addr) (wx1 wx2 : Nat) (wy0 : Option Addr) (wy1 wy2 : Nat) (ox0 : Option Addr) (ox1 ox2 : Nat) (oy0 : Option Addr) (oy1 oy2 : Nat) (w : World) (H2 : ∀ W : World, Below w.heap.size w W → Calls Tryz.prog 70 #[.slice dx0 dx1 dx2, .slice dy0 dy1 dy2] W fun e w' => e = .returned (.bool true) ∧ Below W.heap.size W w') (H3 : ∀ W : World, Below w.heap.size w W → Calls Tryz.prog 71 #[.slice ax0 ax1 ax2, .slice ay0 ay1 ay2] W fun e w' => e = .returned (.bool true) ∧ Below W.heap.size W w') (h0 : (ses == ses') = false) :
    Calls Tryz.prog 19 #[.agg #[.int .i8 kind, .string path, .slice dx0 dx1 dx2, .slice ax0 ax1 ax2, .int .i32 ver, .bool eph, .bool seq, .int .i64 ses, .int .i32 tmo, .slice wx0 wx1 wx2, .slice ox0 ox1 ox2], .agg #[.int .i8 kind, .string path, .slice dy0 dy1 dy2, .slice ay0 ay1 ay2, .int .i32 ver, .bool eph, .bool seq, .int .i64 ses', .int .i32 tmo', .slice wy0 wy1 wy2, .slice oy0 oy1 oy2]] w fun e w' => e = .returned (.bool false) ∧ Below w.heap.size w w' := by
  have K2 : Hid _ := H2
  have K3 : Hid _ := H3
  clear H2 H3
  obtain ⟨V, eV⟩ : ∃ V, V = (w.alloc (.cells #[.int .i8 kind, .string path, .slice dx0 dx1 dx2, .slice ax0 ax1 ax2, .int .i32 ver, .bool eph, .bool seq, .int .i64 ses, .int .i32 tmo, .slice wx0 wx1 wx2, .slice ox0 ox1 ox2] 33)).alloc (.cells #[.int .i8 kind, .string path, .slice dy0 dy1 dy2, .slice ay0 ay1 ay2, .int .i32 ver, .bool eph, .bool seq, .int .i64 ses', .int .i32 tmo', .slice wy0 wy1 wy2, .slice oy0 oy1 oy2] 33) := ⟨_, rfl⟩
  have HV : Hid (Below w.heap.size w V ∧ V.heap[w.heap.size]? = some (.cells #[.int .i8 kind, .string path, .slice dx0 dx1 dx2, .slice ax0 ax1 ax2, .int .i32 ver, .bool eph, .bool seq, .int .i64 ses, .int .i32 tmo, .slice wx0 wx1 wx2, .slice ox0 ox1 ox2] 33 (0, 0)) ∧ V.heap[w.heap.size + 1]? = some (.cells #[.int .i8 kind, .string path, .slice dy0 dy1 dy2, .slice ay0 ay1 ay2, .int .i32 ver, .bool eph, .bool seq, .int .i64 ses', .int .i32 tmo', .slice wy0 wy1 wy2, .slice oy0 oy1 oy2] 33 (0, 0))) := by
    subst eV
    exact ⟨two_alloc _ _ _, two_rowsQ1 _ _ _, two_rowsQ2 _ _ _⟩
  have HE : Hid _ := eV
  clear eV
  go_enter Tryz.func19, Tryz.ntmps19
  go_wp2_with fail
  rw [← HE.out]
  clear HE
  refine (K2.out _ HV.out.1).mono ?_
  rintro _ w2 ⟨rfl, b2⟩
  have HV2 : Hid (Below w.heap.size w w2 ∧ w2.heap[w.heap.size]? = some (.cells #[.int .i8 kind, .string path, .slice dx0 dx1 dx2, .slice ax0 ax1 ax2, .int .i32 ver, .bool eph, .bool seq, .int .i64 ses, .int .i32 tmo, .slice wx0 wx1 wx2, .slice ox0 ox1 ox2] 33 (0, 0)) ∧ w2.heap[w.heap.size + 1]? = some (.cells #[.int .i8 kind, .string path, .slice dy0 dy1 dy2, .slice ay0 ay1 ay2, .int .i32 ver, .bool eph, .bool seq, .int .i64 ses', .int .i32 tmo', .slice wy0 wy1 wy2, .slice oy0 oy1 oy2] 33 (0, 0))) := laterQ3 HV.out b2
  clear b2 HV
  have c3 : w2.cell? ⟨w.heap.size, 3, none⟩ = some (.slice ax0 ax1 ax2) := by rw [cell_of_row _ _ _ _ _ _ HV2.out.2.1]; rfl
  have z3 : w2.cell? ⟨w.heap.size + 1, 3, none⟩ = some (.slice ay0 ay1 ay2) := by rw [cell_of_row _ _ _ _ _ _ HV2.out.2.2]; rfl
  go_wp2_with fail
  refine (K3.out _ HV2.out.1).mono ?_
  rintro _ w3 ⟨rfl, b3⟩
  have HV3 : Hid (Below w.heap.size w w3 ∧ w3.heap[w.heap.size]? = some (.cells #[.int .i8 kind, .string path, .slice dx0 dx1 dx2, .slice ax0 ax1 ax2, .int .i32 ver, .bool eph, .bool seq, .int .i64 ses, .int .i32 tmo, .slice wx0 wx1 wx2, .slice ox0 ox1 ox2] 33 (0, 0)) ∧ w3.heap[w.heap.size + 1]? = some (.cells #[.int .i8 kind, .string path, .slice dy0 dy1 dy2, .slice ay0 ay1 ay2, .int .i32 ver, .bool eph, .bool seq, .int .i64 ses', .int .i32 tmo', .slice wy0 wy1 wy2, .slice oy0 oy1 oy2] 33 (0, 0))) := laterQ3 HV2.out b3
  clear b3 HV2
  clear c3 z3
  have c4 : w3.cell? ⟨w.heap.size, 4, none⟩ = some (.int .i32 ver) := by rw [cell_of_row _ _ _ _ _ _ HV3.out.2.1]; rfl
  have z4 : w3.cell? ⟨w.heap.size + 1, 4, none⟩ = some (.int .i32 ver) := by rw [cell_of_row _ _ _ _ _ _ HV3.out.2.2]; rfl
  have c5 : w3.cell? ⟨w.heap.size, 5, none⟩ = some (.bool eph) := by rw [cell_of_row _ _ _ _ _ _ HV3.out.2.1]; rfl
  have z5 : w3.cell? ⟨w.heap.size + 1, 5, none⟩ = some (.bool eph) := by rw [cell_of_row _ _ _ _ _ _ HV3.out.2.2]; rfl
  have c6 : w3.cell? ⟨w.heap.size, 6, none⟩ = some (.bool seq) := by rw [cell_of_row _ _ _ _ _ _ HV3.out.2.1]; rfl
  have z6 : w3.cell? ⟨w.heap.size + 1, 6, none⟩ = some (.bool seq) := by rw [cell_of_row _ _ _ _ _ _ HV3.out.2.2]; rfl
  have c7 : w3.cell? ⟨w.heap.size, 7, none⟩ = some (.int .i64 ses) := by rw [cell_of_row _ _ _ _ _ _ HV3.out.2.1]; rfl
  have z7 : w3.cell? ⟨w.heap.size + 1, 7, none⟩ = some (.int .i64 ses') := by rw [cell_of_row _ _ _ _ _ _ HV3.out.2.2]; rfl
  go_wp2_with fail
  all_goals (go_ret; exact ⟨rfl, HV3.out.1⟩)

set_option maxHeartbeats 2000000 in
theorem sd_8 (kind : Int) (path : ByteArray) (dx0 : Option Addr) (dx1 dx2 : Nat) (dy0 : Option Addr) (dy1 dy2 : Nat) (ax0 : Option Addr) (ax1 ax2 : Nat) (ay0 : Option Addr) (ay1 ay2 : Nat) (ver : Int) (eph : Bool) (seq : Bool) (ses : Int) (tmo tmo' : Int) (wx0 : Option Addr) (wx1 wx2 : Nat) (wy0 : Option Addr) (wy1 wy2 : Nat) (ox0 : Option Addr) (ox1 ox2 : Nat) (oy0 : Option Addr) (oy1 oy2 : Nat) (w : World) (H2 : ∀ W : World, Below w.heap.size w W → Calls Tryz.prog 70 #[.slice dx0 dx1 dx2, .slice dy0 dy1 dy2] W fun e w' => e = .returned (.bool true) ∧ Below W.heap.size W w') (H3 : ∀ W : World, Below w.heap.size w W → Calls Tryz.prog 71 #[.slice ax0 ax1 ax2, .slice ay0 ay1 ay2] W fun e w' => e = .returned (.bool true) ∧ Below W.heap.size W w') (h0 : (tmo == tmo') = false) :
    Calls Tryz.prog 19 #[.agg #[.int .i8 kind, .string path, .slice dx0 dx1 dx2, .slice ax0 ax1 ax2, .int .i32 ver, .bool eph, .bool seq, .int .i64 ses, .int .i32 tmo, .slice wx0 wx1 wx2, .slice ox0 ox1 ox2], .agg #[.int .i8 kind, .string path, .slice dy0 dy1 dy2, .slice ay0 ay1 ay2, .int .i32 ver, .bool eph, .bool seq, .int .i64 ses, .int .i32 tmo', .slice wy0 wy1 wy2, .slice oy0 oy1 oy2]] w fun e w' => e = .returned (.bool false) ∧ Below w.heap.size w w' := by
  have K2 : Hid _ := H2
  have K3 : Hid _ := H3
  clear H2 H3
  obtain ⟨V, eV⟩ : ∃ V, V = (w.alloc (.cells #[.int .i8 kind, .string path, .slice dx0 dx1 dx2, .slice ax0 ax1 ax2, .int .i32 ver, .bool eph, .bool seq, .int .i64 ses, .int .i32 tmo, .slice wx0 wx1 wx2, .slice ox0 ox1 ox2] 33)).alloc (.cells #[.int .i8 kind, .string path, .slice dy0 dy1 dy2, .slice ay0 ay1 ay2, .int .i32 ver, .bool eph, .bool seq, .int .i64 ses, .int .i32 tmo', .slice wy0 wy1 wy2, .slice oy0 oy1 oy2] 33) := ⟨_, rfl⟩
  have HV : Hid (Below w.heap.size w V ∧ V.heap[w.heap.size]? = some (.cells #[.int .i8 kind, .string path, .slice dx0 dx1 dx2, .slice ax0 ax1 ax2, .int .i32 ver, .bool eph, .bool seq, .int .i64 ses, .int .i32 tmo, .slice wx0 wx1 wx2, .slice ox0 ox1 ox2] 33 (0, 0)) ∧ V.heap[w.heap.size + 1]? = some (.cells #[.int .i8 kind, .string path, .slice dy0 dy1 dy2, .slice ay0 ay1 ay2, .int .i32 ver, .bool eph, .bool seq, .int .i64 ses, .int .i32 tmo', .slice wy0 wy1 wy2, .slice oy0 oy1 oy2] 33 (0, 0))) := by
    subst eV
    exact ⟨two_alloc _ _ _, two_rowsQ1 _ _ _, two_rowsQ2 _ _ _⟩
  have HE : Hid _ := eV
  clear eV
  go_enter Tryz.func19, Tryz.ntmps19
  go_wp2_with fail
  rw [← HE.out]
  clear HE
  refine (K2.out _ HV.out.1).mono ?_
  rintro _ w2 ⟨rfl, b2⟩
  have HV2 : Hid (Below w.heap.size w w2 ∧ w2.heap[w.heap.size]? = some (.cells #[.int .i8 kind, .string path, .slice dx0 dx1 dx2, .slice ax0 ax1 ax2, .int .i32 ver, .bool eph, .bool seq, .int .i64 ses, .int .i32 tmo, .slice wx0 wx1 wx2, .slice ox0 ox1 ox2] 33 (0, 0)) ∧ w2.heap[w.heap.size + 1]? = some (.cells #[.int .i8 kind, .string path, .slice dy0 dy1 dy2, .slice ay0 ay1 ay2, .int .i32 ver, .bool eph, .bool seq, .int .i64 ses, .int .i32 tmo', .slice wy0 wy1 wy2, .slice oy0 oy1 oy2] 33 (0, 0))) := laterQ3 HV.out b2
  clear b2 HV
  have c3 : w2.cell? ⟨w.heap.size, 3, none⟩ = some (.slice ax0 ax1 ax2) := by rw [cell_of_row _ _ _ _ _ _ HV2.out.2.1]; rfl
  have z3 : w2.cell? ⟨w.heap.size + 1, 3, none⟩ = some (.slice ay0 ay1 ay2) := by rw [cell_of_row _ _ _ _ _ _ HV2.out.2.2]; rfl
  go_wp2_with fail
  refine (K3.out _ HV2.out.1).mono ?_
  rintro _ w3 ⟨rfl, b3⟩
  have HV3 : Hid (Below w.heap.size w w3 ∧ w3.heap[w.heap.size]? = some (.cells #[.int .i8 kind, .string path, .slice dx0 dx1 dx2, .slice ax0 ax1 ax2, .int .i32 ver, .bool eph, .bool seq, .int .i64 ses, .int .i32 tmo, .slice wx0 wx1 wx2, .slice ox0 ox1 ox2] 33 (0, 0)) ∧ w3.heap[w.heap.size + 1]? = some (.cells #[.int .i8 kind, .string path, .slice dy0 dy1 dy2, .slice ay0 ay1 ay2, .int .i32 ver, .bool eph, .bool seq, .int .i64 ses, .int .i32 tmo', .slice wy0 wy1 wy2, .slice oy0 oy1 oy2] 33 (0, 0))) := laterQ3 HV2.out b3
  clear b3 HV2
  clear c3 z3
  have c4 : w3.cell? ⟨w.heap.size, 4, none⟩ = some (.int .i32 ver) := by rw [cell_of_row _ _ _ _ _ _ HV3.out.2.1]; rfl
  have z4 : w3.cell? ⟨w.heap.size + 1, 4, none⟩ = some (.int .i32 ver) := by rw [cell_of_row _ _ _ _ _ _ HV3.out.2.2]; rfl
  have c5 : w3.cell? ⟨w.heap.size, 5, none⟩ = some (.bool eph) := by rw [cell_of_row _ _ _ _ _ _ HV3.out.2.1]; rfl
  have z5 : w3.cell? ⟨w.heap.size + 1, 5, none⟩ = some (.bool eph) := by rw [cell_of_row _ _ _ _ _ _ HV3.out.2.2]; rfl
  have c6 : w3.cell? ⟨w.heap.size, 6, none⟩ = some (.bool seq) := by rw [cell_of_row _ _ _ _ _ _ HV3.out.2.1]; rfl
  have z6 : w3.cell? ⟨w.heap.size + 1, 6, none⟩ = some (.bool seq) := by rw [cell_of_row _ _ _ _ _ _ HV3.out.2.2]; rfl
  have c7 : w3.cell? ⟨w.heap.size, 7, none⟩ = some (.int .i64 ses) := by rw [cell_of_row _ _ _ _ _ _ HV3.out.2.1]; rfl
  have z7 : w3.cell? ⟨w.heap.size + 1, 7, none⟩ = some (.int .i64 ses) := by rw [cell_of_row _ _ _ _ _ _ HV3.out.2.2]; rfl
  have c8 : w3.cell? ⟨w.heap.size, 8, none⟩ = some (.int .i32 tmo) := by rw [cell_of_row _ _ _ _ _ _ HV3.out.2.1]; rfl
  have z8 : w3.cell? ⟨w.heap.size + 1, 8, none⟩ = some (.int .i32 tmo') := by rw [cell_of_row _ _ _ _ _ _ HV3.out.2.2]; rfl
  go_wp2_with fail
  all_goals (go_ret; exact ⟨rfl, HV3.out.1⟩)

set_option maxHeartbeats 2000000 in
theorem sd_9 (kind : Int) (path : ByteArray) (dx0 : Option Addr) (dx1 dx2 : Nat) (dy0 : Option Addr) (dy1 dy2 : Nat) (ax0 : Option Addr) (ax1 ax2 : Nat) (ay0 : Option Addr) (ay1 ay2 : Nat) (ver : Int) (eph : Bool) (seq : Bool) (ses : Int) (tmo : Int) (wx0 : Option Addr) (wx1 wx2 : Nat) (wy0 : Option Addr) (wy1 wy2 : Nat) (ox0 : Option Addr) (ox1 ox2 : Nat) (oy0 : Option Addr) (oy1 oy2 : Nat) (w : World) (H2 : ∀ W : World, Below w.heap.size w W → Calls Tryz.prog 70 #[.slice dx0 dx1 dx2, .slice dy0 dy1 dy2] W fun e w' => e = .returned (.bool true) ∧ Below W.heap.size W w') (H3 : ∀ W : World, Below w.heap.size w W → Calls Tryz.prog 71 #[.slice ax0 ax1 ax2, .slice ay0 ay1 ay2] W fun e w' => e = .returned (.bool true) ∧ Below W.heap.size W w') (H9 : ∀ W : World, Below w.heap.size w W → Calls Tryz.prog 72 #[.slice wx0 wx1 wx2, .slice wy0 wy1 wy2] W fun e w' => e = .returned (.bool false) ∧ Below W.heap.size W w') :
    Calls Tryz.prog 19 #[.agg #[.int .i8 kind, .string path, .slice dx0 dx1 dx2, .slice ax0 ax1 ax2, .int .i32 ver, .bool eph, .bool seq, .int .i64 ses, .int .i32 tmo, .slice wx0 wx1 wx2, .slice ox0 ox1 ox2], .agg #[.int .i8 kind, .string path, .slice dy0 dy1 dy2, .slice ay0 ay1 ay2, .int .i32 ver, .bool eph, .bool seq, .int .i64 ses, .int .i32 tmo, .slice wy0 wy1 wy2, .slice oy0 oy1 oy2]] w fun e w' => e = .returned (.bool false) ∧ Below w.heap.size w w' := by
  have K2 : Hid _ := H2
  have K3 : Hid _ := H3
  have K9 : Hid _ := H9
  clear H2 H3 H9
  obtain ⟨V, eV⟩ : ∃ V, V = (w.alloc (.cells #[.int .i8 kind, .string path, .slice dx0 dx1 dx2, .slice ax0 ax1 ax2, .int .i32 ver, .bool eph, .bool seq, .int .i64 ses, .int .i32 tmo, .slice wx0 wx1 wx2, .slice ox0 ox1 ox2] 33)).alloc (.cells #[.int .i8 kind, .string path, .slice dy0 dy1 dy2, .slice ay0 ay1 ay2, .int .i32 ver, .bool eph, .bool seq, .int .i64 ses, .int .i32 tmo, .slice wy0 wy1 wy2, .slice oy0 oy1 oy2] 33) := ⟨_, rfl⟩
  have HV : Hid (Below w.heap.size w V ∧ V.heap[w.heap.size]? = some (.cells #[.int .i8 kind, .string path, .slice dx0 dx1 dx2, .slice ax0 ax1 ax2, .int .i32 ver, .bool eph, .bool seq, .int .i64 ses, .int .i32 tmo, .slice wx0 wx1 wx2, .slice ox0 ox1 ox2] 33 (0, 0)) ∧ V.heap[w.heap.size + 1]? = some (.cells #[.int .i8 kind, .string path, .slice dy0 dy1 dy2, .slice ay0 ay1 ay2, .int .i32 ver, .bool eph, .bool seq, .int .i64 ses, .int .i32 tmo, .slice wy0 wy1 wy2, .slice oy0 oy1 oy2] 33 (0, 0))) := by
    subst eV
    exact ⟨two_alloc _ _ _, two_rowsQ1 _ _ _, two_rowsQ2 _ _ _⟩
  have HE : Hid _ := eV
  clear eV
  go_enter Tryz.func19, Tryz.ntmps19
  go_wp2_with fail
  rw [← HE.out]
  clear HE
  refine (K2.out _ HV.out.1).mono ?_
  rintro _ w2 ⟨rfl, b2⟩
  have HV2 : Hid (Below w.heap.size w w2 ∧ w2.heap[w.heap.size]? = some (.cells #[.int .i8 kind, .string path, .slice dx0 dx1 dx2, .slice ax0 ax1 ax2, .int .i32 ver, .bool eph, .bool seq, .int .i64 ses, .int .i32 tmo, .slice wx0 wx1 wx2, .slice ox0 ox1 ox2] 33 (0, 0)) ∧ w2.heap[w.heap.size + 1]? = some (.cells #[.int .i8 kind, .string path, .slice dy0 dy1 dy2, .slice ay0 ay1 ay2, .int .i32 ver, .bool eph, .bool seq, .int .i64 ses, .int .i32 tmo, .slice wy0 wy1 wy2, .slice oy0 oy1 oy2] 33 (0, 0))) := laterQ3 HV.out b2
  clear b2 HV
  have c3 : w2.cell? ⟨w.heap.size, 3, none⟩ = some (.slice ax0 ax1 ax2) := by rw [cell_of_row _ _ _ _ _ _ HV2.out.2.1]; rfl
  have z3 : w2.cell? ⟨w.heap.size + 1, 3, none⟩ = some (.slice ay0 ay1 ay2) := by rw [cell_of_row _ _ _ _ _ _ HV2.out.2.2]; rfl
  go_wp2_with fail
  refine (K3.out _ HV2.out.1).mono ?_
  rintro _ w3 ⟨rfl, b3⟩
  have HV3 : Hid (Below w.heap.size w w3 ∧ w3.heap[w.heap.size]? = some (.cells #[.int .i8 kind, .string path, .slice dx0 dx1 dx2, .slice ax0 ax1 ax2, .int .i32 ver, .bool eph, .bool seq, .int .i64 ses, .int .i32 tmo, .slice wx0 wx1 wx2, .slice ox0 ox1 ox2] 33 (0, 0)) ∧ w3.heap[w.heap.size + 1]? = some (.cells #[.int .i8 kind, .string path, .slice dy0 dy1 dy2, .slice ay0 ay1 ay2, .int .i32 ver, .bool eph, .bool seq, .int .i64 ses, .int .i32 tmo, .slice wy0 wy1 wy2, .slice oy0 oy1 oy2] 33 (0, 0))) := laterQ3 HV2.out b3
  clear b3 HV2
  clear c3 z3
  have c4 : w3.cell? ⟨w.heap.size, 4, none⟩ = some (.int .i32 ver) := by rw [cell_of_row _ _ _ _ _ _ HV3.out.2.1]; rfl
  have z4 : w3.cell? ⟨w.heap.size + 1, 4, none⟩ = some (.int .i32 ver) := by rw [cell_of_row _ _ _ _ _ _ HV3.out.2.2]; rfl
  have c5 : w3.cell? ⟨w.heap.size, 5, none⟩ = some (.bool eph) := by rw [cell_of_row _ _ _ _ _ _ HV3.out.2.1]; rfl
  have z5 : w3.cell? ⟨w.heap.size + 1, 5, none⟩ = some (.bool eph) := by rw [cell_of_row _ _ _ _ _ _ HV3.out.2.2]; rfl
  have c6 : w3.cell? ⟨w.heap.size, 6, none⟩ = some (.bool seq) := by rw [cell_of_row _ _ _ _ _ _ HV3.out.2.1]; rfl
  have z6 : w3.cell? ⟨w.heap.size + 1, 6, none⟩ = some (.bool seq) := by rw [cell_of_row _ _ _ _ _ _ HV3.out.2.2]; rfl
  have c7 : w3.cell? ⟨w.heap.size, 7, none⟩ = some (.int .i64 ses) := by rw [cell_of_row _ _ _ _ _ _ HV3.out.2.1]; rfl
  have z7 : w3.cell? ⟨w.heap.size + 1, 7, none⟩ = some (.int .i64 ses) := by rw [cell_of_row _ _ _ _ _ _ HV3.out.2.2]; rfl
  have c8 : w3.cell? ⟨w.heap.size, 8, none⟩ = some (.int .i32 tmo) := by rw [cell_of_row _ _ _ _ _ _ HV3.out.2.1]; rfl
  have z8 : w3.cell? ⟨w.heap.size + 1, 8, none⟩ = some (.int .i32 tmo) := by rw [cell_of_row _ _ _ _ _ _ HV3.out.2.2]; rfl
  have c9 : w3.cell? ⟨w.heap.size, 9, none⟩ = some (.slice wx0 wx1 wx2) := by rw [cell_of_row _ _ _ _ _ _ HV3.out.2.1]; rfl
  have z9 : w3.cell? ⟨w.heap.size + 1, 9, none⟩ = some (.slice wy0 wy1 wy2) := by rw [cell_of_row _ _ _ _ _ _ HV3.out.2.2]; rfl
  go_wp2_with fail
  refine (K9.out _ HV3.out.1).mono ?_
  rintro _ w9 ⟨rfl, b9⟩
  have HV9 : Hid (Below w.heap.size w w9 ∧ w9.heap[w.heap.size]? = some (.cells #[.int .i8 kind, .string path, .slice dx0 dx1 dx2, .slice ax0 ax1 ax2, .int .i32 ver, .bool eph, .bool seq, .int .i64 ses, .int .i32 tmo, .slice wx0 wx1 wx2, .slice ox0 ox1 ox2] 33 (0, 0)) ∧ w9.heap[w.heap.size + 1]? = some (.cells #[.int .i8 kind, .string path, .slice dy0 dy1 dy2, .slice ay0 ay1 ay2, .int .i32 ver, .bool eph, .bool seq, .int .i64 ses, .int .i32 tmo, .slice wy0 wy1 wy2, .slice oy0 oy1 oy2] 33 (0, 0))) := laterQ3 HV3.out b9
  clear b9 HV3
  clear c4 z4 c5 z5 c6 z6 c7 z7 c8 z8 c9 z9
  go_wp2_with fail
  all_goals (go_ret; exact ⟨rfl, HV9.out.1⟩)

set_option maxHeartbeats 2000000 in
theorem sd_10 (kind : Int) (path : ByteArray) (dx0 : Option Addr) (dx1 dx2 : Nat) (dy0 : Option Addr) (dy1 dy2 : Nat) (ax0 : Option Addr) (ax1 ax2 : Nat) (ay0 : Option Addr) (ay1 ay2 : Nat) (ver : Int) (eph : Bool) (seq : Bool) (ses : Int) (tmo : Int) (wx0 : Option Addr) (wx1 wx2 : Nat) (wy0 : Option Addr) (wy1 wy2 : Nat) (ox0 : Option Addr) (ox1 ox2 : Nat) (oy0 : Option Addr) (oy1 oy2 : Nat) (w : World) (H2 : ∀ W : World, Below w.heap.size w W → Calls Tryz.prog 70 #[.slice dx0 dx1 dx2, .slice dy0 dy1 dy2] W fun e w' => e = .returned (.bool true) ∧ Below W.heap.size W w') (H3 : ∀ W : World, Below w.heap.size w W → Calls Tryz.prog 71 #[.slice ax0 ax1 ax2, .slice ay0 ay1 ay2] W fun e w' => e = .returned (.bool true) ∧ Below W.heap.size W w') (H9 : ∀ W : World, Below w.heap.size w W → Calls Tryz.prog 72 #[.slice wx0 wx1 wx2, .slice wy0 wy1 wy2] W fun e w' => e = .returned (.bool true) ∧ Below W.heap.size W w') (H10 : ∀ W : World, Below w.heap.size w W → Calls Tryz.prog 73 #[.slice ox0 ox1 ox2, .slice oy0 oy1 oy2, .func (.func 19) #[] #[]] W fun e w' => e = .returned (.bool false) ∧ Below W.heap.size W w') :
    Calls Tryz.prog 19 #[.agg #[.int .i8 kind, .string path, .slice dx0 dx1 dx2, .slice ax0 ax1 ax2, .int .i32 ver, .bool eph, .bool seq, .int .i64 ses, .int .i32 tmo, .slice wx0 wx1 wx2, .slice ox0 ox1 ox2], .agg #[.int .i8 kind, .string path, .slice dy0 dy1 dy2, .slice ay0 ay1 ay2, .int .i32 ver, .bool eph, .bool seq, .int .i64 ses, .int .i32 tmo, .slice wy0 wy1 wy2, .slice oy0 oy1 oy2]] w fun e w' => e = .returned (.bool false) ∧ Below w.heap.size w w' := by
  have K2 : Hid _ := H2
  have K3 : Hid _ := H3
  have K9 : Hid _ := H9
  have K10 : Hid _ := H10
  clear H2 H3 H9 H10
  obtain ⟨V, eV⟩ : ∃ V, V = (w.alloc (.cells #[.int .i8 kind, .string path, .slice dx0 dx1 dx2, .slice ax0 ax1 ax2, .int .i32 ver, .bool eph, .bool seq, .int .i64 ses, .int .i32 tmo, .slice wx0 wx1 wx2, .slice ox0 ox1 ox2] 33)).alloc (.cells #[.int .i8 kind, .string path, .slice dy0 dy1 dy2, .slice ay0 ay1 ay2, .int .i32 ver, .bool eph, .bool seq, .int .i64 ses, .int .i32 tmo, .slice wy0 wy1 wy2, .slice oy0 oy1 oy2] 33) := ⟨_, rfl⟩
  have HV : Hid (Below w.heap.size w V ∧ V.heap[w.heap.size]? = some (.cells #[.int .i8 kind, .string path, .slice dx0 dx1 dx2, .slice ax0 ax1 ax2, .int .i32 ver, .bool eph, .bool seq, .int .i64 ses, .int .i32 tmo, .slice wx0 wx1 wx2, .slice ox0 ox1 ox2] 33 (0, 0)) ∧ V.heap[w.heap.size + 1]? = some (.cells #[.int .i8 kind, .string path, .slice dy0 dy1 dy2, .slice ay0 ay1 ay2, .int .i32 ver, .bool eph, .bool seq, .int .i64 ses, .int .i32 tmo, .slice wy0 wy1 wy2, .slice oy0 oy1 oy2] 33 (0, 0))) := by
    subst eV
    exact ⟨two_alloc _ _ _, two_rowsQ1 _ _ _, two_rowsQ2 _ _ _⟩
  have HE : Hid _ := eV
  clear eV
  go_enter Tryz.func19, Tryz.ntmps19
  go_wp2_with fail
  rw [← HE.out]
  clear HE
  refine (K2.out _ HV.out.1).mono ?_
  rintro _ w2 ⟨rfl, b2⟩
  have HV2 : Hid (Below w.heap.size w w2 ∧ w2.heap[w.heap.size]? = some (.cells #[.int .i8 kind, .string path, .slice dx0 dx1 dx2, .slice ax0 ax1 ax2, .int .i32 ver, .bool eph, .bool seq, .int .i64 ses, .int .i32 tmo, .slice wx0 wx1 wx2, .slice ox0 ox1 ox2] 33 (0, 0)) ∧ w2.heap[w.heap.size + 1]? = some (.cells #[.int .i8 kind, .string path, .slice dy0 dy1 dy2, .slice ay0 ay1 ay2, .int .i32 ver, .bool eph, .bool seq, .int .i64 ses, .int .i32 tmo, .slice wy0 wy1 wy2, .slice oy0 oy1 oy2] 33 (0, 0))) := laterQ3 HV.out b2
  clear b2 HV
  have c3 : w2.cell? ⟨w.heap.size, 3, none⟩ = some (.slice ax0 ax1 ax2) := by rw [cell_of_row _ _ _ _ _ _ HV2.out.2.1]; rfl
  have z3 : w2.cell? ⟨w.heap.size + 1, 3, none⟩ = some (.slice ay0 ay1 ay2) := by rw [cell_of_row _ _ _ _ _ _ HV2.out.2.2]; rfl
  go_wp2_with fail
  refine (K3.out _ HV2.out.1).mono ?_
  rintro _ w3 ⟨rfl, b3⟩
  have HV3 : Hid (Below w.heap.size w w3 ∧ w3.heap[w.heap.size]? = some (.cells #[.int .i8 kind, .string path, .slice dx0 dx1 dx2, .slice ax0 ax1 ax2, .int .i32 ver, .bool eph, .bool seq, .int .i64 ses, .int .i32 tmo, .slice wx0 wx1 wx2, .slice ox0 ox1 ox2] 33 (0, 0)) ∧ w3.heap[w.heap.size + 1]? = some (.cells #[.int .i8 kind, .string path, .slice dy0 dy1 dy2, .slice ay0 ay1 ay2, .int .i32 ver, .bool eph, .bool seq, .int .i64 ses, .int .i32 tmo, .slice wy0 wy1 wy2, .slice oy0 oy1 oy2] 33 (0, 0))) := laterQ3 HV2.out b3
  clear b3 HV2
  clear c3 z3
  have c4 : w3.cell? ⟨w.heap.size, 4, none⟩ = some (.int .i32 ver) := by rw [cell_of_row _ _ _ _ _ _ HV3.out.2.1]; rfl
  have z4 : w3.cell? ⟨w.heap.size + 1, 4, none⟩ = some (.int .i32 ver) := by rw [cell_of_row _ _ _ _ _ _ HV3.out.2.2]; rfl
  have c5 : w3.cell? ⟨w.heap.size, 5, none⟩ = some (.bool eph) := by rw [cell_of_row _ _ _ _ _ _ HV3.out.2.1]; rfl
  have z5 : w3.cell? ⟨w.heap.size + 1, 5, none⟩ = some (.bool eph) := by rw [cell_of_row _ _ _ _ _ _ HV3.out.2.2]; rfl
  have c6 : w3.cell? ⟨w.heap.size, 6, none⟩ = some (.bool seq) := by rw [cell_of_row _ _ _ _ _ _ HV3.out.2.1]; rfl
  have z6 : w3.cell? ⟨w.heap.size + 1, 6, none⟩ = some (.bool seq) := by rw [cell_of_row _ _ _ _ _ _ HV3.out.2.2]; rfl
  have c7 : w3.cell? ⟨w.heap.size, 7, none⟩ = some (.int .i64 ses) := by rw [cell_of_row _ _ _ _ _ _ HV3.out.2.1]; rfl
  have z7 : w3.cell? ⟨w.heap.size + 1, 7, none⟩ = some (.int .i64 ses) := by rw [cell_of_row _ _ _ _ _ _ HV3.out.2.2]; rfl
  have c8 : w3.cell? ⟨w.heap.size, 8, none⟩ = some (.int .i32 tmo) := by rw [cell_of_row _ _ _ _ _ _ HV3.out.2.1]; rfl
  have z8 : w3.cell? ⟨w.heap.size + 1, 8, none⟩ = some (.int .i32 tmo) := by rw [cell_of_row _ _ _ _ _ _ HV3.out.2.2]; rfl
  have c9 : w3.cell? ⟨w.heap.size, 9, none⟩ = some (.slice wx0 wx1 wx2) := by rw [cell_of_row _ _ _ _ _ _ HV3.out.2.1]; rfl
  have z9 : w3.cell? ⟨w.heap.size + 1, 9, none⟩ = some (.slice wy0 wy1 wy2) := by rw [cell_of_row _ _ _ _ _ _ HV3.out.2.2]; rfl
  go_wp2_with fail
  refine (K9.out _ HV3.out.1).mono ?_
  rintro _ w9 ⟨rfl, b9⟩
  have HV9 : Hid (Below w.heap.size w w9 ∧ w9.heap[w.heap.size]? = some (.cells #[.int .i8 kind, .string path, .slice dx0 dx1 dx2, .slice ax0 ax1 ax2, .int .i32 ver, .bool eph, .bool seq, .int .i64 ses, .int .i32 tmo, .slice wx0 wx1 wx2, .slice ox0 ox1 ox2] 33 (0, 0)) ∧ w9.heap[w.heap.size + 1]? = some (.cells #[.int .i8 kind, .string path, .slice dy0 dy1 dy2, .slice ay0 ay1 ay2, .int .i32 ver, .bool eph, .bool seq, .int .i64 ses, .int .i32 tmo, .slice wy0 wy1 wy2, .slice oy0 oy1 oy2] 33 (0, 0))) := laterQ3 HV3.out b9
  clear b9 HV3
  clear c4 z4 c5 z5 c6 z6 c7 z7 c8 z8 c9 z9
  have c10 : w9.cell? ⟨w.heap.size, 10, none⟩ = some (.slice ox0 ox1 ox2) := by rw [cell_of_row _ _ _ _ _ _ HV9.out.2.1]; rfl
  have z10 : w9.cell? ⟨w.heap.size + 1, 10, none⟩ = some (.slice oy0 oy1 oy2) := by rw [cell_of_row _ _ _ _ _ _ HV9.out.2.2]; rfl
  go_wp2_with fail
  refine (K10.out _ HV9.out.1).mono ?_
  rintro _ w10 ⟨rfl, b10⟩
  have HV10 : Hid (Below w.heap.size w w10 ∧ w10.heap[w.heap.size]? = some (.cells #[.int .i8 kind, .string path, .slice dx0 dx1 dx2, .slice ax0 ax1 ax2, .int .i32 ver, .bool eph, .bool seq, .int .i64 ses, .int .i32 tmo, .slice wx0 wx1 wx2, .slice ox0 ox1 ox2] 33 (0, 0)) ∧ w10.heap[w.heap.size + 1]? = some (.cells #[.int .i8 kind, .string path, .slice dy0 dy1 dy2, .slice ay0 ay1 ay2, .int .i32 ver, .bool eph, .bool seq, .int .i64 ses, .int .i32 tmo, .slice wy0 wy1 wy2, .slice oy0 oy1 oy2] 33 (0, 0))) := laterQ3 HV9.out b10
  clear b10 HV9
  clear c10 z10
  go_wp2_with fail
  all_goals (go_ret; exact ⟨rfl, HV10.out.1⟩)
end Go.Proofs.YtoeialngbbfoeaaGreatDoor
