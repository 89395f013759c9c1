/- txn.sameRequest and txn.Same of a transaction held against none: true only where it is none. -/
import Derived.Test.YtldcbabgommghaaGreatDoorPkFJ
namespace Go.Proofs.YtldcbabgommghaaGreatDoor
open Go.RowKit
set_option maxRecDepth 8000

theorem two_rows1 (w : World) (A B : Array Value) {t : TypeId} : ((w.alloc (.cells A t)).alloc (.cells B t)).heap[w.heap.size]? = some (.cells A t (0, 0)) := by rw [Below.heap_alloc _ _ _ (by simp)]; exact heap_alloc_new _ _
theorem two_rows2 (w : World) (A B : Array Value) {t : TypeId} : ((w.alloc (.cells A t)).alloc (.cells B t)).heap[w.heap.size + 1]? = some (.cells B t (0, 0)) := by
  have := heap_alloc_new (w.alloc (.cells A t)) (.cells B t)
  simpa using this
theorem later3 {w W W' : World} {A B : Obj} {i j : Nat} (h : Below w.heap.size w W ∧ W.heap[i]? = some A ∧ W.heap[j]? = some B) (hb : Below W.heap.size W W') : Below w.heap.size w W' ∧ W'.heap[i]? = some A ∧ W'.heap[j]? = some B :=
  ⟨h.1.trans (hb.mono h.1.size), (Below.kept hb).heap h.2.1 (by have := lt_of_block h.2.1; omega), (Below.kept hb).heap h.2.2 (by have := lt_of_block h.2.2; omega)⟩

set_option maxHeartbeats 2000000 in
theorem s0_0 (kind : Int) (path : ByteArray) (dx0 : Option Addr) (dx1 dx2 : Nat) (ax0 : Option Addr) (ax1 ax2 : Nat) (ver : Int) (eph : Bool) (seq : Bool) (ses : Int) (tmo : Int) (wx0 : Option Addr) (wx1 wx2 : Nat) (ox0 : Option Addr) (ox1 ox2 : Nat) (w : World) (h0 : (kind == 0) = false) :
    Calls Tryz.prog 73 #[.agg #[.int .i8 kind, .string path, .slice dx0 dx1 dx2, .slice ax0 ax1 ax2, .int .i32 ver, .bool eph, .bool seq, .int .i64 ses, .int .i32 tmo, .slice wx0 wx1 wx2, .slice ox0 ox1 ox2], .agg zRq] w fun e w' => e = .returned (.bool false) ∧ Below w.heap.size w w' := by
  obtain ⟨V, eV⟩ : ∃ V, V = (w.alloc (.cells #[.int .i8 kind, .string path, .slice dx0 dx1 dx2, .slice ax0 ax1 ax2, .int .i32 ver, .bool eph, .bool seq, .int .i64 ses, .int .i32 tmo, .slice wx0 wx1 wx2, .slice ox0 ox1 ox2] 35)).alloc (.cells zRq 35) := ⟨_, rfl⟩
  have HV : Hid (Below w.heap.size w V ∧ V.heap[w.heap.size]? = some (.cells #[.int .i8 kind, .string path, .slice dx0 dx1 dx2, .slice ax0 ax1 ax2, .int .i32 ver, .bool eph, .bool seq, .int .i64 ses, .int .i32 tmo, .slice wx0 wx1 wx2, .slice ox0 ox1 ox2] 35 (0, 0)) ∧ V.heap[w.heap.size + 1]? = some (.cells zRq 35 (0, 0))) := by
    subst eV
    exact ⟨two_alloc _ _ _, two_rows1 _ _ _, two_rows2 _ _ _⟩
  have HE : Hid _ := eV
  clear eV
  go_enter Tryz.func73, Tryz.ntmps73
  go_wp2_with fail
  all_goals (go_ret; exact ⟨rfl, two_alloc _ _ _⟩)

set_option maxHeartbeats 2000000 in
theorem s0_1 (path : ByteArray) (dx0 : Option Addr) (dx1 dx2 : Nat) (ax0 : Option Addr) (ax1 ax2 : Nat) (ver : Int) (eph : Bool) (seq : Bool) (ses : Int) (tmo : Int) (wx0 : Option Addr) (wx1 wx2 : Nat) (ox0 : Option Addr) (ox1 ox2 : Nat) (w : World) (h0 : (path.toList == []) = false) :
    Calls Tryz.prog 73 #[.agg #[.int .i8 0, .string path, .slice dx0 dx1 dx2, .slice ax0 ax1 ax2, .int .i32 ver, .bool eph, .bool seq, .int .i64 ses, .int .i32 tmo, .slice wx0 wx1 wx2, .slice ox0 ox1 ox2], .agg zRq] w fun e w' => e = .returned (.bool false) ∧ Below w.heap.size w w' := by
  obtain ⟨V, eV⟩ : ∃ V, V = (w.alloc (.cells #[.int .i8 0, .string path, .slice dx0 dx1 dx2, .slice ax0 ax1 ax2, .int .i32 ver, .bool eph, .bool seq, .int .i64 ses, .int .i32 tmo, .slice wx0 wx1 wx2, .slice ox0 ox1 ox2] 35)).alloc (.cells zRq 35) := ⟨_, rfl⟩
  have HV : Hid (Below w.heap.size w V ∧ V.heap[w.heap.size]? = some (.cells #[.int .i8 0, .string path, .slice dx0 dx1 dx2, .slice ax0 ax1 ax2, .int .i32 ver, .bool eph, .bool seq, .int .i64 ses, .int .i32 tmo, .slice wx0 wx1 wx2, .slice ox0 ox1 ox2] 35 (0, 0)) ∧ V.heap[w.heap.size + 1]? = some (.cells zRq 35 (0, 0))) := by
    subst eV
    exact ⟨two_alloc _ _ _, two_rows1 _ _ _, two_rows2 _ _ _⟩
  have HE : Hid _ := eV
  clear eV
  go_enter Tryz.func73, Tryz.ntmps73
  go_wp2_with fail
  all_goals (go_ret; exact ⟨rfl, two_alloc _ _ _⟩)

set_option maxHeartbeats 2000000 in
theorem s0_2 (dx0 : Option Addr) (dx1 dx2 : Nat) (ax0 : Option Addr) (ax1 ax2 : Nat) (ver : Int) (eph : Bool) (seq : Bool) (ses : Int) (tmo : Int) (wx0 : Option Addr) (wx1 wx2 : Nat) (ox0 : Option Addr) (ox1 ox2 : Nat) (w : World) (H2 : ∀ W : World, Below w.heap.size w W → Calls Tryz.prog 121 #[.slice dx0 dx1 dx2, .slice none 0 0] W fun e w' => e = .returned (.bool false) ∧ Below W.heap.size W w') :
    Calls Tryz.prog 73 #[.agg #[.int .i8 0, .string ⟨#[]⟩, .slice dx0 dx1 dx2, .slice ax0 ax1 ax2, .int .i32 ver, .bool eph, .bool seq, .int .i64 ses, .int .i32 tmo, .slice wx0 wx1 wx2, .slice ox0 ox1 ox2], .agg zRq] w fun e w' => e = .returned (.bool false) ∧ Below w.heap.size w w' := by
  have K2 : Hid _ := H2
  clear H2
  obtain ⟨V, eV⟩ : ∃ V, V = (w.alloc (.cells #[.int .i8 0, .string ⟨#[]⟩, .slice dx0 dx1 dx2, .slice ax0 ax1 ax2, .int .i32 ver, .bool eph, .bool seq, .int .i64 ses, .int .i32 tmo, .slice wx0 wx1 wx2, .slice ox0 ox1 ox2] 35)).alloc (.cells zRq 35) := ⟨_, rfl⟩
  have HV : Hid (Below w.heap.size w V ∧ V.heap[w.heap.size]? = some (.cells #[.int .i8 0, .string ⟨#[]⟩, .slice dx0 dx1 dx2, .slice ax0 ax1 ax2, .int .i32 ver, .bool eph, .bool seq, .int .i64 ses, .int .i32 tmo, .slice wx0 wx1 wx2, .slice ox0 ox1 ox2] 35 (0, 0)) ∧ V.heap[w.heap.size + 1]? = some (.cells zRq 35 (0, 0))) := by
    subst eV
    exact ⟨two_alloc _ _ _, two_rows1 _ _ _, two_rows2 _ _ _⟩
  have HE : Hid _ := eV
  clear eV
  go_enter Tryz.func73, Tryz.ntmps73
  go_wp2_with fail
  rw [← HE.out]
  clear HE
  refine (K2.out _ HV.out.1).mono ?_
  rintro _ w2 ⟨rfl, b2⟩
  have HV2 : Hid (Below w.heap.size w w2 ∧ w2.heap[w.heap.size]? = some (.cells #[.int .i8 0, .string ⟨#[]⟩, .slice dx0 dx1 dx2, .slice ax0 ax1 ax2, .int .i32 ver, .bool eph, .bool seq, .int .i64 ses, .int .i32 tmo, .slice wx0 wx1 wx2, .slice ox0 ox1 ox2] 35 (0, 0)) ∧ w2.heap[w.heap.size + 1]? = some (.cells zRq 35 (0, 0))) := later3 HV.out b2
  clear b2 HV
  go_wp2_with fail
  all_goals (go_ret; exact ⟨rfl, HV2.out.1⟩)

set_option maxHeartbeats 2000000 in
theorem s0_3 (dx0 : Option Addr) (dx1 dx2 : Nat) (ax0 : Option Addr) (ax1 ax2 : Nat) (ver : Int) (eph : Bool) (seq : Bool) (ses : Int) (tmo : Int) (wx0 : Option Addr) (wx1 wx2 : Nat) (ox0 : Option Addr) (ox1 ox2 : Nat) (w : World) (H2 : ∀ W : World, Below w.heap.size w W → Calls Tryz.prog 121 #[.slice dx0 dx1 dx2, .slice none 0 0] W fun e w' => e = .returned (.bool true) ∧ Below W.heap.size W w') (H3 : ∀ W : World, Below w.heap.size w W → Calls Tryz.prog 122 #[.slice ax0 ax1 ax2, .slice none 0 0] W fun e w' => e = .returned (.bool false) ∧ Below W.heap.size W w') :
    Calls Tryz.prog 73 #[.agg #[.int .i8 0, .string ⟨#[]⟩, .slice dx0 dx1 dx2, .slice ax0 ax1 ax2, .int .i32 ver, .bool eph, .bool seq, .int .i64 ses, .int .i32 tmo, .slice wx0 wx1 wx2, .slice ox0 ox1 ox2], .agg zRq] w fun e w' => e = .returned (.bool false) ∧ Below w.heap.size w w' := by
  have K2 : Hid _ := H2
  have K3 : Hid _ := H3
  clear H2 H3
  obtain ⟨V, eV⟩ : ∃ V, V = (w.alloc (.cells #[.int .i8 0, .string ⟨#[]⟩, .slice dx0 dx1 dx2, .slice ax0 ax1 ax2, .int .i32 ver, .bool eph, .bool seq, .int .i64 ses, .int .i32 tmo, .slice wx0 wx1 wx2, .slice ox0 ox1 ox2] 35)).alloc (.cells zRq 35) := ⟨_, rfl⟩
  have HV : Hid (Below w.heap.size w V ∧ V.heap[w.heap.size]? = some (.cells #[.int .i8 0, .string ⟨#[]⟩, .slice dx0 dx1 dx2, .slice ax0 ax1 ax2, .int .i32 ver, .bool eph, .bool seq, .int .i64 ses, .int .i32 tmo, .slice wx0 wx1 wx2, .slice ox0 ox1 ox2] 35 (0, 0)) ∧ V.heap[w.heap.size + 1]? = some (.cells zRq 35 (0, 0))) := by
    subst eV
    exact ⟨two_alloc _ _ _, two_rows1 _ _ _, two_rows2 _ _ _⟩
  have HE : Hid _ := eV
  clear eV
  go_enter Tryz.func73, Tryz.ntmps73
  go_wp2_with fail
  rw [← HE.out]
  clear HE
  refine (K2.out _ HV.out.1).mono ?_
  rintro _ w2 ⟨rfl, b2⟩
  have HV2 : Hid (Below w.heap.size w w2 ∧ w2.heap[w.heap.size]? = some (.cells #[.int .i8 0, .string ⟨#[]⟩, .slice dx0 dx1 dx2, .slice ax0 ax1 ax2, .int .i32 ver, .bool eph, .bool seq, .int .i64 ses, .int .i32 tmo, .slice wx0 wx1 wx2, .slice ox0 ox1 ox2] 35 (0, 0)) ∧ w2.heap[w.heap.size + 1]? = some (.cells zRq 35 (0, 0))) := later3 HV.out b2
  clear b2 HV
  have c3 : w2.cell? ⟨w.heap.size, 3, none⟩ = some (.slice ax0 ax1 ax2) := pk_at HV2.out.2.1 rfl
  have z3 : w2.cell? ⟨w.heap.size + 1, 3, none⟩ = some (.slice none 0 0) := pk_at HV2.out.2.2 rfl
  go_wp2_with fail
  refine (K3.out _ HV2.out.1).mono ?_
  rintro _ w3 ⟨rfl, b3⟩
  have HV3 : Hid (Below w.heap.size w w3 ∧ w3.heap[w.heap.size]? = some (.cells #[.int .i8 0, .string ⟨#[]⟩, .slice dx0 dx1 dx2, .slice ax0 ax1 ax2, .int .i32 ver, .bool eph, .bool seq, .int .i64 ses, .int .i32 tmo, .slice wx0 wx1 wx2, .slice ox0 ox1 ox2] 35 (0, 0)) ∧ w3.heap[w.heap.size + 1]? = some (.cells zRq 35 (0, 0))) := later3 HV2.out b3
  clear b3 HV2
  clear c3 z3
  go_wp2_with fail
  all_goals (go_ret; exact ⟨rfl, HV3.out.1⟩)

set_option maxHeartbeats 2000000 in
theorem s0_4 (dx0 : Option Addr) (dx1 dx2 : Nat) (ax0 : Option Addr) (ax1 ax2 : Nat) (ver : Int) (eph : Bool) (seq : Bool) (ses : Int) (tmo : Int) (wx0 : Option Addr) (wx1 wx2 : Nat) (ox0 : Option Addr) (ox1 ox2 : Nat) (w : World) (H2 : ∀ W : World, Below w.heap.size w W → Calls Tryz.prog 121 #[.slice dx0 dx1 dx2, .slice none 0 0] W fun e w' => e = .returned (.bool true) ∧ Below W.heap.size W w') (H3 : ∀ W : World, Below w.heap.size w W → Calls Tryz.prog 122 #[.slice ax0 ax1 ax2, .slice none 0 0] W fun e w' => e = .returned (.bool true) ∧ Below W.heap.size W w') (h0 : (ver == 0) = false) :
    Calls Tryz.prog 73 #[.agg #[.int .i8 0, .string ⟨#[]⟩, .slice dx0 dx1 dx2, .slice ax0 ax1 ax2, .int .i32 ver, .bool eph, .bool seq, .int .i64 ses, .int .i32 tmo, .slice wx0 wx1 wx2, .slice ox0 ox1 ox2], .agg zRq] w fun e w' => e = .returned (.bool false) ∧ Below w.heap.size w w' := by
  have K2 : Hid _ := H2
  have K3 : Hid _ := H3
  clear H2 H3
  obtain ⟨V, eV⟩ : ∃ V, V = (w.alloc (.cells #[.int .i8 0, .string ⟨#[]⟩, .slice dx0 dx1 dx2, .slice ax0 ax1 ax2, .int .i32 ver, .bool eph, .bool seq, .int .i64 ses, .int .i32 tmo, .slice wx0 wx1 wx2, .slice ox0 ox1 ox2] 35)).alloc (.cells zRq 35) := ⟨_, rfl⟩
  have HV : Hid (Below w.heap.size w V ∧ V.heap[w.heap.size]? = some (.cells #[.int .i8 0, .string ⟨#[]⟩, .slice dx0 dx1 dx2, .slice ax0 ax1 ax2, .int .i32 ver, .bool eph, .bool seq, .int .i64 ses, .int .i32 tmo, .slice wx0 wx1 wx2, .slice ox0 ox1 ox2] 35 (0, 0)) ∧ V.heap[w.heap.size + 1]? = some (.cells zRq 35 (0, 0))) := by
    subst eV
    exact ⟨two_alloc _ _ _, two_rows1 _ _ _, two_rows2 _ _ _⟩
  have HE : Hid _ := eV
  clear eV
  go_enter Tryz.func73, Tryz.ntmps73
  go_wp2_with fail
  rw [← HE.out]
  clear HE
  refine (K2.out _ HV.out.1).mono ?_
  rintro _ w2 ⟨rfl, b2⟩
  have HV2 : Hid (Below w.heap.size w w2 ∧ w2.heap[w.heap.size]? = some (.cells #[.int .i8 0, .string ⟨#[]⟩, .slice dx0 dx1 dx2, .slice ax0 ax1 ax2, .int .i32 ver, .bool eph, .bool seq, .int .i64 ses, .int .i32 tmo, .slice wx0 wx1 wx2, .slice ox0 ox1 ox2] 35 (0, 0)) ∧ w2.heap[w.heap.size + 1]? = some (.cells zRq 35 (0, 0))) := later3 HV.out b2
  clear b2 HV
  have c3 : w2.cell? ⟨w.heap.size, 3, none⟩ = some (.slice ax0 ax1 ax2) := pk_at HV2.out.2.1 rfl
  have z3 : w2.cell? ⟨w.heap.size + 1, 3, none⟩ = some (.slice none 0 0) := pk_at HV2.out.2.2 rfl
  go_wp2_with fail
  refine (K3.out _ HV2.out.1).mono ?_
  rintro _ w3 ⟨rfl, b3⟩
  have HV3 : Hid (Below w.heap.size w w3 ∧ w3.heap[w.heap.size]? = some (.cells #[.int .i8 0, .string ⟨#[]⟩, .slice dx0 dx1 dx2, .slice ax0 ax1 ax2, .int .i32 ver, .bool eph, .bool seq, .int .i64 ses, .int .i32 tmo, .slice wx0 wx1 wx2, .slice ox0 ox1 ox2] 35 (0, 0)) ∧ w3.heap[w.heap.size + 1]? = some (.cells zRq 35 (0, 0))) := later3 HV2.out b3
  clear b3 HV2
  clear c3 z3
  have c4 : w3.cell? ⟨w.heap.size, 4, none⟩ = some (.int .i32 ver) := pk_at HV3.out.2.1 rfl
  have z4 : w3.cell? ⟨w.heap.size + 1, 4, none⟩ = some (.int .i32 0) := pk_at HV3.out.2.2 rfl
  go_wp2_with fail
  all_goals (go_ret; exact ⟨rfl, HV3.out.1⟩)

set_option maxHeartbeats 2000000 in
theorem s0_5 (dx0 : Option Addr) (dx1 dx2 : Nat) (ax0 : Option Addr) (ax1 ax2 : Nat) (seq : Bool) (ses : Int) (tmo : Int) (wx0 : Option Addr) (wx1 wx2 : Nat) (ox0 : Option Addr) (ox1 ox2 : Nat) (w : World) (H2 : ∀ W : World, Below w.heap.size w W → Calls Tryz.prog 121 #[.slice dx0 dx1 dx2, .slice none 0 0] W fun e w' => e = .returned (.bool true) ∧ Below W.heap.size W w') (H3 : ∀ W : World, Below w.heap.size w W → Calls Tryz.prog 122 #[.slice ax0 ax1 ax2, .slice none 0 0] W fun e w' => e = .returned (.bool true) ∧ Below W.heap.size W w') :
    Calls Tryz.prog 73 #[.agg #[.int .i8 0, .string ⟨#[]⟩, .slice dx0 dx1 dx2, .slice ax0 ax1 ax2, .int .i32 0, .bool true, .bool seq, .int .i64 ses, .int .i32 tmo, .slice wx0 wx1 wx2, .slice ox0 ox1 ox2], .agg zRq] w fun e w' => e = .returned (.bool false) ∧ Below w.heap.size w w' := by
  have K2 : Hid _ := H2
  have K3 : Hid _ := H3
  clear H2 H3
  obtain ⟨V, eV⟩ : ∃ V, V = (w.alloc (.cells #[.int .i8 0, .string ⟨#[]⟩, .slice dx0 dx1 dx2, .slice ax0 ax1 ax2, .int .i32 0, .bool true, .bool seq, .int .i64 ses, .int .i32 tmo, .slice wx0 wx1 wx2, .slice ox0 ox1 ox2] 35)).alloc (.cells zRq 35) := ⟨_, rfl⟩
  have HV : Hid (Below w.heap.size w V ∧ V.heap[w.heap.size]? = some (.cells #[.int .i8 0, .string ⟨#[]⟩, .slice dx0 dx1 dx2, .slice ax0 ax1 ax2, .int .i32 0, .bool true, .bool seq, .int .i64 ses, .int .i32 tmo, .slice wx0 wx1 wx2, .slice ox0 ox1 ox2] 35 (0, 0)) ∧ V.heap[w.heap.size + 1]? = some (.cells zRq 35 (0, 0))) := by
    subst eV
    exact ⟨two_alloc _ _ _, two_rows1 _ _ _, two_rows2 _ _ _⟩
  have HE : Hid _ := eV
  clear eV
  go_enter Tryz.func73, Tryz.ntmps73
  go_wp2_with fail
  rw [← HE.out]
  clear HE
  refine (K2.out _ HV.out.1).mono ?_
  rintro _ w2 ⟨rfl, b2⟩
  have HV2 : Hid (Below w.heap.size w w2 ∧ w2.heap[w.heap.size]? = some (.cells #[.int .i8 0, .string ⟨#[]⟩, .slice dx0 dx1 dx2, .slice ax0 ax1 ax2, .int .i32 0, .bool true, .bool seq, .int .i64 ses, .int .i32 tmo, .slice wx0 wx1 wx2, .slice ox0 ox1 ox2] 35 (0, 0)) ∧ w2.heap[w.heap.size + 1]? = some (.cells zRq 35 (0, 0))) := later3 HV.out b2
  clear b2 HV
  have c3 : w2.cell? ⟨w.heap.size, 3, none⟩ = some (.slice ax0 ax1 ax2) := pk_at HV2.out.2.1 rfl
  have z3 : w2.cell? ⟨w.heap.size + 1, 3, none⟩ = some (.slice none 0 0) := pk_at HV2.out.2.2 rfl
  go_wp2_with fail
  refine (K3.out _ HV2.out.1).mono ?_
  rintro _ w3 ⟨rfl, b3⟩
  have HV3 : Hid (Below w.heap.size w w3 ∧ w3.heap[w.heap.size]? = some (.cells #[.int .i8 0, .string ⟨#[]⟩, .slice dx0 dx1 dx2, .slice ax0 ax1 ax2, .int .i32 0, .bool true, .bool seq, .int .i64 ses, .int .i32 tmo, .slice wx0 wx1 wx2, .slice ox0 ox1 ox2] 35 (0, 0)) ∧ w3.heap[w.heap.size + 1]? = some (.cells zRq 35 (0, 0))) := later3 HV2.out b3
  clear b3 HV2
  clear c3 z3
  have c4 : w3.cell? ⟨w.heap.size, 4, none⟩ = some (.int .i32 0) := pk_at HV3.out.2.1 rfl
  have z4 : w3.cell? ⟨w.heap.size + 1, 4, none⟩ = some (.int .i32 0) := pk_at HV3.out.2.2 rfl
  have c5 : w3.cell? ⟨w.heap.size, 5, none⟩ = some (.bool true) := pk_at HV3.out.2.1 rfl
  have z5 : w3.cell? ⟨w.heap.size + 1, 5, none⟩ = some (.bool false) := pk_at HV3.out.2.2 rfl
  go_wp2_with fail
  all_goals (go_ret; exact ⟨rfl, HV3.out.1⟩)

set_option maxHeartbeats 2000000 in
theorem s0_6 (dx0 : Option Addr) (dx1 dx2 : Nat) (ax0 : Option Addr) (ax1 ax2 : Nat) (ses : Int) (tmo : Int) (wx0 : Option Addr) (wx1 wx2 : Nat) (ox0 : Option Addr) (ox1 ox2 : Nat) (w : World) (H2 : ∀ W : World, Below w.heap.size w W → Calls Tryz.prog 121 #[.slice dx0 dx1 dx2, .slice none 0 0] W fun e w' => e = .returned (.bool true) ∧ Below W.heap.size W w') (H3 : ∀ W : World, Below w.heap.size w W → Calls Tryz.prog 122 #[.slice ax0 ax1 ax2, .slice none 0 0] W fun e w' => e = .returned (.bool true) ∧ Below W.heap.size W w') :
    Calls Tryz.prog 73 #[.agg #[.int .i8 0, .string ⟨#[]⟩, .slice dx0 dx1 dx2, .slice ax0 ax1 ax2, .int .i32 0, .bool false, .bool true, .int .i64 ses, .int .i32 tmo, .slice wx0 wx1 wx2, .slice ox0 ox1 ox2], .agg zRq] w fun e w' => e = .returned (.bool false) ∧ Below w.heap.size w w' := by
  have K2 : Hid _ := H2
  have K3 : Hid _ := H3
  clear H2 H3
  obtain ⟨V, eV⟩ : ∃ V, V = (w.alloc (.cells #[.int .i8 0, .string ⟨#[]⟩, .slice dx0 dx1 dx2, .slice ax0 ax1 ax2, .int .i32 0, .bool false, .bool true, .int .i64 ses, .int .i32 tmo, .slice wx0 wx1 wx2, .slice ox0 ox1 ox2] 35)).alloc (.cells zRq 35) := ⟨_, rfl⟩
  have HV : Hid (Below w.heap.size w V ∧ V.heap[w.heap.size]? = some (.cells #[.int .i8 0, .string ⟨#[]⟩, .slice dx0 dx1 dx2, .slice ax0 ax1 ax2, .int .i32 0, .bool false, .bool true, .int .i64 ses, .int .i32 tmo, .slice wx0 wx1 wx2, .slice ox0 ox1 ox2] 35 (0, 0)) ∧ V.heap[w.heap.size + 1]? = some (.cells zRq 35 (0, 0))) := by
    subst eV
    exact ⟨two_alloc _ _ _, two_rows1 _ _ _, two_rows2 _ _ _⟩
  have HE : Hid _ := eV
  clear eV
  go_enter Tryz.func73, Tryz.ntmps73
  go_wp2_with fail
  rw [← HE.out]
  clear HE
  refine (K2.out _ HV.out.1).mono ?_
  rintro _ w2 ⟨rfl, b2⟩
  have HV2 : Hid (Below w.heap.size w w2 ∧ w2.heap[w.heap.size]? = some (.cells #[.int .i8 0, .string ⟨#[]⟩, .slice dx0 dx1 dx2, .slice ax0 ax1 ax2, .int .i32 0, .bool false, .bool true, .int .i64 ses, .int .i32 tmo, .slice wx0 wx1 wx2, .slice ox0 ox1 ox2] 35 (0, 0)) ∧ w2.heap[w.heap.size + 1]? = some (.cells zRq 35 (0, 0))) := later3 HV.out b2
  clear b2 HV
  have c3 : w2.cell? ⟨w.heap.size, 3, none⟩ = some (.slice ax0 ax1 ax2) := pk_at HV2.out.2.1 rfl
  have z3 : w2.cell? ⟨w.heap.size + 1, 3, none⟩ = some (.slice none 0 0) := pk_at HV2.out.2.2 rfl
  go_wp2_with fail
  refine (K3.out _ HV2.out.1).mono ?_
  rintro _ w3 ⟨rfl, b3⟩
  have HV3 : Hid (Below w.heap.size w w3 ∧ w3.heap[w.heap.size]? = some (.cells #[.int .i8 0, .string ⟨#[]⟩, .slice dx0 dx1 dx2, .slice ax0 ax1 ax2, .int .i32 0, .bool false, .bool true, .int .i64 ses, .int .i32 tmo, .slice wx0 wx1 wx2, .slice ox0 ox1 ox2] 35 (0, 0)) ∧ w3.heap[w.heap.size + 1]? = some (.cells zRq 35 (0, 0))) := later3 HV2.out b3
  clear b3 HV2
  clear c3 z3
  have c4 : w3.cell? ⟨w.heap.size, 4, none⟩ = some (.int .i32 0) := pk_at HV3.out.2.1 rfl
  have z4 : w3.cell? ⟨w.heap.size + 1, 4, none⟩ = some (.int .i32 0) := pk_at HV3.out.2.2 rfl
  have c5 : w3.cell? ⟨w.heap.size, 5, none⟩ = some (.bool false) := pk_at HV3.out.2.1 rfl
  have z5 : w3.cell? ⟨w.heap.size + 1, 5, none⟩ = some (.bool false) := pk_at HV3.out.2.2 rfl
  have c6 : w3.cell? ⟨w.heap.size, 6, none⟩ = some (.bool true) := pk_at HV3.out.2.1 rfl
  have z6 : w3.cell? ⟨w.heap.size + 1, 6, none⟩ = some (.bool false) := pk_at HV3.out.2.2 rfl
  go_wp2_with fail
  all_goals (go_ret; exact ⟨rfl, HV3.out.1⟩)

set_option maxHeartbeats 2000000 in
theorem s0_7 (dx0 : Option Addr) (dx1 dx2 : Nat) (ax0 : Option Addr) (ax1 ax2 : Nat) (ses : Int) (tmo : Int) (wx0 : Option Addr) (wx1 wx2 : Nat) (ox0 : Option Addr) (ox1 ox2 : Nat) (w : World) (H2 : ∀ W : World, Below w.heap.size w W → Calls Tryz.prog 121 #[.slice dx0 dx1 dx2, .slice none 0 0] W fun e w' => e = .returned (.bool true) ∧ Below W.heap.size W w') (H3 : ∀ W : World, Below w.heap.size w W → Calls Tryz.prog 122 #[.slice ax0 ax1 ax2, .slice none 0 0] W fun e w' => e = .returned (.bool true) ∧ Below W.heap.size W w') (h0 : (ses == 0) = false) :
    Calls Tryz.prog 73 #[.agg #[.int .i8 0, .string ⟨#[]⟩, .slice dx0 dx1 dx2, .slice ax0 ax1 ax2, .int .i32 0, .bool false, .bool false, .int .i64 ses, .int .i32 tmo, .slice wx0 wx1 wx2, .slice ox0 ox1 ox2], .agg zRq] w fun e w' => e = .returned (.bool false) ∧ Below w.heap.size w w' := by
  have K2 : Hid _ := H2
  have K3 : Hid _ := H3
  clear H2 H3
  obtain ⟨V, eV⟩ : ∃ V, V = (w.alloc (.cells #[.int .i8 0, .string ⟨#[]⟩, .slice dx0 dx1 dx2, .slice ax0 ax1 ax2, .int .i32 0, .bool false, .bool false, .int .i64 ses, .int .i32 tmo, .slice wx0 wx1 wx2, .slice ox0 ox1 ox2] 35)).alloc (.cells zRq 35) := ⟨_, rfl⟩
  have HV : Hid (Below w.heap.size w V ∧ V.heap[w.heap.size]? = some (.cells #[.int .i8 0, .string ⟨#[]⟩, .slice dx0 dx1 dx2, .slice ax0 ax1 ax2, .int .i32 0, .bool false, .bool false, .int .i64 ses, .int .i32 tmo, .slice wx0 wx1 wx2, .slice ox0 ox1 ox2] 35 (0, 0)) ∧ V.heap[w.heap.size + 1]? = some (.cells zRq 35 (0, 0))) := by
    subst eV
    exact ⟨two_alloc _ _ _, two_rows1 _ _ _, two_rows2 _ _ _⟩
  have HE : Hid _ := eV
  clear eV
  go_enter Tryz.func73, Tryz.ntmps73
  go_wp2_with fail
  rw [← HE.out]
  clear HE
  refine (K2.out _ HV.out.1).mono ?_
  rintro _ w2 ⟨rfl, b2⟩
  have HV2 : Hid (Below w.heap.size w w2 ∧ w2.heap[w.heap.size]? = some (.cells #[.int .i8 0, .string ⟨#[]⟩, .slice dx0 dx1 dx2, .slice ax0 ax1 ax2, .int .i32 0, .bool false, .bool false, .int .i64 ses, .int .i32 tmo, .slice wx0 wx1 wx2, .slice ox0 ox1 ox2] 35 (0, 0)) ∧ w2.heap[w.heap.size + 1]? = some (.cells zRq 35 (0, 0))) := later3 HV.out b2
  clear b2 HV
  have c3 : w2.cell? ⟨w.heap.size, 3, none⟩ = some (.slice ax0 ax1 ax2) := pk_at HV2.out.2.1 rfl
  have z3 : w2.cell? ⟨w.heap.size + 1, 3, none⟩ = some (.slice none 0 0) := pk_at HV2.out.2.2 rfl
  go_wp2_with fail
  refine (K3.out _ HV2.out.1).mono ?_
  rintro _ w3 ⟨rfl, b3⟩
  have HV3 : Hid (Below w.heap.size w w3 ∧ w3.heap[w.heap.size]? = some (.cells #[.int .i8 0, .string ⟨#[]⟩, .slice dx0 dx1 dx2, .slice ax0 ax1 ax2, .int .i32 0, .bool false, .bool false, .int .i64 ses, .int .i32 tmo, .slice wx0 wx1 wx2, .slice ox0 ox1 ox2] 35 (0, 0)) ∧ w3.heap[w.heap.size + 1]? = some (.cells zRq 35 (0, 0))) := later3 HV2.out b3
  clear b3 HV2
  clear c3 z3
  have c4 : w3.cell? ⟨w.heap.size, 4, none⟩ = some (.int .i32 0) := pk_at HV3.out.2.1 rfl
  have z4 : w3.cell? ⟨w.heap.size + 1, 4, none⟩ = some (.int .i32 0) := pk_at HV3.out.2.2 rfl
  have c5 : w3.cell? ⟨w.heap.size, 5, none⟩ = some (.bool false) := pk_at HV3.out.2.1 rfl
  have z5 : w3.cell? ⟨w.heap.size + 1, 5, none⟩ = some (.bool false) := pk_at HV3.out.2.2 rfl
  have c6 : w3.cell? ⟨w.heap.size, 6, none⟩ = some (.bool false) := pk_at HV3.out.2.1 rfl
  have z6 : w3.cell? ⟨w.heap.size + 1, 6, none⟩ = some (.bool false) := pk_at HV3.out.2.2 rfl
  have c7 : w3.cell? ⟨w.heap.size, 7, none⟩ = some (.int .i64 ses) := pk_at HV3.out.2.1 rfl
  have z7 : w3.cell? ⟨w.heap.size + 1, 7, none⟩ = some (.int .i64 0) := pk_at HV3.out.2.2 rfl
  go_wp2_with fail
  all_goals (go_ret; exact ⟨rfl, HV3.out.1⟩)

set_option maxHeartbeats 2000000 in
theorem s0_8 (dx0 : Option Addr) (dx1 dx2 : Nat) (ax0 : Option Addr) (ax1 ax2 : Nat) (tmo : Int) (wx0 : Option Addr) (wx1 wx2 : Nat) (ox0 : Option Addr) (ox1 ox2 : Nat) (w : World) (H2 : ∀ W : World, Below w.heap.size w W → Calls Tryz.prog 121 #[.slice dx0 dx1 dx2, .slice none 0 0] W fun e w' => e = .returned (.bool true) ∧ Below W.heap.size W w') (H3 : ∀ W : World, Below w.heap.size w W → Calls Tryz.prog 122 #[.slice ax0 ax1 ax2, .slice none 0 0] W fun e w' => e = .returned (.bool true) ∧ Below W.heap.size W w') (h0 : (tmo == 0) = false) :
    Calls Tryz.prog 73 #[.agg #[.int .i8 0, .string ⟨#[]⟩, .slice dx0 dx1 dx2, .slice ax0 ax1 ax2, .int .i32 0, .bool false, .bool false, .int .i64 0, .int .i32 tmo, .slice wx0 wx1 wx2, .slice ox0 ox1 ox2], .agg zRq] w fun e w' => e = .returned (.bool false) ∧ Below w.heap.size w w' := by
  have K2 : Hid _ := H2
  have K3 : Hid _ := H3
  clear H2 H3
  obtain ⟨V, eV⟩ : ∃ V, V = (w.alloc (.cells #[.int .i8 0, .string ⟨#[]⟩, .slice dx0 dx1 dx2, .slice ax0 ax1 ax2, .int .i32 0, .bool false, .bool false, .int .i64 0, .int .i32 tmo, .slice wx0 wx1 wx2, .slice ox0 ox1 ox2] 35)).alloc (.cells zRq 35) := ⟨_, rfl⟩
  have HV : Hid (Below w.heap.size w V ∧ V.heap[w.heap.size]? = some (.cells #[.int .i8 0, .string ⟨#[]⟩, .slice dx0 dx1 dx2, .slice ax0 ax1 ax2, .int .i32 0, .bool false, .bool false, .int .i64 0, .int .i32 tmo, .slice wx0 wx1 wx2, .slice ox0 ox1 ox2] 35 (0, 0)) ∧ V.heap[w.heap.size + 1]? = some (.cells zRq 35 (0, 0))) := by
    subst eV
    exact ⟨two_alloc _ _ _, two_rows1 _ _ _, two_rows2 _ _ _⟩
  have HE : Hid _ := eV
  clear eV
  go_enter Tryz.func73, Tryz.ntmps73
  go_wp2_with fail
  rw [← HE.out]
  clear HE
  refine (K2.out _ HV.out.1).mono ?_
  rintro _ w2 ⟨rfl, b2⟩
  have HV2 : Hid (Below w.heap.size w w2 ∧ w2.heap[w.heap.size]? = some (.cells #[.int .i8 0, .string ⟨#[]⟩, .slice dx0 dx1 dx2, .slice ax0 ax1 ax2, .int .i32 0, .bool false, .bool false, .int .i64 0, .int .i32 tmo, .slice wx0 wx1 wx2, .slice ox0 ox1 ox2] 35 (0, 0)) ∧ w2.heap[w.heap.size + 1]? = some (.cells zRq 35 (0, 0))) := later3 HV.out b2
  clear b2 HV
  have c3 : w2.cell? ⟨w.heap.size, 3, none⟩ = some (.slice ax0 ax1 ax2) := pk_at HV2.out.2.1 rfl
  have z3 : w2.cell? ⟨w.heap.size + 1, 3, none⟩ = some (.slice none 0 0) := pk_at HV2.out.2.2 rfl
  go_wp2_with fail
  refine (K3.out _ HV2.out.1).mono ?_
  rintro _ w3 ⟨rfl, b3⟩
  have HV3 : Hid (Below w.heap.size w w3 ∧ w3.heap[w.heap.size]? = some (.cells #[.int .i8 0, .string ⟨#[]⟩, .slice dx0 dx1 dx2, .slice ax0 ax1 ax2, .int .i32 0, .bool false, .bool false, .int .i64 0, .int .i32 tmo, .slice wx0 wx1 wx2, .slice ox0 ox1 ox2] 35 (0, 0)) ∧ w3.heap[w.heap.size + 1]? = some (.cells zRq 35 (0, 0))) := later3 HV2.out b3
  clear b3 HV2
  clear c3 z3
  have c4 : w3.cell? ⟨w.heap.size, 4, none⟩ = some (.int .i32 0) := pk_at HV3.out.2.1 rfl
  have z4 : w3.cell? ⟨w.heap.size + 1, 4, none⟩ = some (.int .i32 0) := pk_at HV3.out.2.2 rfl
  have c5 : w3.cell? ⟨w.heap.size, 5, none⟩ = some (.bool false) := pk_at HV3.out.2.1 rfl
  have z5 : w3.cell? ⟨w.heap.size + 1, 5, none⟩ = some (.bool false) := pk_at HV3.out.2.2 rfl
  have c6 : w3.cell? ⟨w.heap.size, 6, none⟩ = some (.bool false) := pk_at HV3.out.2.1 rfl
  have z6 : w3.cell? ⟨w.heap.size + 1, 6, none⟩ = some (.bool false) := pk_at HV3.out.2.2 rfl
  have c7 : w3.cell? ⟨w.heap.size, 7, none⟩ = some (.int .i64 0) := pk_at HV3.out.2.1 rfl
  have z7 : w3.cell? ⟨w.heap.size + 1, 7, none⟩ = some (.int .i64 0) := pk_at HV3.out.2.2 rfl
  have c8 : w3.cell? ⟨w.heap.size, 8, none⟩ = some (.int .i32 tmo) := pk_at HV3.out.2.1 rfl
  have z8 : w3.cell? ⟨w.heap.size + 1, 8, none⟩ = some (.int .i32 0) := pk_at HV3.out.2.2 rfl
  go_wp2_with fail
  all_goals (go_ret; exact ⟨rfl, HV3.out.1⟩)

set_option maxHeartbeats 2000000 in
theorem s0_9 (dx0 : Option Addr) (dx1 dx2 : Nat) (ax0 : Option Addr) (ax1 ax2 : Nat) (wx0 : Option Addr) (wx1 wx2 : Nat) (ox0 : Option Addr) (ox1 ox2 : Nat) (w : World) (H2 : ∀ W : World, Below w.heap.size w W → Calls Tryz.prog 121 #[.slice dx0 dx1 dx2, .slice none 0 0] W fun e w' => e = .returned (.bool true) ∧ Below W.heap.size W w') (H3 : ∀ W : World, Below w.heap.size w W → Calls Tryz.prog 122 #[.slice ax0 ax1 ax2, .slice none 0 0] W fun e w' => e = .returned (.bool true) ∧ Below W.heap.size W w') (H9 : ∀ W : World, Below w.heap.size w W → Calls Tryz.prog 123 #[.slice wx0 wx1 wx2, .slice none 0 0] W fun e w' => e = .returned (.bool false) ∧ Below W.heap.size W w') :
    Calls Tryz.prog 73 #[.agg #[.int .i8 0, .string ⟨#[]⟩, .slice dx0 dx1 dx2, .slice ax0 ax1 ax2, .int .i32 0, .bool false, .bool false, .int .i64 0, .int .i32 0, .slice wx0 wx1 wx2, .slice ox0 ox1 ox2], .agg zRq] w fun e w' => e = .returned (.bool false) ∧ Below w.heap.size w w' := by
  have K2 : Hid _ := H2
  have K3 : Hid _ := H3
  have K9 : Hid _ := H9
  clear H2 H3 H9
  obtain ⟨V, eV⟩ : ∃ V, V = (w.alloc (.cells #[.int .i8 0, .string ⟨#[]⟩, .slice dx0 dx1 dx2, .slice ax0 ax1 ax2, .int .i32 0, .bool false, .bool false, .int .i64 0, .int .i32 0, .slice wx0 wx1 wx2, .slice ox0 ox1 ox2] 35)).alloc (.cells zRq 35) := ⟨_, rfl⟩
  have HV : Hid (Below w.heap.size w V ∧ V.heap[w.heap.size]? = some (.cells #[.int .i8 0, .string ⟨#[]⟩, .slice dx0 dx1 dx2, .slice ax0 ax1 ax2, .int .i32 0, .bool false, .bool false, .int .i64 0, .int .i32 0, .slice wx0 wx1 wx2, .slice ox0 ox1 ox2] 35 (0, 0)) ∧ V.heap[w.heap.size + 1]? = some (.cells zRq 35 (0, 0))) := by
    subst eV
    exact ⟨two_alloc _ _ _, two_rows1 _ _ _, two_rows2 _ _ _⟩
  have HE : Hid _ := eV
  clear eV
  go_enter Tryz.func73, Tryz.ntmps73
  go_wp2_with fail
  rw [← HE.out]
  clear HE
  refine (K2.out _ HV.out.1).mono ?_
  rintro _ w2 ⟨rfl, b2⟩
  have HV2 : Hid (Below w.heap.size w w2 ∧ w2.heap[w.heap.size]? = some (.cells #[.int .i8 0, .string ⟨#[]⟩, .slice dx0 dx1 dx2, .slice ax0 ax1 ax2, .int .i32 0, .bool false, .bool false, .int .i64 0, .int .i32 0, .slice wx0 wx1 wx2, .slice ox0 ox1 ox2] 35 (0, 0)) ∧ w2.heap[w.heap.size + 1]? = some (.cells zRq 35 (0, 0))) := later3 HV.out b2
  clear b2 HV
  have c3 : w2.cell? ⟨w.heap.size, 3, none⟩ = some (.slice ax0 ax1 ax2) := pk_at HV2.out.2.1 rfl
  have z3 : w2.cell? ⟨w.heap.size + 1, 3, none⟩ = some (.slice none 0 0) := pk_at HV2.out.2.2 rfl
  go_wp2_with fail
  refine (K3.out _ HV2.out.1).mono ?_
  rintro _ w3 ⟨rfl, b3⟩
  have HV3 : Hid (Below w.heap.size w w3 ∧ w3.heap[w.heap.size]? = some (.cells #[.int .i8 0, .string ⟨#[]⟩, .slice dx0 dx1 dx2, .slice ax0 ax1 ax2, .int .i32 0, .bool false, .bool false, .int .i64 0, .int .i32 0, .slice wx0 wx1 wx2, .slice ox0 ox1 ox2] 35 (0, 0)) ∧ w3.heap[w.heap.size + 1]? = some (.cells zRq 35 (0, 0))) := later3 HV2.out b3
  clear b3 HV2
  clear c3 z3
  have c4 : w3.cell? ⟨w.heap.size, 4, none⟩ = some (.int .i32 0) := pk_at HV3.out.2.1 rfl
  have z4 : w3.cell? ⟨w.heap.size + 1, 4, none⟩ = some (.int .i32 0) := pk_at HV3.out.2.2 rfl
  have c5 : w3.cell? ⟨w.heap.size, 5, none⟩ = some (.bool false) := pk_at HV3.out.2.1 rfl
  have z5 : w3.cell? ⟨w.heap.size + 1, 5, none⟩ = some (.bool false) := pk_at HV3.out.2.2 rfl
  have c6 : w3.cell? ⟨w.heap.size, 6, none⟩ = some (.bool false) := pk_at HV3.out.2.1 rfl
  have z6 : w3.cell? ⟨w.heap.size + 1, 6, none⟩ = some (.bool false) := pk_at HV3.out.2.2 rfl
  have c7 : w3.cell? ⟨w.heap.size, 7, none⟩ = some (.int .i64 0) := pk_at HV3.out.2.1 rfl
  have z7 : w3.cell? ⟨w.heap.size + 1, 7, none⟩ = some (.int .i64 0) := pk_at HV3.out.2.2 rfl
  have c8 : w3.cell? ⟨w.heap.size, 8, none⟩ = some (.int .i32 0) := pk_at HV3.out.2.1 rfl
  have z8 : w3.cell? ⟨w.heap.size + 1, 8, none⟩ = some (.int .i32 0) := pk_at HV3.out.2.2 rfl
  have c9 : w3.cell? ⟨w.heap.size, 9, none⟩ = some (.slice wx0 wx1 wx2) := pk_at HV3.out.2.1 rfl
  have z9 : w3.cell? ⟨w.heap.size + 1, 9, none⟩ = some (.slice none 0 0) := pk_at HV3.out.2.2 rfl
  go_wp2_with fail
  refine (K9.out _ HV3.out.1).mono ?_
  rintro _ w9 ⟨rfl, b9⟩
  have HV9 : Hid (Below w.heap.size w w9 ∧ w9.heap[w.heap.size]? = some (.cells #[.int .i8 0, .string ⟨#[]⟩, .slice dx0 dx1 dx2, .slice ax0 ax1 ax2, .int .i32 0, .bool false, .bool false, .int .i64 0, .int .i32 0, .slice wx0 wx1 wx2, .slice ox0 ox1 ox2] 35 (0, 0)) ∧ w9.heap[w.heap.size + 1]? = some (.cells zRq 35 (0, 0))) := later3 HV3.out b9
  clear b9 HV3
  clear c4 z4 c5 z5 c6 z6 c7 z7 c8 z8 c9 z9
  go_wp2_with fail
  all_goals (go_ret; exact ⟨rfl, HV9.out.1⟩)

set_option maxHeartbeats 2000000 in
theorem s0_10 (dx0 : Option Addr) (dx1 dx2 : Nat) (ax0 : Option Addr) (ax1 ax2 : Nat) (wx0 : Option Addr) (wx1 wx2 : Nat) (ox0 : Option Addr) (ox1 ox2 : Nat) (w : World) (H2 : ∀ W : World, Below w.heap.size w W → Calls Tryz.prog 121 #[.slice dx0 dx1 dx2, .slice none 0 0] W fun e w' => e = .returned (.bool true) ∧ Below W.heap.size W w') (H3 : ∀ W : World, Below w.heap.size w W → Calls Tryz.prog 122 #[.slice ax0 ax1 ax2, .slice none 0 0] W fun e w' => e = .returned (.bool true) ∧ Below W.heap.size W w') (H9 : ∀ W : World, Below w.heap.size w W → Calls Tryz.prog 123 #[.slice wx0 wx1 wx2, .slice none 0 0] W fun e w' => e = .returned (.bool true) ∧ Below W.heap.size W w') (H10 : ∀ W : World, Below w.heap.size w W → Calls Tryz.prog 124 #[.slice ox0 ox1 ox2, .slice none 0 0, .func (.func 73) #[] #[]] W fun e w' => e = .returned (.bool false) ∧ Below W.heap.size W w') :
    Calls Tryz.prog 73 #[.agg #[.int .i8 0, .string ⟨#[]⟩, .slice dx0 dx1 dx2, .slice ax0 ax1 ax2, .int .i32 0, .bool false, .bool false, .int .i64 0, .int .i32 0, .slice wx0 wx1 wx2, .slice ox0 ox1 ox2], .agg zRq] w fun e w' => e = .returned (.bool false) ∧ Below w.heap.size w w' := by
  have K2 : Hid _ := H2
  have K3 : Hid _ := H3
  have K9 : Hid _ := H9
  have K10 : Hid _ := H10
  clear H2 H3 H9 H10
  obtain ⟨V, eV⟩ : ∃ V, V = (w.alloc (.cells #[.int .i8 0, .string ⟨#[]⟩, .slice dx0 dx1 dx2, .slice ax0 ax1 ax2, .int .i32 0, .bool false, .bool false, .int .i64 0, .int .i32 0, .slice wx0 wx1 wx2, .slice ox0 ox1 ox2] 35)).alloc (.cells zRq 35) := ⟨_, rfl⟩
  have HV : Hid (Below w.heap.size w V ∧ V.heap[w.heap.size]? = some (.cells #[.int .i8 0, .string ⟨#[]⟩, .slice dx0 dx1 dx2, .slice ax0 ax1 ax2, .int .i32 0, .bool false, .bool false, .int .i64 0, .int .i32 0, .slice wx0 wx1 wx2, .slice ox0 ox1 ox2] 35 (0, 0)) ∧ V.heap[w.heap.size + 1]? = some (.cells zRq 35 (0, 0))) := by
    subst eV
    exact ⟨two_alloc _ _ _, two_rows1 _ _ _, two_rows2 _ _ _⟩
  have HE : Hid _ := eV
  clear eV
  go_enter Tryz.func73, Tryz.ntmps73
  go_wp2_with fail
  rw [← HE.out]
  clear HE
  refine (K2.out _ HV.out.1).mono ?_
  rintro _ w2 ⟨rfl, b2⟩
  have HV2 : Hid (Below w.heap.size w w2 ∧ w2.heap[w.heap.size]? = some (.cells #[.int .i8 0, .string ⟨#[]⟩, .slice dx0 dx1 dx2, .slice ax0 ax1 ax2, .int .i32 0, .bool false, .bool false, .int .i64 0, .int .i32 0, .slice wx0 wx1 wx2, .slice ox0 ox1 ox2] 35 (0, 0)) ∧ w2.heap[w.heap.size + 1]? = some (.cells zRq 35 (0, 0))) := later3 HV.out b2
  clear b2 HV
  have c3 : w2.cell? ⟨w.heap.size, 3, none⟩ = some (.slice ax0 ax1 ax2) := pk_at HV2.out.2.1 rfl
  have z3 : w2.cell? ⟨w.heap.size + 1, 3, none⟩ = some (.slice none 0 0) := pk_at HV2.out.2.2 rfl
  go_wp2_with fail
  refine (K3.out _ HV2.out.1).mono ?_
  rintro _ w3 ⟨rfl, b3⟩
  have HV3 : Hid (Below w.heap.size w w3 ∧ w3.heap[w.heap.size]? = some (.cells #[.int .i8 0, .string ⟨#[]⟩, .slice dx0 dx1 dx2, .slice ax0 ax1 ax2, .int .i32 0, .bool false, .bool false, .int .i64 0, .int .i32 0, .slice wx0 wx1 wx2, .slice ox0 ox1 ox2] 35 (0, 0)) ∧ w3.heap[w.heap.size + 1]? = some (.cells zRq 35 (0, 0))) := later3 HV2.out b3
  clear b3 HV2
  clear c3 z3
  have c4 : w3.cell? ⟨w.heap.size, 4, none⟩ = some (.int .i32 0) := pk_at HV3.out.2.1 rfl
  have z4 : w3.cell? ⟨w.heap.size + 1, 4, none⟩ = some (.int .i32 0) := pk_at HV3.out.2.2 rfl
  have c5 : w3.cell? ⟨w.heap.size, 5, none⟩ = some (.bool false) := pk_at HV3.out.2.1 rfl
  have z5 : w3.cell? ⟨w.heap.size + 1, 5, none⟩ = some (.bool false) := pk_at HV3.out.2.2 rfl
  have c6 : w3.cell? ⟨w.heap.size, 6, none⟩ = some (.bool false) := pk_at HV3.out.2.1 rfl
  have z6 : w3.cell? ⟨w.heap.size + 1, 6, none⟩ = some (.bool false) := pk_at HV3.out.2.2 rfl
  have c7 : w3.cell? ⟨w.heap.size, 7, none⟩ = some (.int .i64 0) := pk_at HV3.out.2.1 rfl
  have z7 : w3.cell? ⟨w.heap.size + 1, 7, none⟩ = some (.int .i64 0) := pk_at HV3.out.2.2 rfl
  have c8 : w3.cell? ⟨w.heap.size, 8, none⟩ = some (.int .i32 0) := pk_at HV3.out.2.1 rfl
  have z8 : w3.cell? ⟨w.heap.size + 1, 8, none⟩ = some (.int .i32 0) := pk_at HV3.out.2.2 rfl
  have c9 : w3.cell? ⟨w.heap.size, 9, none⟩ = some (.slice wx0 wx1 wx2) := pk_at HV3.out.2.1 rfl
  have z9 : w3.cell? ⟨w.heap.size + 1, 9, none⟩ = some (.slice none 0 0) := pk_at HV3.out.2.2 rfl
  go_wp2_with fail
  refine (K9.out _ HV3.out.1).mono ?_
  rintro _ w9 ⟨rfl, b9⟩
  have HV9 : Hid (Below w.heap.size w w9 ∧ w9.heap[w.heap.size]? = some (.cells #[.int .i8 0, .string ⟨#[]⟩, .slice dx0 dx1 dx2, .slice ax0 ax1 ax2, .int .i32 0, .bool false, .bool false, .int .i64 0, .int .i32 0, .slice wx0 wx1 wx2, .slice ox0 ox1 ox2] 35 (0, 0)) ∧ w9.heap[w.heap.size + 1]? = some (.cells zRq 35 (0, 0))) := later3 HV3.out b9
  clear b9 HV3
  clear c4 z4 c5 z5 c6 z6 c7 z7 c8 z8 c9 z9
  have c10 : w9.cell? ⟨w.heap.size, 10, none⟩ = some (.slice ox0 ox1 ox2) := pk_at HV9.out.2.1 rfl
  have z10 : w9.cell? ⟨w.heap.size + 1, 10, none⟩ = some (.slice none 0 0) := pk_at HV9.out.2.2 rfl
  go_wp2_with fail
  refine (K10.out _ HV9.out.1).mono ?_
  rintro _ w10 ⟨rfl, b10⟩
  have HV10 : Hid (Below w.heap.size w w10 ∧ w10.heap[w.heap.size]? = some (.cells #[.int .i8 0, .string ⟨#[]⟩, .slice dx0 dx1 dx2, .slice ax0 ax1 ax2, .int .i32 0, .bool false, .bool false, .int .i64 0, .int .i32 0, .slice wx0 wx1 wx2, .slice ox0 ox1 ox2] 35 (0, 0)) ∧ w10.heap[w.heap.size + 1]? = some (.cells zRq 35 (0, 0))) := later3 HV9.out b10
  clear b10 HV9
  clear c10 z10
  go_wp2_with fail
  all_goals (go_ret; exact ⟨rfl, HV10.out.1⟩)
end Go.Proofs.YtldcbabgommghaaGreatDoor
