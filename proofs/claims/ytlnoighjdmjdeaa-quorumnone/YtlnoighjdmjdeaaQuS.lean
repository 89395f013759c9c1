/- The walk of QuorumNone. -/
import Derived.Test.YtlnoighjdmjdeaaQuR
namespace Go.Proofs.Ytlnoighjdmjdeaa
open Go.RowKit Go.Shelf
set_option maxRecDepth 8000

/-- A plain System, a plain Acks, and a zxid's box. -/
structure Nn (w W : World) (e m : Int) : Prop where
  bx : W.heap[w.heap.size]? = some (.cells #[.int .u32 e, .int .u32 m] 38 (0, 0))
  sy : W.heap[w.heap.size + 1]? = some (.cells #[.int .i64 0, .int .i64 0, .int .i64 0, .int .i64 0, .int .i64 0, .int .i64 0, .int .i64 0, .int .i64 0, .int .i64 0, .int .i64 0, .int .i64 0, .int .i64 0, .int .i64 0, .int .i64 0, .int .i64 0, .int .i64 0, .int .i64 0, .int .i64 0, .int .i64 0, .int .i64 0, .int .i64 0, .int .i64 0] 66 (0, 0))
  ac : W.heap[w.heap.size + 2]? = some (.cells #[.pointer none, .bool false, .int .u8 0, .int .u32 0, .int .u32 0, .int .u32 0, .int .u32 0, .int .u32 0, .int .u32 0, .int .u32 0, .int .u32 0, .int .u32 0, .int .u32 0, .int .u32 0, .int .u32 0, .int .u32 0, .int .u32 0] 41 (0, 0))
  be : Below w.heap.size w W
theorem Nn.later {w W W' : World} {e m : Int} (h : Nn w W e m) (hb : Below W.heap.size W W') : Nn w W' e m := ⟨keepH hb h.bx, keepH hb h.sy, keepH hb h.ac, h.be.trans (hb.mono h.be.size)⟩
theorem Nn.alloc {w W : World} {e m : Int} (h : Nn w W e m) (o : Obj) : Nn w (W.alloc o) e m := h.later (one_alloc W o)
theorem Nn.drew {w W : World} {e m : Int} (h : Nn w W e m) : Nn w W.drew e m := ⟨h.bx, h.sy, h.ac, h.be.drew⟩
theorem Nn.wh {w W : World} {e m : Int} (h : Nn w W e m) : Wh W (w.heap.size + 1) (fun _ => 0) :=
  ⟨cell_of_row _ _ 15 _ _ _ h.sy, cell_of_row _ _ 16 _ _ _ h.sy, cell_of_row _ _ 17 _ _ _ h.sy, cell_of_row _ _ 18 _ _ _ h.sy, cell_of_row _ _ 19 _ _ _ h.sy, cell_of_row _ _ 20 _ _ _ h.sy, cell_of_row _ _ 21 _ _ _ h.sy⟩
theorem Nn.sn {w W : World} {e m : Int} (h : Nn w W e m) : Calls Try.prog 31 #[.pointer (some ⟨w.heap.size + 1, 0, none⟩)] W fun e w' => e = .returned (.bool true) ∧ w' = W := isNone_zero h.wh
theorem Nn.an {w W : World} {e m : Int} (h : Nn w W e m) : Calls Try.prog 33 #[.pointer (some ⟨w.heap.size + 2, 0, none⟩)] W fun e w' => e = .returned (.bool true) ∧ w' = W := isNone_acBare (cell_of_row _ _ 1 _ _ _ h.ac)

theorem none_walk20 (v S e m : Int) (w : World) (h0 : -128 ≤ v) (h1 : v ≤ 127) :
    Calls Try.prog 7 #[.int .i8 v, .int .u8 S, zx e m] w fun r w' => r = .returned (.bool true) ∧ Below w.heap.size w w' := by
  have hq := eqZx 0 0 0 0
  obtain ⟨W, hW⟩ : ∃ W, W = ((w.alloc (.cells #[.int .u32 e, .int .u32 m] 38)).alloc (.cells #[.int .i64 0, .int .i64 0, .int .i64 0, .int .i64 0, .int .i64 0, .int .i64 0, .int .i64 0, .int .i64 0, .int .i64 0, .int .i64 0, .int .i64 0, .int .i64 0, .int .i64 0, .int .i64 0, .int .i64 0, .int .i64 0, .int .i64 0, .int .i64 0, .int .i64 0, .int .i64 0, .int .i64 0, .int .i64 0] 66)).alloc (.cells #[.pointer none, .bool false, .int .u8 0, .int .u32 0, .int .u32 0, .int .u32 0, .int .u32 0, .int .u32 0, .int .u32 0, .int .u32 0, .int .u32 0, .int .u32 0, .int .u32 0, .int .u32 0, .int .u32 0, .int .u32 0, .int .u32 0] 41) := ⟨_, rfl⟩
  have HN : Hid (Nn w W e m) := by
    rw [hW]
    refine ⟨?_, ?_, ?_, (((Below.refl _ w).alloc (Nat.le_refl _) _).alloc (by simp) _).alloc (by simp; omega) _⟩
    · rw [Below.heap_alloc _ _ _ (by simp; omega), Below.heap_alloc _ _ _ (by simp)]; exact heap_alloc_new _ _
    · rw [Below.heap_alloc _ _ _ (by simp)]; have := heap_alloc_new (w.alloc (.cells #[.int .u32 e, .int .u32 m] 38)) (.cells #[.int .i64 0, .int .i64 0, .int .i64 0, .int .i64 0, .int .i64 0, .int .i64 0, .int .i64 0, .int .i64 0, .int .i64 0, .int .i64 0, .int .i64 0, .int .i64 0, .int .i64 0, .int .i64 0, .int .i64 0, .int .i64 0, .int .i64 0, .int .i64 0, .int .i64 0, .int .i64 0, .int .i64 0, .int .i64 0] 66); rwa [World.size_alloc] at this
    · have := heap_alloc_new ((w.alloc (.cells #[.int .u32 e, .int .u32 m] 38)).alloc (.cells #[.int .i64 0, .int .i64 0, .int .i64 0, .int .i64 0, .int .i64 0, .int .i64 0, .int .i64 0, .int .i64 0, .int .i64 0, .int .i64 0, .int .i64 0, .int .i64 0, .int .i64 0, .int .i64 0, .int .i64 0, .int .i64 0, .int .i64 0, .int .i64 0, .int .i64 0, .int .i64 0, .int .i64 0, .int .i64 0] 66)) (.cells #[.pointer none, .bool false, .int .u8 0, .int .u32 0, .int .u32 0, .int .u32 0, .int .u32 0, .int .u32 0, .int .u32 0, .int .u32 0, .int .u32 0, .int .u32 0, .int .u32 0, .int .u32 0, .int .u32 0, .int .u32 0, .int .u32 0] 41); rwa [World.size_alloc, World.size_alloc] at this
  have HW : Hid (((w.alloc (.cells #[.int .u32 e, .int .u32 m] 38)).alloc (.cells #[.int .i64 0, .int .i64 0, .int .i64 0, .int .i64 0, .int .i64 0, .int .i64 0, .int .i64 0, .int .i64 0, .int .i64 0, .int .i64 0, .int .i64 0, .int .i64 0, .int .i64 0, .int .i64 0, .int .i64 0, .int .i64 0, .int .i64 0, .int .i64 0, .int .i64 0, .int .i64 0, .int .i64 0, .int .i64 0] 66)).alloc (.cells #[.pointer none, .bool false, .int .u8 0, .int .u32 0, .int .u32 0, .int .u32 0, .int .u32 0, .int .u32 0, .int .u32 0, .int .u32 0, .int .u32 0, .int .u32 0, .int .u32 0, .int .u32 0, .int .u32 0, .int .u32 0, .int .u32 0] 41) = W) := hW.symm
  clear hW
  go_enter Try.func7, Try.ntmps7
  go_upto_region 5 with fail
  rw [HW.out]
  clear HW
  have HC : Hid (Calls Try.prog 12 #[.pointer none] W fun r w' => r = .returned (.tuple #[.pointer none, .int .i64 1]) ∧ w' = W) := newAcks_nil W
  go_wp2_with fail
  refine Calls.mono HC.out ?_
  rintro r wx ⟨rfl, hwx⟩
  rw [hwx]
  clear hwx HC wx
  have HC : Hid (Calls Try.prog 12 #[.pointer (some ⟨w.heap.size + 1, 0, none⟩)] W fun r w' => r = .returned (.tuple #[.pointer none, .int .i64 1]) ∧ w' = W) := newAcks_zero HN.out.wh
  go_wp2_with fail
  refine Calls.mono HC.out ?_
  rintro r wx ⟨rfl, hwx⟩
  rw [hwx]
  clear hwx HC wx
  go_wp2_with fail
  go_at_call 11
  refine (lives20 _).mono ?_
  rintro r W1 ⟨rfl, hb1⟩
  have HN1 : Hid (Nn w W1 e m) := HN.out.later hb1
  clear hb1 HN
  have HC : Hid (Calls Try.prog 13 #[.pointer none] W1 fun r w' => r = .returned (.int .i64 0) ∧ w' = W1) := size_none (isNone_syNil W1)
  go_wp2_with fail
  refine Calls.mono HC.out ?_
  rintro r wx ⟨rfl, hwx⟩
  rw [hwx]
  clear hwx HC wx
  have HC : Hid (Calls Try.prog 13 #[.pointer (some ⟨w.heap.size + 1, 0, none⟩)] W1 fun r w' => r = .returned (.int .i64 0) ∧ w' = W1) := size_none HN1.out.sn
  go_wp2_with fail
  refine Calls.mono HC.out ?_
  rintro r wx ⟨rfl, hwx⟩
  rw [hwx]
  clear hwx HC wx
  have HC : Hid (Calls Try.prog 26 #[.pointer none, .int .i8 v] W1 fun r w' => r = .returned (.bool false) ∧ w' = W1) := counts_none (isNone_syNil W1) v h0 h1
  go_wp2_with fail
  refine Calls.mono HC.out ?_
  rintro r wx ⟨rfl, hwx⟩
  rw [hwx]
  clear hwx HC wx
  have HC : Hid (Calls Try.prog 26 #[.pointer (some ⟨w.heap.size + 1, 0, none⟩), .int .i8 v] W1 fun r w' => r = .returned (.bool false) ∧ w' = W1) := counts_none HN1.out.sn v h0 h1
  go_wp2_with fail
  refine Calls.mono HC.out ?_
  rintro r wx ⟨rfl, hwx⟩
  rw [hwx]
  clear hwx HC wx
  have HC : Hid (Calls Try.prog 22 #[.pointer none, .int .u8 S] W1 fun r w' => r = .returned (.bool false) ∧ w' = W1) := hasN_none (isNone_syNil W1) S
  go_wp2_with fail
  refine Calls.mono HC.out ?_
  rintro r wx ⟨rfl, hwx⟩
  rw [hwx]
  clear hwx HC wx
  have HC : Hid (Calls Try.prog 22 #[.pointer (some ⟨w.heap.size + 1, 0, none⟩), .int .u8 S] W1 fun r w' => r = .returned (.bool false) ∧ w' = W1) := hasN_none HN1.out.sn S
  go_wp2_with fail
  refine Calls.mono HC.out ?_
  rintro r wx ⟨rfl, hwx⟩
  rw [hwx]
  clear hwx HC wx
  have HC : Hid (Calls Try.prog 24 #[.pointer none, .int .u8 S] W1 fun r w' => r = .returned (.bool false) ∧ w' = W1) := least_none (isNone_syNil W1) S
  go_wp2_with fail
  refine Calls.mono HC.out ?_
  rintro r wx ⟨rfl, hwx⟩
  rw [hwx]
  clear hwx HC wx
  have HC : Hid (Calls Try.prog 24 #[.pointer (some ⟨w.heap.size + 1, 0, none⟩), .int .u8 S] W1 fun r w' => r = .returned (.bool false) ∧ w' = W1) := least_none HN1.out.sn S
  go_wp2_with fail
  refine Calls.mono HC.out ?_
  rintro r wx ⟨rfl, hwx⟩
  rw [hwx]
  clear hwx HC wx
  have x0 := cell_of_row _ _ 0 _ _ _ HN1.out.bx
  have x1 := cell_of_row _ _ 1 _ _ _ HN1.out.bx
  have HC : Hid (Calls Try.prog 20 #[.pointer none, .int .i8 v, zx e m] W1 fun r w' => r = .returned (.int .i64 1) ∧ Below W1.heap.size W1 w') := put_none v e m (isNone_acNil _)
  go_wp2_with fail
  refine Calls.mono HC.out ?_
  rintro r W2 ⟨rfl, hb⟩
  have HN2 : Hid (Nn w W2 e m) := HN1.out.later hb
  clear hb HC
  have x2 := cell_of_row _ _ 0 _ _ _ HN2.out.bx
  have x3 := cell_of_row _ _ 1 _ _ _ HN2.out.bx
  clear x0 x1
  have HC : Hid (Calls Try.prog 20 #[.pointer (some ⟨w.heap.size + 2, 0, none⟩), .int .i8 v, zx e m] W2 fun r w' => r = .returned (.int .i64 1) ∧ Below W2.heap.size W2 w') := put_none v e m (HN2.out.alloc _).an
  go_wp2_with fail
  refine Calls.mono HC.out ?_
  rintro r W3 ⟨rfl, hb⟩
  have HN3 : Hid (Nn w W3 e m) := HN2.out.later hb
  clear hb HC
  clear x2 x3
  have HC : Hid (Calls Try.prog 18 #[.pointer none, .int .i8 v] W3 fun r w' => r = .returned (.tuple #[zx 0 0, .bool false]) ∧ Below W3.heap.size W3 w') := of_none v (isNone_acNil _)
  go_wp2_with fail
  refine Calls.mono HC.out ?_
  rintro r W4 ⟨rfl, hb⟩
  have HN4 : Hid (Nn w W4 e m) := HN3.out.later hb
  clear hb HC
  have Hu : Hid ((W4.alloc (.cells #[.int .u32 0, .int .u32 0] 38)).heap[W4.heap.size]? = some (.cells #[.int .u32 0, .int .u32 0] 38 (0, 0))) := heap_alloc_new _ _
  obtain ⟨bu, hbu⟩ : ∃ b, b = W4.heap.size := ⟨_, rfl⟩
  obtain ⟨W5, hW5⟩ : ∃ X, X = W4.alloc (.cells #[.int .u32 0, .int .u32 0] 38) := ⟨_, rfl⟩
  have HN5 : Hid (Nn w W5 e m) := by rw [hW5]; exact HN4.out.alloc _
  rw [← hbu, ← hW5] at Hu
  have HE : Hid (W4.alloc (.cells #[.int .u32 0, .int .u32 0] 38) = W5 ∧ W4.heap.size = bu) := ⟨hW5.symm, hbu.symm⟩
  clear hbu hW5
  go_upto_region 14 with fail
  rw [HE.out.1, HE.out.2]
  clear HE
  have hu := Hu.out
  clear Hu
  have HC : Hid (Calls Try.prog 18 #[.pointer (some ⟨w.heap.size + 2, 0, none⟩), .int .i8 v] W5 fun r w' => r = .returned (.tuple #[zx 0 0, .bool false]) ∧ Below W5.heap.size W5 w') := of_none v ((HN5.out.alloc _).drew).an
  go_wp2_with fail
  refine Calls.mono HC.out ?_
  rintro r W6 ⟨rfl, hb⟩
  have HN6 : Hid (Nn w W6 e m) := HN5.out.later hb
  have hu' := keepH hb hu
  clear hu
  have hu := hu'
  clear hu'
  clear hb HC
  have Hv : Hid ((W6.alloc (.cells #[.int .u32 0, .int .u32 0] 38)).heap[W6.heap.size]? = some (.cells #[.int .u32 0, .int .u32 0] 38 (0, 0))) := heap_alloc_new _ _
  obtain ⟨bv, hbv⟩ : ∃ b, b = W6.heap.size := ⟨_, rfl⟩
  obtain ⟨W7, hW7⟩ : ∃ X, X = W6.alloc (.cells #[.int .u32 0, .int .u32 0] 38) := ⟨_, rfl⟩
  have HN7 : Hid (Nn w W7 e m) := by rw [hW7]; exact HN6.out.alloc _
  have hu' := keepH (show Below W6.heap.size W6 W7 by rw [hW7]; exact one_alloc _ _) hu
  clear hu
  have hu := hu'
  clear hu'
  rw [← hbv, ← hW7] at Hv
  have HE : Hid (W6.alloc (.cells #[.int .u32 0, .int .u32 0] 38) = W7 ∧ W6.heap.size = bv) := ⟨hW7.symm, hbv.symm⟩
  clear hbv hW7
  go_upto_region 15 with fail
  rw [HE.out.1, HE.out.2]
  clear HE
  have hv := Hv.out
  clear Hv
  have HC : Hid (Calls Try.prog 16 #[.pointer none] W7 fun r w' => r = .returned (.tuple #[zx 0 0, .bool false]) ∧ Below W7.heap.size W7 w') := com_none (isNone_acNil _)
  go_wp2_with fail
  refine Calls.mono HC.out ?_
  rintro r W8 ⟨rfl, hb⟩
  have HN8 : Hid (Nn w W8 e m) := HN7.out.later hb
  have hu' := keepH hb hu
  have hv' := keepH hb hv
  clear hu
  have hu := hu'
  clear hu'
  clear hv
  have hv := hv'
  clear hv'
  clear hb HC
  have Hm : Hid ((W8.alloc (.cells #[.int .u32 0, .int .u32 0] 38)).heap[W8.heap.size]? = some (.cells #[.int .u32 0, .int .u32 0] 38 (0, 0))) := heap_alloc_new _ _
  obtain ⟨bm, hbm⟩ : ∃ b, b = W8.heap.size := ⟨_, rfl⟩
  obtain ⟨W9, hW9⟩ : ∃ X, X = W8.alloc (.cells #[.int .u32 0, .int .u32 0] 38) := ⟨_, rfl⟩
  have HN9 : Hid (Nn w W9 e m) := by rw [hW9]; exact HN8.out.alloc _
  have hu' := keepH (show Below W8.heap.size W8 W9 by rw [hW9]; exact one_alloc _ _) hu
  have hv' := keepH (show Below W8.heap.size W8 W9 by rw [hW9]; exact one_alloc _ _) hv
  clear hu
  have hu := hu'
  clear hu'
  clear hv
  have hv := hv'
  clear hv'
  rw [← hbm, ← hW9] at Hm
  have HE : Hid (W8.alloc (.cells #[.int .u32 0, .int .u32 0] 38) = W9 ∧ W8.heap.size = bm) := ⟨hW9.symm, hbm.symm⟩
  clear hbm hW9
  go_upto_region 16 with fail
  rw [HE.out.1, HE.out.2]
  clear HE
  have hm := Hm.out
  clear Hm
  have HC : Hid (Calls Try.prog 16 #[.pointer (some ⟨w.heap.size + 2, 0, none⟩)] W9 fun r w' => r = .returned (.tuple #[zx 0 0, .bool false]) ∧ Below W9.heap.size W9 w') := com_none (HN9.out.alloc _).an
  go_wp2_with fail
  refine Calls.mono HC.out ?_
  rintro r W10 ⟨rfl, hb⟩
  have HN10 : Hid (Nn w W10 e m) := HN9.out.later hb
  have hu' := keepH hb hu
  have hv' := keepH hb hv
  have hm' := keepH hb hm
  clear hu
  have hu := hu'
  clear hu'
  clear hv
  have hv := hv'
  clear hv'
  clear hm
  have hm := hm'
  clear hm'
  clear hb HC
  have Hn : Hid ((W10.alloc (.cells #[.int .u32 0, .int .u32 0] 38)).heap[W10.heap.size]? = some (.cells #[.int .u32 0, .int .u32 0] 38 (0, 0))) := heap_alloc_new _ _
  obtain ⟨bn, hbn⟩ : ∃ b, b = W10.heap.size := ⟨_, rfl⟩
  obtain ⟨W11, hW11⟩ : ∃ X, X = W10.alloc (.cells #[.int .u32 0, .int .u32 0] 38) := ⟨_, rfl⟩
  have HN11 : Hid (Nn w W11 e m) := by rw [hW11]; exact HN10.out.alloc _
  have hu' := keepH (show Below W10.heap.size W10 W11 by rw [hW11]; exact one_alloc _ _) hu
  have hv' := keepH (show Below W10.heap.size W10 W11 by rw [hW11]; exact one_alloc _ _) hv
  have hm' := keepH (show Below W10.heap.size W10 W11 by rw [hW11]; exact one_alloc _ _) hm
  clear hu
  have hu := hu'
  clear hu'
  clear hv
  have hv := hv'
  clear hv'
  clear hm
  have hm := hm'
  clear hm'
  rw [← hbn, ← hW11] at Hn
  have HE : Hid (W10.alloc (.cells #[.int .u32 0, .int .u32 0] 38) = W11 ∧ W10.heap.size = bn) := ⟨hW11.symm, hbn.symm⟩
  clear hbn hW11
  go_upto_region 17 with fail
  rw [HE.out.1, HE.out.2]
  clear HE
  have hn := Hn.out
  clear Hn
  have HB : Hid (Below w.heap.size w (W11.alloc (.cells #[.int .u32 0, .int .u32 0] 38))) := (HN11.out.alloc _).be
  have yu0 := cell_of_row _ _ 0 _ _ _ hu
  have yu1 := cell_of_row _ _ 1 _ _ _ hu
  have yv0 := cell_of_row _ _ 0 _ _ _ hv
  have yv1 := cell_of_row _ _ 1 _ _ _ hv
  have ym0 := cell_of_row _ _ 0 _ _ _ hm
  have ym1 := cell_of_row _ _ 1 _ _ _ hm
  have yn0 := cell_of_row _ _ 0 _ _ _ hn
  have yn1 := cell_of_row _ _ 1 _ _ _ hn
  have zu := lt_of_block hu
  clear hu
  have zv := lt_of_block hv
  clear hv
  have zm := lt_of_block hm
  clear hm
  have zn := lt_of_block hn
  clear hn
  go_wp2
  all_goals (go_ret; exact ⟨rfl, HB.out⟩)

theorem none_row20 (v S e m : Int) (w : World) (h0 : -128 ≤ v ∧ v ≤ 127) (_ : 0 ≤ S ∧ S ≤ 255) (_ : (0 ≤ e ∧ e ≤ 4294967295) ∧ 0 ≤ m ∧ m ≤ 4294967295) :
    Calls Try.prog 7 #[.int .i8 v, .int .u8 S, .agg [.int .u32 e, .int .u32 m].toArray] w fun r w' => r = .returned (.bool true) ∧ Below w.heap.size w w' := none_walk20 v S e m w h0.1 h0.2

end Go.Proofs.Ytlnoighjdmjdeaa
