/- TxnNumbers of the statements of layer 4, walked: true for all numbers. -/
import Derived.Test.YtddecdnidiliaaaDoorWorks4
namespace Go.Proofs.YtddecdnidiliaaaDoor
open Go.RowKit
set_option maxRecDepth 8000

/-- A zxid's two cells in a new variable, later on. -/
theorem zx_cells {w : World} {e n : Int} {W : World} (hb : Below (w.alloc (.cells #[.int .u32 e, .int .u32 n] 24)).heap.size (w.alloc (.cells #[.int .u32 e, .int .u32 n] 24)) W) :
    W.cell? ⟨w.heap.size, 0, none⟩ = some (.int .u32 e) ∧ W.cell? ⟨w.heap.size, 1, none⟩ = some (.int .u32 n) := by
  constructor <;> (refine cell_later ?_ hb (Nat.le_refl _); rw [cell_of_row _ _ _ _ _ _ (heap_alloc_new _ _)]; rfl)

theorem below_thru {V A : World} {o : Obj} (h : Below V.heap.size V A) : Below V.heap.size V (A.alloc o) := h.alloc h.size o
theorem below_step {V A W : World} (h : Below V.heap.size V A) (k : Below A.heap.size A W) : Below V.heap.size V W := h.trans (k.mono h.size)

set_option maxHeartbeats 2000000 in
theorem numbers_walk (e n f m k : Int) (w : World) (hn : Nam w) (e0 : 0 ≤ e) (e1 : e ≤ 4294967295) (n0 : 0 ≤ n) (n1 : n ≤ 4294967295) (m0 : 0 ≤ m) (m1 : m ≤ 4294967295) (k0 : -9223372036854775808 ≤ k) (k1 : k ≤ 9223372036854775807) :
    Calls Tryd.prog 3 #[zx e n, zx f m, .int .i64 k] w fun r w' => r = .returned (.bool true) ∧ Below w.heap.size w w' := by
  have hg : Tryd.prog.eqGuardType Tryd.prog.depth 24 = false := by kernel_rfl
  have hq : ∀ a b, ∀ W : World, (binOp .eql 24 (.agg #[.int .u32 a, .int .u32 b]) (.agg #[.int .u32 a, .int .u32 b])).run Tryd.prog W = .ok (.bool true) W := fun a b W => by rw [eqZx a b a b W, decide_eq_true (⟨rfl, rfl⟩ : a = a ∧ b = b)]
  obtain ⟨V, eV⟩ : ∃ V, V = (w.alloc (.cells #[.int .u32 e, .int .u32 n] 24)).alloc (.cells #[.int .u32 f, .int .u32 m] 24) := ⟨_, rfl⟩
  have HV : Hid (Below w.heap.size w V ∧ Nam V) := by subst eV; exact ⟨two_alloc _ _ _, hn.below (two_alloc _ _ _) hn.lt⟩
  have HC : Hid (∀ W, Below V.heap.size V W → W.cell? ⟨w.heap.size, 0, none⟩ = some (.int .u32 e) ∧ W.cell? ⟨w.heap.size, 1, none⟩ = some (.int .u32 n) ∧ W.cell? ⟨w.heap.size + 1, 0, none⟩ = some (.int .u32 f) ∧ W.cell? ⟨w.heap.size + 1, 1, none⟩ = some (.int .u32 m)) := by
    intro W hW
    subst eV
    have hx := zx_cells (w := w) (e := e) (n := n) (W := W) (below_step (below_thru (Below.refl _ _) (o := .cells #[.int .u32 f, .int .u32 m] 24)) hW)
    have hy := zx_cells (w := w.alloc (.cells #[.int .u32 e, .int .u32 n] 24)) hW
    exact ⟨hx.1, hx.2, by simpa using hy⟩
  have HE : Hid _ := eV
  clear eV hn
  go_enter Tryd.func3, Tryd.ntmps3
  go_wp2_with fail
  rw [← HE.out]
  refine (works4_any _ HV.out.2).mono ?_
  rintro r w1 ⟨rfl, b⟩
  have HB1 : Hid (Below V.heap.size V w1) := b
  obtain ⟨x0, x1, y0, y1⟩ := HC.out _ HB1.out
  clear b HE
  go_wp2_with fail
  refine (compare_any e n f m _).mono ?_
  rintro r w2 ⟨rfl, b⟩
  have HB2 : Hid (Below V.heap.size V w2) := below_step HB1.out b
  clear b HB1 x0 x1 y0 y1
  obtain ⟨x0, x1, y0, y1⟩ := HC.out _ HB2.out
  go_wp2_with fail
  refine (pack_any e n _ e0 e1 n0 n1).mono ?_
  rintro r w3 ⟨rfl, b⟩
  have HB3 : Hid (Below V.heap.size V w3) := below_step HB2.out b
  clear b HB2 x0 x1 y0 y1
  obtain ⟨x0, x1, y0, y1⟩ := HC.out _ HB3.out
  go_wp2_with fail
  refine (unpack_any k _ k0 k1).mono ?_
  rintro r w4 ⟨rfl, b⟩
  have HB4 : Hid (Below V.heap.size V w4) := below_step HB3.out b
  clear b HB3 x0 x1 y0 y1
  obtain ⟨U, eU⟩ : ∃ U, U = w4.alloc (.cells #[.int .u32 (zunpack k).1, .int .u32 (zunpack k).2.1] 24) := ⟨_, rfl⟩
  have HU : Hid (∀ W, Below U.heap.size U W → W.cell? ⟨w4.heap.size, 0, none⟩ = some (.int .u32 (zunpack k).1) ∧ W.cell? ⟨w4.heap.size, 1, none⟩ = some (.int .u32 (zunpack k).2.1)) := by subst eU; exact fun W h => zx_cells h
  have HVU : Hid (Below V.heap.size V U) := by subst eU; exact below_thru HB4.out
  have HE4 : Hid _ := eU
  obtain ⟨x0, x1, y0, y1⟩ := HC.out _ HVU.out
  rw [eU] at x0 x1 y0 y1
  clear eU HB4
  go_wp2_with fail
  rw [← HE4.out]
  clear x0 x1 y0 y1
  refine (next_any e n m _ e0 e1 n0 n1 m0 m1).mono ?_
  rintro r w5 ⟨rfl, b⟩
  have HB5 : Hid (Below U.heap.size U w5) := b
  clear b HE4
  obtain ⟨Z, eZ⟩ : ∃ Z, Z = w5.alloc (.cells #[.int .u32 (znext e n m).1, .int .u32 (znext e n m).2.1] 24) := ⟨_, rfl⟩
  have HZ : Hid (∀ W, Below Z.heap.size Z W → W.cell? ⟨w5.heap.size, 0, none⟩ = some (.int .u32 (znext e n m).1) ∧ W.cell? ⟨w5.heap.size, 1, none⟩ = some (.int .u32 (znext e n m).2.1)) := by subst eZ; exact fun W h => zx_cells h
  have HUZ : Hid (Below U.heap.size U Z) := by subst eZ; exact below_thru HB5.out
  have HE5 : Hid _ := eZ
  obtain ⟨x0, x1, y0, y1⟩ := HC.out _ (below_step HVU.out HUZ.out)
  rw [eZ] at x0 x1 y0 y1
  clear eZ HB5
  go_wp2_with fail
  rw [← HE5.out]
  clear x0 x1 y0 y1
  refine (refPack_any e n _ e0 e1 n0 n1).mono ?_
  rintro r w6 ⟨rfl, b⟩
  have HB6 : Hid (Below Z.heap.size Z w6) := b
  clear b HE5
  go_wp2_with fail
  refine (refUnpack_any k _ k0 k1).mono ?_
  rintro r w7 ⟨rfl, b⟩
  have HB7 : Hid (Below Z.heap.size Z w7) := below_step HB6.out b
  clear b HB6
  obtain ⟨Y, eY⟩ : ∃ Y, Y = w7.alloc (.cells #[.int .u32 (zunpack k).1, .int .u32 (zunpack k).2.1] 24) := ⟨_, rfl⟩
  have HY : Hid (∀ W, Below Y.heap.size Y W → W.cell? ⟨w7.heap.size, 0, none⟩ = some (.int .u32 (zunpack k).1) ∧ W.cell? ⟨w7.heap.size, 1, none⟩ = some (.int .u32 (zunpack k).2.1)) := by subst eY; exact fun W h => zx_cells h
  have HZY : Hid (Below Z.heap.size Z Y) := by subst eY; exact below_thru HB7.out
  have HE7 : Hid _ := eY
  obtain ⟨x0, x1, y0, y1⟩ := HC.out _ (below_step HVU.out (below_step HUZ.out HZY.out))
  rw [eY] at x0 x1 y0 y1
  clear eY HB7
  go_wp2_with fail
  rw [← HE7.out]
  clear x0 x1 y0 y1
  refine (refNext_any e n m _ e0 e1 n0 n1 m0 m1).mono ?_
  rintro r w8 ⟨rfl, b⟩
  have HB8 : Hid (Below Y.heap.size Y w8) := b
  clear b HE7
  obtain ⟨X, eX⟩ : ∃ X, X = w8.alloc (.cells #[.int .u32 (znext e n m).1, .int .u32 (znext e n m).2.1] 24) := ⟨_, rfl⟩
  have HX : Hid (∀ W, Below X.heap.size X W → W.cell? ⟨w8.heap.size, 0, none⟩ = some (.int .u32 (znext e n m).1) ∧ W.cell? ⟨w8.heap.size, 1, none⟩ = some (.int .u32 (znext e n m).2.1)) := by subst eX; exact fun W h => zx_cells h
  have HYX : Hid (Below Y.heap.size Y X) := by subst eX; exact below_thru HB8.out
  have HE8 : Hid _ := eX
  obtain ⟨x0, x1, y0, y1⟩ := HC.out _ (below_step HVU.out (below_step HUZ.out (below_step HZY.out HYX.out)))
  rw [eX] at x0 x1 y0 y1
  clear eX HB8
  go_wp2_with fail
  rw [← HE8.out]
  clear x0 x1 y0 y1
  refine (refCompare_any e n f m _).mono ?_
  rintro r w9 ⟨rfl, b⟩
  have HB9 : Hid (Below X.heap.size X w9) := b
  obtain ⟨p0, p1⟩ := HX.out _ HB9.out
  obtain ⟨q0, q1⟩ := HY.out _ (below_step HYX.out HB9.out)
  obtain ⟨r0, r1⟩ := HZ.out _ (below_step HZY.out (below_step HYX.out HB9.out))
  obtain ⟨s0, s1⟩ := HU.out _ (below_step HUZ.out (below_step HZY.out (below_step HYX.out HB9.out)))
  have HF : Hid (Below w.heap.size w w9) := HV.out.1.trans ((below_step HVU.out (below_step HUZ.out (below_step HZY.out (below_step HYX.out HB9.out)))).mono HV.out.1.size)
  clear b HE8 HB9
  generalize (zunpack k).1 = a1 at *
  generalize (zunpack k).2.1 = a2 at *
  generalize (zunpack k).2.2 = a3 at *
  generalize (znext e n m).1 = b1 at *
  generalize (znext e n m).2.1 = b2 at *
  generalize (znext e n m).2.2 = b3 at *
  generalize (zpack e n).1 = d1 at *
  generalize (zpack e n).2 = d2 at *
  generalize zcmp e n f m = cc at *
  have hq1 := hq a1 a2
  have hq2 := hq b1 b2
  clear hq
  go_wp2
  go_ret
  exact ⟨rfl, HF.out⟩
end Go.Proofs.YtddecdnidiliaaaDoor
