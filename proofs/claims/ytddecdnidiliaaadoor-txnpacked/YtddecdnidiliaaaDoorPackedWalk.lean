/- TxnPacked of the statements of layer 4, walked: true for all numbers. -/
import Derived.Test.YtddecdnidiliaaaDoorNumWalk
namespace Go.Proofs.YtddecdnidiliaaaDoor
open Go.RowKit
set_option maxRecDepth 8000

theorem zpack_ok (e n : Int) (h : e ≤ 2147483647) : zpack e n = (e * 4294967296 + n, 0) := by unfold zpack; rw [if_neg (by omega)]
theorem zpack_bad (e n : Int) (h : 2147483647 < e) : zpack e n = (0, 1) := by unfold zpack; rw [if_pos h]
theorem zunpack_back (e n : Int) (h0 : 0 ≤ e) (h1 : e ≤ 2147483647) (h2 : 0 ≤ n) (h3 : n ≤ 4294967295) : zunpack (e * 4294967296 + n) = (e, n, 0) := by
  unfold zunpack
  rw [if_neg (by omega)]
  have a : (e * 4294967296 + n) / 4294967296 = e := by omega
  have b : (e * 4294967296 + n) % 4294967296 = n := by omega
  rw [a, b]

theorem zcmp_lt (e n f m : Int) (n0 : 0 ≤ n) (n1 : n ≤ 4294967295) (m0 : 0 ≤ m) (m1 : m ≤ 4294967295) : decide (e * 4294967296 + n < f * 4294967296 + m) = decide (zcmp e n f m < 0) := by
  unfold zcmp
  congr 1
  apply propext
  split
  · simp; omega
  · split <;> (simp; omega)
theorem zcmp_eq (e n f m : Int) (n0 : 0 ≤ n) (n1 : n ≤ 4294967295) (m0 : 0 ≤ m) (m1 : m ≤ 4294967295) : (e * 4294967296 + n == f * 4294967296 + m) = (zcmp e n f m == 0) := by
  have : (e * 4294967296 + n = f * 4294967296 + m) ↔ zcmp e n f m = 0 := by
    unfold zcmp
    split
    · simp; omega
    · split <;> (simp; omega)
  rw [Bool.eq_iff_iff]
  simpa using this
theorem zcmp_neg (e n f m : Int) : zcmp e n f m = -zcmp f m e n := by
  unfold zcmp
  by_cases h1 : e < f ∨ (e = f ∧ n < m)
  · have h2 : ¬ (f < e ∨ (f = e ∧ m < n)) := by omega
    have h3 : ¬ (f = e ∧ m = n) := by omega
    rw [if_pos h1, if_neg h2, if_neg h3]
  · by_cases h2 : f < e ∨ (f = e ∧ m < n)
    · have h3 : ¬ (e = f ∧ n = m) := by omega
      rw [if_neg h1, if_neg h3, if_pos h2]
      rfl
    · have h3 : e = f ∧ n = m := by omega
      have h4 : f = e ∧ m = n := by omega
      rw [if_neg h1, if_pos h3, if_neg h2, if_pos h4]
      rfl
theorem zcmp_bd (e n f m : Int) : -1 ≤ zcmp e n f m ∧ zcmp e n f m ≤ 1 := by
  unfold zcmp; split
  · omega
  · split <;> omega

set_option maxHeartbeats 2000000 in
theorem packed_walk (e n f m : Int) (w : World) (hn : Nam w) (e0 : 0 ≤ e) (e1 : e ≤ 4294967295) (n0 : 0 ≤ n) (n1 : n ≤ 4294967295) (f0 : 0 ≤ f) (f1 : f ≤ 4294967295) (m0 : 0 ≤ m) (m1 : m ≤ 4294967295) :
    Calls Tryd.prog 4 #[zx e n, zx f m] w fun r w' => r = .returned (.bool true) ∧ Below w.heap.size w w' := by
  have hg : Tryd.prog.eqGuardType Tryd.prog.depth 24 = false := by kernel_rfl
  have hq := eqZx e n e n
  rw [decide_eq_true (⟨rfl, rfl⟩ : e = e ∧ n = n)] at hq
  obtain ⟨V, eV⟩ : ∃ V, V = (w.alloc (.cells #[.int .u32 e, .int .u32 n] 24)).alloc (.cells #[.int .u32 f, .int .u32 m] 24) := ⟨_, rfl⟩
  have HV : Hid (Below w.heap.size w V ∧ Nam V) := by subst eV; exact ⟨two_alloc _ _ _, hn.below (two_alloc _ _ _) hn.lt⟩
  have HC : Hid (∀ W, Below V.heap.size V W → W.cell? ⟨w.heap.size, 0, none⟩ = some (.int .u32 e) ∧ W.cell? ⟨w.heap.size, 1, none⟩ = some (.int .u32 n) ∧ W.cell? ⟨w.heap.size + 1, 0, none⟩ = some (.int .u32 f) ∧ W.cell? ⟨w.heap.size + 1, 1, none⟩ = some (.int .u32 m)) := by
    intro W hW
    subst eV
    have hx := zx_cells (w := w) (e := e) (n := n) (W := W) (below_step (below_thru (Below.refl _ _) (o := .cells #[.int .u32 f, .int .u32 m] 24)) hW)
    have hy := zx_cells (w := w.alloc (.cells #[.int .u32 e, .int .u32 n] 24)) hW
    exact ⟨hx.1, hx.2, by simpa using hy⟩
  have HE : Hid _ := eV
  clear eV hn
  go_enter Tryd.func4, Tryd.ntmps4
  go_wp2_with fail
  rw [← HE.out]
  refine (works4_any _ HV.out.2).mono ?_
  rintro r w1 ⟨rfl, b⟩
  have HB1 : Hid (Below V.heap.size V w1) := b
  obtain ⟨x0, x1, y0, y1⟩ := HC.out _ HB1.out
  clear b HE
  go_wp2_with fail
  refine (pack_any e n _ e0 e1 n0 n1).mono ?_
  rintro r w2 ⟨rfl, b⟩
  have HB2 : Hid (Below V.heap.size V w2) := below_step HB1.out b
  clear b HB1 x0 x1 y0 y1
  obtain ⟨x0, x1, y0, y1⟩ := HC.out _ HB2.out
  go_wp2_with fail
  refine (pack_any f m _ f0 f1 m0 m1).mono ?_
  rintro r w3 ⟨rfl, b⟩
  have HB3 : Hid (Below V.heap.size V w3) := below_step HB2.out b
  clear b HB2 x0 x1 y0 y1
  obtain ⟨x0, x1, y0, y1⟩ := HC.out _ HB3.out
  by_cases he : e ≤ 2147483647
  · by_cases hf : f ≤ 2147483647
    · rw [zpack_ok e n he, zpack_ok f m hf]
      go_wp2_with fail
      refine (unpack_any (e * 4294967296 + n) _ (by omega) (by omega)).mono ?_
      rintro r w4 ⟨rfl, b⟩
      rw [zunpack_back e n e0 he n0 n1]
      have HB4 : Hid (Below V.heap.size V w4) := below_step HB3.out b
      clear b HB3 x0 x1 y0 y1
      obtain ⟨U, eU⟩ : ∃ U, U = w4.alloc (.cells #[.int .u32 e, .int .u32 n] 24) := ⟨_, rfl⟩
      have HU : Hid (∀ W, Below U.heap.size U W → W.cell? ⟨w4.heap.size, 0, none⟩ = some (.int .u32 e) ∧ W.cell? ⟨w4.heap.size, 1, none⟩ = some (.int .u32 n)) := by subst eU; exact fun W h => zx_cells h
      have HVU : Hid (Below V.heap.size V U) := by subst eU; exact below_thru HB4.out
      have HE4 : Hid _ := eU
      obtain ⟨x0, x1, y0, y1⟩ := HC.out _ HVU.out
      rw [eU] at x0 x1 y0 y1
      clear eU HB4
      go_wp2_with fail
      rw [← HE4.out]
      clear x0 x1 y0 y1
      refine (compare_any e n f m _).mono ?_
      rintro r w5 ⟨rfl, b⟩
      have HB5 : Hid (Below U.heap.size U w5) := b
      clear b HE4
      obtain ⟨x0, x1, y0, y1⟩ := HC.out _ (below_step HVU.out HB5.out)
      go_wp2_with fail
      refine (compare_any f m e n _).mono ?_
      rintro r w6 ⟨rfl, b⟩
      have HB6 : Hid (Below U.heap.size U w6) := below_step HB5.out b
      clear b HB5 x0 x1 y0 y1
      obtain ⟨x0, x1, y0, y1⟩ := HC.out _ (below_step HVU.out HB6.out)
      obtain ⟨s0, s1⟩ := HU.out _ HB6.out
      have HF : Hid (Below w.heap.size w w6) := HV.out.1.trans ((below_step HVU.out HB6.out).mono HV.out.1.size)
      have hlt := zcmp_lt e n f m n0 n1 m0 m1
      have heq := zcmp_eq e n f m n0 n1 m0 m1
      have hneg := zcmp_neg e n f m
      have hbd := zcmp_bd e n f m
      have hbd' := zcmp_bd f m e n
      clear HB6 HVU
      generalize zcmp e n f m = c at *
      generalize zcmp f m e n = d at *
      generalize e * 4294967296 + n = p at *
      generalize f * 4294967296 + m = q at *
      subst hneg
      go_wp2
      all_goals (go_ret; exact ⟨rfl, HF.out⟩)
    · rw [zpack_bad f m (by omega), zpack_ok e n he]
      have HF : Hid (Below w.heap.size w w3) := HV.out.1.trans (HB3.out.mono HV.out.1.size)
      have hf' : decide (2147483647 < f) = true := by simp; omega
      clear HB3
      go_wp2
      all_goals (go_ret; exact ⟨rfl, HF.out⟩)
  · rw [zpack_bad e n (by omega)]
    have HF : Hid (Below w.heap.size w w3) := HV.out.1.trans (HB3.out.mono HV.out.1.size)
    have he' : decide (2147483647 < e) = true := by simp; omega
    clear HB3
    go_wp2
    all_goals (go_ret; exact ⟨rfl, HF.out⟩)
end Go.Proofs.YtddecdnidiliaaaDoor
