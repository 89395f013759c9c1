/- ChooseMore of the statements of layer 14, walked: true for all that came in. -/
import Derived.Test.YtdodjefeahpafaaDoorChFJ
import Derived.Test.YtdodjefeahpafaaDoorChSJ
namespace Go.Proofs.YtdodjefeahpafaaDoor
open Go.RowKit
set_option maxRecDepth 8000

/-- The case in its place, nothing older changed. -/
structure MoR (w W : World) (row : Array Value) : Prop where
  bel : Below w.heap.size w W
  row : W.heap[w.heap.size]? = some (.cells row 54 (0, 0))

theorem MoR.later {w W W' : World} {row : Array Value} (h : MoR w W row) (hb : Below W.heap.size W W') : MoR w W' row :=
  ⟨h.bel.trans (hb.mono h.bel.size), (Below.kept hb).heap h.row (by have := lt_of_block h.row; omega)⟩

theorem storeM (P : Program) (w : World) (a : Addr) (m : Mode) (k : FloatKind) (b : Nat) : (store a (.float k b) m).run P w = stored P w a (.float k b) m := run_store P w a _ m rfl

set_option maxHeartbeats 1000000 in
theorem more_walk (pe pn se sn : Int) (v : Value) (l : List TxD) (ca im : Int) (x : Nat) (ca2 im2 : Int) (w : World) (hn : Nam w) (h : SeesTxs w v l) (hg : ∀ t ∈ l, t.good) (hx : x < 18446744073709551616) (him : im2 ≤ 9223372036854775807) :
    Calls Tryd.prog 4 #[.agg (caseA pe pn se sn v ca im x), .int .i64 ca2, .int .i64 im2] w fun r w' => r = .returned (.bool true) ∧ Below w.heap.size w w' := by
  obtain ⟨ao, cap, rfl, hlc, hcm⟩ := txs_shape h
  unfold maxLen at hcm
  have H : Hid (SeesTxs w (.slice ao l.length cap) l ∧ (∀ t ∈ l, t.good) ∧ Nam w) := ⟨h, hg, hn⟩
  clear h hg hn
  go_enter Tryd.func4, Tryd.ntmps4
  go_wp2_with fail
  have hb0 := one_alloc w (.cells (caseA pe pn se sn (.slice ao l.length cap) ca im x) 54)
  refine (largeTxns_any _ l _ (H.out.1.below hb0 (Nat.le_refl _)) H.out.2.1).mono ?_
  rintro _ w1 ⟨bl, rfl, hbl, b1⟩
  have r1 := (Below.kept b1).heap (heap_alloc_new w (.cells (caseA pe pn se sn (.slice ao l.length cap) ca im x) 54)) (by simp)
  have H1 : Hid (MoR w w1 (caseA pe pn se sn (.slice ao l.length cap) ca im x)) := ⟨hb0.trans (b1.mono hb0.size), r1⟩
  clear hb0 b1 r1
  cases bl
  · have HL : Hid (l.length ≤ 1000000) := (hbl rfl).1
    clear hbl
    have hl := HL.out
    go_wp2_with fail
    refine (lives14_any _ (H.out.2.2.below H1.out.bel H.out.2.2.lt)).mono ?_
    rintro _ w2 ⟨rfl, b2⟩
    have H2 : Hid (MoR w w2 (caseA pe pn se sn (.slice ao l.length cap) ca im x)) := H1.out.later b2
    clear b2 H1
    have c0 : w2.cell? ⟨w.heap.size, 0, none⟩ = some (.int .u32 pe) := cellAt H2.out.row rfl
    have c1 : w2.cell? ⟨w.heap.size, 1, none⟩ = some (.int .u32 pn) := cellAt H2.out.row rfl
    have c2 : w2.cell? ⟨w.heap.size, 2, none⟩ = some (.int .u32 se) := cellAt H2.out.row rfl
    have c3 : w2.cell? ⟨w.heap.size, 3, none⟩ = some (.int .u32 sn) := cellAt H2.out.row rfl
    have c4 : w2.cell? ⟨w.heap.size, 4, none⟩ = some (.slice ao l.length cap) := cellAt H2.out.row rfl
    have c5 : w2.cell? ⟨w.heap.size, 5, none⟩ = some (.int .i64 ca) := cellAt H2.out.row rfl
    have c6 : w2.cell? ⟨w.heap.size, 6, none⟩ = some (.int .i64 im) := cellAt H2.out.row rfl
    have c7 : w2.cell? ⟨w.heap.size, 7, none⟩ = some (.float .f64 x) := cellAt H2.out.row rfl
    go_wp2_with fail
    refine (ask_any pe pn se sn _ l ca im x w2 (H.out.1.below H2.out.bel (Nat.le_refl _)) H.out.2.1 (H.out.2.2.below H2.out.bel H.out.2.2.lt) hl).mono ?_
    rintro _ w3 ⟨rfl, b3⟩
    obtain ⟨C, hC⟩ : ∃ C, C = chW pe pn se sn l ca im x := ⟨_, rfl⟩
    rw [← hC]
    have HC : Hid _ := hC
    clear hC
    obtain ⟨cw, cfe, cfn, cn, ce⟩ := C
    obtain ⟨y1, hy1⟩ : ∃ y1, y1 = w3.heap.size := ⟨_, rfl⟩
    obtain ⟨w4, hw4⟩ : ∃ w4, w4 = w3.alloc (.cells #[.int .i8 cw, .int .u32 cfe, .int .u32 cfn, .bool cn] 33) := ⟨_, rfl⟩
    have H4 : Hid (MoR w w4 (caseA pe pn se sn (.slice ao l.length cap) ca im x) ∧ w4.heap[y1]? = some (.cells #[.int .i8 cw, .int .u32 cfe, .int .u32 cfn, .bool cn] 33 (0, 0)) ∧ w.heap.size < y1) := by
      subst hw4; subst hy1
      exact ⟨(H2.out.later b3).later (one_alloc _ _), heap_alloc_new _ _, lt_of_block (H2.out.later b3).row⟩
    have HE4 : Hid (w4 = w3.alloc (.cells #[.int .i8 cw, .int .u32 cfe, .int .u32 cfn, .bool cn] 33) ∧ y1 = w3.heap.size) := ⟨hw4, hy1⟩
    clear hw4 hy1 b3 H2 c0 c1 c2 c3 c4 c5 c6 c7
    dsimp only [ChD.val]
    go_upto_region 5 with fail
    rw [← HE4.out.1, ← HE4.out.2]
    clear HE4
    have c0 : w4.cell? ⟨w.heap.size, 0, none⟩ = some (.int .u32 pe) := cellAt H4.out.1.row rfl
    have c1 : w4.cell? ⟨w.heap.size, 1, none⟩ = some (.int .u32 pn) := cellAt H4.out.1.row rfl
    have c2 : w4.cell? ⟨w.heap.size, 2, none⟩ = some (.int .u32 se) := cellAt H4.out.1.row rfl
    have c3 : w4.cell? ⟨w.heap.size, 3, none⟩ = some (.int .u32 sn) := cellAt H4.out.1.row rfl
    have c4 : w4.cell? ⟨w.heap.size, 4, none⟩ = some (.slice ao l.length cap) := cellAt H4.out.1.row rfl
    have c5 : w4.cell? ⟨w.heap.size, 5, none⟩ = some (.int .i64 ca) := cellAt H4.out.1.row rfl
    have c6 : w4.cell? ⟨w.heap.size, 6, none⟩ = some (.int .i64 im) := cellAt H4.out.1.row rfl
    have c7 : w4.cell? ⟨w.heap.size, 7, none⟩ = some (.float .f64 x) := cellAt H4.out.1.row rfl
    have a0 : w4.cell? ⟨y1, 0, none⟩ = some (.int .i8 cw) := cellAt H4.out.2.1 rfl
    have a1 : w4.cell? ⟨y1, 1, none⟩ = some (.int .u32 cfe) := cellAt H4.out.2.1 rfl
    have a2 : w4.cell? ⟨y1, 2, none⟩ = some (.int .u32 cfn) := cellAt H4.out.2.1 rfl
    have a3 : w4.cell? ⟨y1, 3, none⟩ = some (.bool cn) := cellAt H4.out.2.1 rfl
    by_cases hce : ce = 0
    · subst hce
      by_cases hcw : cw = 4
      · subst hcw
        go_wp2_with fail
        go_ret
        exact ⟨rfl, H4.out.1.bel⟩
      have hcw' : (cw == 4) = false := by simp [hcw]
      cases ho : (FloatKind.f64.format.order x 0 == some .gt || FloatKind.f64.format.order x 0 == some .eq) with
      | false =>
        go_wp2_with fail
        go_ret
        exact ⟨rfl, H4.out.1.bel⟩
      | true =>
        obtain ⟨z, y, hz, hy, hup⟩ := more_factor x hx ho
        have HUP : Hid _ := hup
        clear hup
        by_cases k1 : ca2 < ca
        · have k1' : decide (ca2 < ca) = true := decide_eq_true k1
          go_wp2_with fail
          go_ret
          exact ⟨rfl, H4.out.1.bel⟩
        have k1' : decide (ca2 < ca) = false := decide_eq_false k1
        by_cases k2 : (l.length : Int) < ca2
        · have k2' : decide ((l.length : Int) < ca2) = true := decide_eq_true k2
          go_wp2_with fail
          go_ret
          exact ⟨rfl, H4.out.1.bel⟩
        have k2' : decide ((l.length : Int) < ca2) = false := decide_eq_false k2
        by_cases k3 : im2 < im
        · have k3' : decide (im2 < im) = true := decide_eq_true k3
          go_wp2_with fail
          go_ret
          exact ⟨rfl, H4.out.1.bel⟩
        have k3' : decide (im2 < im) = false := decide_eq_false k3
        have hmz : ∀ w, (binOp .mul 23 (.float .f64 4611686018427387904) (.float .f64 x)).run Tryd.prog w = .ok (.float .f64 z) w := fun w => run_float_arith w .mul _ .f64 _ _ z hz
        have hay : ∀ w, (binOp .add 23 (.float .f64 z) (.float .f64 4607182418800017408)).run Tryd.prog w = .ok (.float .f64 y) w := fun w => run_float_arith w .add _ .f64 _ _ y hy
        have hsf := storeM
        clear hz hy
        obtain ⟨y2, hy2⟩ : ∃ y2, y2 = w4.heap.size := ⟨_, rfl⟩
        obtain ⟨w5, hw5⟩ : ∃ w5, w5 = w4.alloc (.cells (caseA pe pn se sn (.slice ao l.length cap) ca im x) 54) := ⟨_, rfl⟩
        have H5 : Hid (MoR w w5 (caseA pe pn se sn (.slice ao l.length cap) ca im x) ∧ w5.heap[y1]? = some (.cells #[.int .i8 cw, .int .u32 cfe, .int .u32 cfn, .bool cn] 33 (0, 0)) ∧ w5.heap[y2]? = some (.cells (caseA pe pn se sn (.slice ao l.length cap) ca im x) 54 (0, 0)) ∧ w.heap.size < y1 ∧ y1 < y2) := by
          have hl1 := lt_of_block H4.out.2.1
          subst hw5; subst hy2
          exact ⟨H4.out.1.later (one_alloc _ _), by rw [Below.heap_alloc _ _ _ hl1]; exact H4.out.2.1, heap_alloc_new _ _, H4.out.2.2, hl1⟩
        have HE5 : Hid (w5 = w4.alloc (.cells (caseA pe pn se sn (.slice ao l.length cap) ca im x) 54) ∧ y2 = w4.heap.size) := ⟨hw5, hy2⟩
        clear hw5 hy2
        go_upto_region 10 with fail
        rw [← HE5.out.1, ← HE5.out.2]
        clear HE5 H4 c0 c1 c2 c3 c4 c5 c6 c7 a0 a1 a2 a3
        have c7 : w5.cell? ⟨w.heap.size, 7, none⟩ = some (.float .f64 x) := cellAt H5.out.1.row rfl
        have d0 : w5.cell? ⟨y2, 0, none⟩ = some (.int .u32 pe) := cellAt H5.out.2.2.1 rfl
        have d1 : w5.cell? ⟨y2, 1, none⟩ = some (.int .u32 pn) := cellAt H5.out.2.2.1 rfl
        have d2 : w5.cell? ⟨y2, 2, none⟩ = some (.int .u32 se) := cellAt H5.out.2.2.1 rfl
        have d3 : w5.cell? ⟨y2, 3, none⟩ = some (.int .u32 sn) := cellAt H5.out.2.2.1 rfl
        have d4 : w5.cell? ⟨y2, 4, none⟩ = some (.slice ao l.length cap) := cellAt H5.out.2.2.1 rfl
        have d5 : w5.cell? ⟨y2, 5, none⟩ = some (.int .i64 ca) := cellAt H5.out.2.2.1 rfl
        have d6 : w5.cell? ⟨y2, 6, none⟩ = some (.int .i64 im) := cellAt H5.out.2.2.1 rfl
        have d7 : w5.cell? ⟨y2, 7, none⟩ = some (.float .f64 x) := cellAt H5.out.2.2.1 rfl
        have fd5 : w5.frozen? ⟨y2, 5, none⟩ = false := frozen_of_row _ _ _ _ _ H5.out.2.2.1
        have fd6 : w5.frozen? ⟨y2, 6, none⟩ = false := frozen_of_row _ _ _ _ _ H5.out.2.2.1
        have fd7 : w5.frozen? ⟨y2, 7, none⟩ = false := frozen_of_row _ _ _ _ _ H5.out.2.2.1
        have hy12 : ¬ y2 = w.heap.size := by have := H5.out.2.2.2; omega
        have hy21 : ¬ w.heap.size = y2 := by have := H5.out.2.2.2; omega
        obtain ⟨w6, hw6⟩ : ∃ w6, w6 = ((w5.setCell ⟨y2, 5, none⟩ (.int .i64 ca2)).setCell ⟨y2, 6, none⟩ (.int .i64 im2)).setCell ⟨y2, 7, none⟩ (.float .f64 y) := ⟨_, rfl⟩
        have H6 : Hid (MoR w w6 (caseA pe pn se sn (.slice ao l.length cap) ca im x) ∧ w6.heap[y2]? = some (.cells (caseA pe pn se sn (.slice ao l.length cap) ca2 im2 y) 54 (0, 0)) ∧ w6.heap[y1]? = some (.cells #[.int .i8 cw, .int .u32 cfe, .int .u32 cfn, .bool cn] 33 (0, 0)) ∧ w.heap.size < y1 ∧ y1 < y2) := by
          have hk : Kept w5 w6 (fun q => q = y2) := by
            rw [hw6]
            exact (((Kept.refl w5 (fun q => q = y2)).setCell ⟨y2, 5, none⟩ _ (fun _ => rfl)).setCell ⟨y2, 6, none⟩ _ (fun _ => rfl)).setCell ⟨y2, 7, none⟩ _ (fun _ => rfl)
          obtain ⟨x1, x2, x3, x4, x5⟩ := H5.out
          refine ⟨⟨x1.bel.trans (hk.below x1.bel.size (fun k e => by omega)), hk.heap x1.row (by omega)⟩, ?_, hk.heap x2 (by omega), x4, x5⟩
          rw [hw6, heap_setR _ (heap_setR _ (heap_setR _ x3))]; rfl
        have HE6 : Hid _ := hw6
        clear hw6
        go_upto_region 13 with fail
        rw [← HE6.out]
        clear HE6 H5 c7 d0 d1 d2 d3 d4 d5 d6 d7 fd5 fd6 fd7
        have c7 : w6.cell? ⟨w.heap.size, 7, none⟩ = some (.float .f64 x) := cellAt H6.out.1.row rfl
        have d0 : w6.cell? ⟨y2, 0, none⟩ = some (.int .u32 pe) := cellAt H6.out.2.1 rfl
        have d1 : w6.cell? ⟨y2, 1, none⟩ = some (.int .u32 pn) := cellAt H6.out.2.1 rfl
        have d2 : w6.cell? ⟨y2, 2, none⟩ = some (.int .u32 se) := cellAt H6.out.2.1 rfl
        have d3 : w6.cell? ⟨y2, 3, none⟩ = some (.int .u32 sn) := cellAt H6.out.2.1 rfl
        have d4 : w6.cell? ⟨y2, 4, none⟩ = some (.slice ao l.length cap) := cellAt H6.out.2.1 rfl
        have d5 : w6.cell? ⟨y2, 5, none⟩ = some (.int .i64 ca2) := cellAt H6.out.2.1 rfl
        have d6 : w6.cell? ⟨y2, 6, none⟩ = some (.int .i64 im2) := cellAt H6.out.2.1 rfl
        have d7 : w6.cell? ⟨y2, 7, none⟩ = some (.float .f64 y) := cellAt H6.out.2.1 rfl
        have fd7 : w6.frozen? ⟨y2, 7, none⟩ = false := frozen_of_row _ _ _ _ _ H6.out.2.1
        cases hgt : (FloatKind.f64.format.order x 9094988921128908188 == some .gt) with
        | true =>
          have HU2 : Hid (∀ s i i' : Nat, s ≤ 9223372036854775807 → i' ≤ 9223372036854775807 → i ≤ i' → undB s i x = true → undB s i' x = true) := fun s i i' a b c d => by
            have := HUP.out s i i' a b c d
            rwa [if_pos (show (Ieee.double.order x 9094988921128908188 == some .gt) = true from hgt)] at this
          clear HUP
          obtain ⟨w8, hw8⟩ : ∃ w8, w8 = w6.setCell ⟨y2, 7, none⟩ (.float .f64 x) := ⟨_, rfl⟩
          have HW : Hid (MoR w w8 (caseA pe pn se sn (.slice ao l.length cap) ca im x) ∧ w8.heap[y2]? = some (.cells (caseA pe pn se sn (.slice ao l.length cap) ca2 im2 x) 54 (0, 0)) ∧ w8.heap[y1]? = some (.cells #[.int .i8 cw, .int .u32 cfe, .int .u32 cfn, .bool cn] 33 (0, 0))) := by
            have hk : Kept w6 w8 (fun q => q = y2) := by rw [hw8]; exact (Kept.refl w6 (fun q => q = y2)).setCell ⟨y2, 7, none⟩ _ (fun _ => rfl)
            obtain ⟨x1, x3, x2, x4, x5⟩ := H6.out
            refine ⟨⟨x1.bel.trans (hk.below x1.bel.size (fun k e => by omega)), hk.heap x1.row (by omega)⟩, ?_, hk.heap x2 (by omega)⟩
            rw [hw8, heap_setR _ x3]; rfl
          have HE8 : Hid _ := hw8
          clear hw8
          go_upto_region 15 with fail
          rw [← HE8.out]
          clear HE8 H6 c7 d0 d1 d2 d3 d4 d5 d6 d7 fd7
          have d0 : w8.cell? ⟨y2, 0, none⟩ = some (.int .u32 pe) := cellAt HW.out.2.1 rfl
          have d1 : w8.cell? ⟨y2, 1, none⟩ = some (.int .u32 pn) := cellAt HW.out.2.1 rfl
          have d2 : w8.cell? ⟨y2, 2, none⟩ = some (.int .u32 se) := cellAt HW.out.2.1 rfl
          have d3 : w8.cell? ⟨y2, 3, none⟩ = some (.int .u32 sn) := cellAt HW.out.2.1 rfl
          have d4 : w8.cell? ⟨y2, 4, none⟩ = some (.slice ao l.length cap) := cellAt HW.out.2.1 rfl
          have d5 : w8.cell? ⟨y2, 5, none⟩ = some (.int .i64 ca2) := cellAt HW.out.2.1 rfl
          have d6 : w8.cell? ⟨y2, 6, none⟩ = some (.int .i64 im2) := cellAt HW.out.2.1 rfl
          have d7 : w8.cell? ⟨y2, 7, none⟩ = some (.float .f64 x) := cellAt HW.out.2.1 rfl
          obtain ⟨D, hD⟩ : ∃ D, D = chW pe pn se sn l ca2 im2 x := ⟨_, rfl⟩
          have HD : Hid _ := hD
          clear hD
          go_wp2_with fail
          refine (ask_any pe pn se sn _ l ca2 im2 x _ (H.out.1.below HW.out.1.bel (Nat.le_refl _)) H.out.2.1 (H.out.2.2.below HW.out.1.bel H.out.2.2.lt) hl).mono ?_
          rintro _ w7 ⟨rfl, b7⟩
          rw [← HD.out]
          have hmo := more_same pe pn se sn l ca im ca2 im2 x x hl (by rw [← HC.out]) (by rw [← HC.out]; exact hcw) (by omega) (by omega) (by omega) him HU2.out
          rw [← HC.out, ← HD.out] at hmo
          obtain ⟨dw, dfe, dfn, dn, de⟩ := D
          obtain ⟨rfl, rfl, rfl, rfl, hdn⟩ := hmo
          have H7 : Hid (Below w.heap.size w w7 ∧ w7.heap[y1]? = some (.cells #[.int .i8 dw, .int .u32 dfe, .int .u32 dfn, .bool cn] 33 (0, 0))) := ⟨HW.out.1.bel.trans (b7.mono HW.out.1.bel.size), (Below.kept b7).heap HW.out.2.2 (by have := lt_of_block HW.out.2.2; omega)⟩
          have HB8 : Hid (Below w.heap.size w (w7.alloc (.cells #[.int .i8 dw, .int .u32 dfe, .int .u32 dfn, .bool dn] 33))) := H7.out.1.alloc H7.out.1.size _
          have hz1 := lt_of_block H7.out.2
          have q0 : (w7.alloc (.cells #[.int .i8 dw, .int .u32 dfe, .int .u32 dfn, .bool dn] 33)).cell? ⟨y1, 0, none⟩ = some (.int .i8 dw) := cellAt (by rw [Below.heap_alloc _ _ _ hz1]; exact H7.out.2) rfl
          have q1 : (w7.alloc (.cells #[.int .i8 dw, .int .u32 dfe, .int .u32 dfn, .bool dn] 33)).cell? ⟨y1, 1, none⟩ = some (.int .u32 dfe) := cellAt (by rw [Below.heap_alloc _ _ _ hz1]; exact H7.out.2) rfl
          have q2 : (w7.alloc (.cells #[.int .i8 dw, .int .u32 dfe, .int .u32 dfn, .bool dn] 33)).cell? ⟨y1, 2, none⟩ = some (.int .u32 dfn) := cellAt (by rw [Below.heap_alloc _ _ _ hz1]; exact H7.out.2) rfl
          have q3 : (w7.alloc (.cells #[.int .i8 dw, .int .u32 dfe, .int .u32 dfn, .bool dn] 33)).cell? ⟨y1, 3, none⟩ = some (.bool cn) := cellAt (by rw [Below.heap_alloc _ _ _ hz1]; exact H7.out.2) rfl
          have hdn' : dn = true ∨ (dn = false ∧ cn = false) := by
            rcases hdn with h | h
            · exact .inl h
            · cases dn
              · exact .inr ⟨rfl, h⟩
              · exact .inl rfl
          have hqe := eqZx dfe dfn dfe dfn
          rw [decide_eq_true ⟨rfl, rfl⟩] at hqe
          have hgq : Tryd.prog.eqGuardType Tryd.prog.depth 30 = false := by kernel_rfl
          clear b7 H7 HW hdn HC HD HU2 hz1 d0 d1 d2 d3 d4 d5 d6 d7
          dsimp only [ChD.val]
          rcases hdn' with rfl | ⟨rfl, rfl⟩
          · go_wp2_with fail
            go_ret
            exact ⟨rfl, HB8.out⟩
          · go_wp2_with fail
            go_ret
            exact ⟨rfl, HB8.out⟩
        | false =>
          have HU2 : Hid (∀ s i i' : Nat, s ≤ 9223372036854775807 → i' ≤ 9223372036854775807 → i ≤ i' → undB s i x = true → undB s i' y = true) := fun s i i' a b c d => by
            have := HUP.out s i i' a b c d
            rwa [if_neg (by rw [show (Ieee.double.order x 9094988921128908188 == some .gt) = false from hgt]; decide)] at this
          have HW : Hid (MoR w w6 (caseA pe pn se sn (.slice ao l.length cap) ca im x) ∧ w6.heap[y2]? = some (.cells (caseA pe pn se sn (.slice ao l.length cap) ca2 im2 y) 54 (0, 0)) ∧ w6.heap[y1]? = some (.cells #[.int .i8 cw, .int .u32 cfe, .int .u32 cfn, .bool cn] 33 (0, 0))) := ⟨H6.out.1, H6.out.2.1, H6.out.2.2.1⟩
          clear HUP H6
          obtain ⟨D, hD⟩ : ∃ D, D = chW pe pn se sn l ca2 im2 y := ⟨_, rfl⟩
          have HD : Hid _ := hD
          clear hD
          go_wp2_with fail
          refine (ask_any pe pn se sn _ l ca2 im2 y _ (H.out.1.below HW.out.1.bel (Nat.le_refl _)) H.out.2.1 (H.out.2.2.below HW.out.1.bel H.out.2.2.lt) hl).mono ?_
          rintro _ w7 ⟨rfl, b7⟩
          rw [← HD.out]
          have hmo := more_same pe pn se sn l ca im ca2 im2 x y hl (by rw [← HC.out]) (by rw [← HC.out]; exact hcw) (by omega) (by omega) (by omega) him HU2.out
          rw [← HC.out, ← HD.out] at hmo
          obtain ⟨dw, dfe, dfn, dn, de⟩ := D
          obtain ⟨rfl, rfl, rfl, rfl, hdn⟩ := hmo
          have H7 : Hid (Below w.heap.size w w7 ∧ w7.heap[y1]? = some (.cells #[.int .i8 dw, .int .u32 dfe, .int .u32 dfn, .bool cn] 33 (0, 0))) := ⟨HW.out.1.bel.trans (b7.mono HW.out.1.bel.size), (Below.kept b7).heap HW.out.2.2 (by have := lt_of_block HW.out.2.2; omega)⟩
          have HB8 : Hid (Below w.heap.size w (w7.alloc (.cells #[.int .i8 dw, .int .u32 dfe, .int .u32 dfn, .bool dn] 33))) := H7.out.1.alloc H7.out.1.size _
          have hz1 := lt_of_block H7.out.2
          have q0 : (w7.alloc (.cells #[.int .i8 dw, .int .u32 dfe, .int .u32 dfn, .bool dn] 33)).cell? ⟨y1, 0, none⟩ = some (.int .i8 dw) := cellAt (by rw [Below.heap_alloc _ _ _ hz1]; exact H7.out.2) rfl
          have q1 : (w7.alloc (.cells #[.int .i8 dw, .int .u32 dfe, .int .u32 dfn, .bool dn] 33)).cell? ⟨y1, 1, none⟩ = some (.int .u32 dfe) := cellAt (by rw [Below.heap_alloc _ _ _ hz1]; exact H7.out.2) rfl
          have q2 : (w7.alloc (.cells #[.int .i8 dw, .int .u32 dfe, .int .u32 dfn, .bool dn] 33)).cell? ⟨y1, 2, none⟩ = some (.int .u32 dfn) := cellAt (by rw [Below.heap_alloc _ _ _ hz1]; exact H7.out.2) rfl
          have q3 : (w7.alloc (.cells #[.int .i8 dw, .int .u32 dfe, .int .u32 dfn, .bool dn] 33)).cell? ⟨y1, 3, none⟩ = some (.bool cn) := cellAt (by rw [Below.heap_alloc _ _ _ hz1]; exact H7.out.2) rfl
          have hdn' : dn = true ∨ (dn = false ∧ cn = false) := by
            rcases hdn with h | h
            · exact .inl h
            · cases dn
              · exact .inr ⟨rfl, h⟩
              · exact .inl rfl
          have hqe := eqZx dfe dfn dfe dfn
          rw [decide_eq_true ⟨rfl, rfl⟩] at hqe
          have hgq : Tryd.prog.eqGuardType Tryd.prog.depth 30 = false := by kernel_rfl
          clear b7 H7 HW hdn HC HD HU2 hz1 d0 d1 d2 d3 d4 d5 d6 d7
          dsimp only [ChD.val]
          rcases hdn' with rfl | ⟨rfl, rfl⟩
          · go_wp2_with fail
            go_ret
            exact ⟨rfl, HB8.out⟩
          · go_wp2_with fail
            go_ret
            exact ⟨rfl, HB8.out⟩
    · have hce' : (ce != 0) = true := by simp [hce]
      go_wp2_with fail
      go_ret
      exact ⟨rfl, H4.out.1.bel⟩
  · go_wp2_with fail
    go_ret
    exact ⟨rfl, H1.out.bel⟩
end Go.Proofs.YtdodjefeahpafaaDoor
