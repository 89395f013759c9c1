/- ChooseHand of the statements of layer 14, walked: true for all that came in. -/
import Derived.Test.YtdodjefeahpafaaDoorChEJ
import Derived.Test.YtdodjefeahpafaaDoorChFJ
import Derived.Test.YtdodjefeahpafaaDoorChHJ
namespace Go.Proofs.YtdodjefeahpafaaDoor
open Go.RowKit
set_option maxRecDepth 8000

/-- The case in its place, nothing older changed. -/
structure HdR (w W : World) (row : Array Value) : Prop where
  bel : Below w.heap.size w W
  row : W.heap[w.heap.size]? = some (.cells row 54 (0, 0))

theorem HdR.later {w W W' : World} {row : Array Value} (h : HdR w W row) (hb : Below W.heap.size W W') : HdR w W' row :=
  ⟨h.bel.trans (hb.mono h.bel.size), (Below.kept hb).heap h.row (by have := lt_of_block h.row; omega)⟩
theorem HdR.set {w W : World} {row : Array Value} (h : HdR w W row) (i : Nat) (a : Value) : HdR w (W.setCell ⟨w.heap.size, i, none⟩ a) (row.setIfInBounds i a) :=
  ⟨h.bel.trans (((Kept.refl W (fun k => k = w.heap.size)).setCell ⟨w.heap.size, i, none⟩ a (fun _ => rfl)).below h.bel.size (fun k e => by omega)), heap_setR _ h.row⟩

abbrev chA (c : ChD) : Array Value := #[.int .i8 c.way, .int .u32 c.fe, .int .u32 c.fn, .bool c.near]

/-- The case and the two choices, in their places. -/
structure HdS (w W : World) (row : Array Value) (y1 : Nat) (C : ChD) (y2 : Nat) (D : ChD) : Prop where
  r : HdR w W row
  a : W.heap[y1]? = some (.cells (chA C) 33 (0, 0))
  b : W.heap[y2]? = some (.cells (chA D) 33 (0, 0))

theorem HdS.later {w W W' : World} {row : Array Value} {y1 y2 : Nat} {C D : ChD} (h : HdS w W row y1 C y2 D) (hb : Below W.heap.size W W') : HdS w W' row y1 C y2 D :=
  ⟨h.r.later hb, (Below.kept hb).heap h.a (by have := lt_of_block h.a; omega), (Below.kept hb).heap h.b (by have := lt_of_block h.b; omega)⟩

theorem HdS.held {w W : World} {pe pn se sn : Int} {v a b c : Value} {y1 y2 : Nat} {C D : ChD} (h : HdS w W #[.int .u32 pe, .int .u32 pn, .int .u32 se, .int .u32 sn, v, a, b, c] y1 C y2 D) :
    W.cell? ⟨w.heap.size, 0, none⟩ = some (.int .u32 pe) ∧ W.cell? ⟨w.heap.size, 1, none⟩ = some (.int .u32 pn) ∧ W.cell? ⟨w.heap.size, 2, none⟩ = some (.int .u32 se) ∧ W.cell? ⟨w.heap.size, 3, none⟩ = some (.int .u32 sn) ∧ W.cell? ⟨w.heap.size, 4, none⟩ = some v :=
  ⟨cellAt h.r.row rfl, cellAt h.r.row rfl, cellAt h.r.row rfl, cellAt h.r.row rfl, cellAt h.r.row rfl⟩

theorem storeF (P : Program) (w : World) (a : Addr) (m : Mode) (k : FloatKind) (b : Nat) : (store a (.float k b) m).run P w = stored P w a (.float k b) m := run_store P w a _ m rfl

set_option maxHeartbeats 1000000 in
theorem hand_walk (pe pn se sn : Int) (v : Value) (l : List TxD) (ca im : Int) (x : Nat) (w : World) (hn : Nam w) (h : SeesTxs w v l) (hg : ∀ t ∈ l, t.good) :
    Calls Tryd.prog 5 #[.agg (caseA pe pn se sn v ca im x)] w fun r w' => r = .returned (.bool true) ∧ Below w.heap.size w w' := by
  obtain ⟨ao, cap, rfl, hlc, hcm⟩ := txs_shape h
  unfold maxLen at hcm
  have H : Hid (SeesTxs w (.slice ao l.length cap) l ∧ (∀ t ∈ l, t.good) ∧ Nam w) := ⟨h, hg, hn⟩
  clear h hg hn
  go_enter Tryd.func5, Tryd.ntmps5
  go_wp2_with fail
  have hb0 := one_alloc w (.cells (caseA pe pn se sn (.slice ao l.length cap) ca im x) 54)
  refine (largeTxns_any _ l _ (H.out.1.below hb0 (Nat.le_refl _)) H.out.2.1).mono ?_
  rintro _ w1 ⟨bl, rfl, hbl, b1⟩
  have r1 := (Below.kept b1).heap (heap_alloc_new w (.cells (caseA pe pn se sn (.slice ao l.length cap) ca im x) 54)) (by simp)
  have H1 : Hid (HdR w w1 #[.int .u32 pe, .int .u32 pn, .int .u32 se, .int .u32 sn, .slice ao l.length cap, .int .i64 ca, .int .i64 im, .float .f64 x]) := ⟨hb0.trans (b1.mono hb0.size), r1⟩
  clear hb0 b1 r1
  cases bl
  · have HL : Hid (l.length ≤ 1000000) := (hbl rfl).1
    clear hbl
    have hl := HL.out
    go_wp2_with fail
    refine (lives14_any _ (H.out.2.2.below H1.out.bel H.out.2.2.lt)).mono ?_
    rintro _ w2 ⟨rfl, b2⟩
    have H2 : Hid (HdR w w2 #[.int .u32 pe, .int .u32 pn, .int .u32 se, .int .u32 sn, .slice ao l.length cap, .int .i64 ca, .int .i64 im, .float .f64 x]) := H1.out.later b2
    clear b2 H1
    have c0 : w2.cell? ⟨w.heap.size, 0, none⟩ = some (.int .u32 pe) := cellAt H2.out.row rfl
    have c1 : w2.cell? ⟨w.heap.size, 1, none⟩ = some (.int .u32 pn) := cellAt H2.out.row rfl
    have c2 : w2.cell? ⟨w.heap.size, 2, none⟩ = some (.int .u32 se) := cellAt H2.out.row rfl
    have c3 : w2.cell? ⟨w.heap.size, 3, none⟩ = some (.int .u32 sn) := cellAt H2.out.row rfl
    have c4 : w2.cell? ⟨w.heap.size, 4, none⟩ = some (.slice ao l.length cap) := cellAt H2.out.row rfl
    have c5 : w2.cell? ⟨w.heap.size, 5, none⟩ = some (.int .i64 ca) := cellAt H2.out.row rfl
    have c6 : w2.cell? ⟨w.heap.size, 6, none⟩ = some (.int .i64 im) := cellAt H2.out.row rfl
    have c7 : w2.cell? ⟨w.heap.size, 7, none⟩ = some (.float .f64 x) := cellAt H2.out.row rfl
    have f5 : w2.frozen? ⟨w.heap.size, 5, none⟩ = false := frozen_of_row _ _ _ _ _ H2.out.row
    obtain ⟨w3, hw3⟩ : ∃ w3, w3 = w2.setCell ⟨w.heap.size, 5, none⟩ (.int .i64 l.length) := ⟨_, rfl⟩
    have H3 : Hid (HdR w w3 #[.int .u32 pe, .int .u32 pn, .int .u32 se, .int .u32 sn, .slice ao l.length cap, .int .i64 l.length, .int .i64 im, .float .f64 x]) := by show HdR w w3 _; rw [hw3]; exact H2.out.set 5 _
    have HE3 : Hid _ := hw3
    clear hw3
    obtain ⟨C, hC⟩ : ∃ C, C = chW pe pn se sn l l.length im x := ⟨_, rfl⟩
    go_wp2_with fail
    rw [← HE3.out]
    refine (ask_any pe pn se sn _ l l.length im x w3 (H.out.1.below H3.out.bel (Nat.le_refl _)) H.out.2.1 (H.out.2.2.below H3.out.bel H.out.2.2.lt) hl).mono ?_
    rintro _ w4 ⟨rfl, b4⟩
    rw [← hC]
    have HC : Hid _ := hC
    obtain ⟨y1, hy1⟩ : ∃ y1, y1 = w4.heap.size := ⟨_, rfl⟩
    obtain ⟨w5, hw5⟩ : ∃ w5, w5 = w4.alloc (.cells (chA C) 33) := ⟨_, rfl⟩
    have H5 : Hid (HdR w w5 #[.int .u32 pe, .int .u32 pn, .int .u32 se, .int .u32 sn, .slice ao l.length cap, .int .i64 l.length, .int .i64 im, .float .f64 x] ∧ w5.heap[y1]? = some (.cells (chA C) 33 (0, 0)) ∧ w.heap.size < y1) := by
      subst hw5; subst hy1
      exact ⟨(H3.out.later b4).later (one_alloc _ _), heap_alloc_new _ _, lt_of_block (H3.out.later b4).row⟩
    have HE5 : Hid (w5 = w4.alloc (.cells (chA C) 33) ∧ y1 = w4.heap.size) := ⟨hw5, hy1⟩
    clear hC hw5 hy1 b4 H3 HE3 H2 c0 c1 c2 c3 c4 c5 c6 c7 f5
    dsimp only [ChD.val]
    go_upto_region 7 with fail
    rw [← HE5.out.1, ← HE5.out.2]
    clear HE5
    have c0 : w5.cell? ⟨w.heap.size, 0, none⟩ = some (.int .u32 pe) := cellAt H5.out.1.row rfl
    have c1 : w5.cell? ⟨w.heap.size, 1, none⟩ = some (.int .u32 pn) := cellAt H5.out.1.row rfl
    have c2 : w5.cell? ⟨w.heap.size, 2, none⟩ = some (.int .u32 se) := cellAt H5.out.1.row rfl
    have c3 : w5.cell? ⟨w.heap.size, 3, none⟩ = some (.int .u32 sn) := cellAt H5.out.1.row rfl
    have c4 : w5.cell? ⟨w.heap.size, 4, none⟩ = some (.slice ao l.length cap) := cellAt H5.out.1.row rfl
    have c5 : w5.cell? ⟨w.heap.size, 5, none⟩ = some (.int .i64 l.length) := cellAt H5.out.1.row rfl
    have c6 : w5.cell? ⟨w.heap.size, 6, none⟩ = some (.int .i64 im) := cellAt H5.out.1.row rfl
    have c7 : w5.cell? ⟨w.heap.size, 7, none⟩ = some (.float .f64 x) := cellAt H5.out.1.row rfl
    have f5 : w5.frozen? ⟨w.heap.size, 5, none⟩ = false := frozen_of_row _ _ _ _ _ H5.out.1.row
    have f6 : w5.frozen? ⟨w.heap.size, 6, none⟩ = false := frozen_of_row _ _ _ _ _ H5.out.1.row
    have f7 : w5.frozen? ⟨w.heap.size, 7, none⟩ = false := frozen_of_row _ _ _ _ _ H5.out.1.row
    obtain ⟨im2, him2⟩ : ∃ im2 : Int, im2 = 1 + Int.tmod im 1000 * Int.tmod im 1000 := ⟨_, rfl⟩
    obtain ⟨ni, hni, hn1, hn2⟩ := hand_image im
    rw [← him2] at hni
    have hsf := storeF
    obtain ⟨w6, hw6⟩ : ∃ w6, w6 = ((w5.setCell ⟨w.heap.size, 5, none⟩ (.int .i64 0)).setCell ⟨w.heap.size, 6, none⟩ (.int .i64 im2)).setCell ⟨w.heap.size, 7, none⟩ (.float .f64 13830554455654793216) := ⟨_, rfl⟩
    have H6 : Hid (HdR w w6 #[.int .u32 pe, .int .u32 pn, .int .u32 se, .int .u32 sn, .slice ao l.length cap, .int .i64 0, .int .i64 im2, .float .f64 13830554455654793216] ∧ w6.heap[y1]? = some (.cells (chA C) 33 (0, 0))) := by
      have hy := H5.out.2.2
      have k6 : Kept w5 w6 (fun k => k = w.heap.size) := by
        rw [hw6]
        exact ((((Kept.refl w5 (fun k => k = w.heap.size)).setCell ⟨w.heap.size, 5, none⟩ _ (fun _ => rfl)).setCell ⟨w.heap.size, 6, none⟩ _ (fun _ => rfl)).setCell ⟨w.heap.size, 7, none⟩ _ (fun _ => rfl))
      refine ⟨?_, k6.heap H5.out.2.1 (by omega)⟩
      rw [hw6]
      exact ((H5.out.1.set 5 _).set 6 _).set 7 _
    have HE6 : Hid (w6 = ((w5.setCell ⟨w.heap.size, 5, none⟩ (.int .i64 0)).setCell ⟨w.heap.size, 6, none⟩ (.int .i64 (1 + Int.tmod im 1000 * Int.tmod im 1000))).setCell ⟨w.heap.size, 7, none⟩ (.float .f64 13830554455654793216)) := by show w6 = _; rw [hw6, him2]
    have HI2 : Hid _ := him2
    have HNI : Hid (im2 = ni ∧ 1 ≤ ni ∧ ni < 9007199254740992) := ⟨hni, hn1, hn2⟩
    clear hni hn1 hn2
    obtain ⟨hp1, hp2⟩ := hand_prod im
    clear hw6 him2 H5
    go_upto_region 10 with fail
    rw [← HE6.out, ← HI2.out]
    clear HE6 HI2 hp1 hp2 c0 c1 c2 c3 c4 c5 c6 c7 f5 f6 f7
    have c0 : w6.cell? ⟨w.heap.size, 0, none⟩ = some (.int .u32 pe) := cellAt H6.out.1.row rfl
    have c1 : w6.cell? ⟨w.heap.size, 1, none⟩ = some (.int .u32 pn) := cellAt H6.out.1.row rfl
    have c2 : w6.cell? ⟨w.heap.size, 2, none⟩ = some (.int .u32 se) := cellAt H6.out.1.row rfl
    have c3 : w6.cell? ⟨w.heap.size, 3, none⟩ = some (.int .u32 sn) := cellAt H6.out.1.row rfl
    have c4 : w6.cell? ⟨w.heap.size, 4, none⟩ = some (.slice ao l.length cap) := cellAt H6.out.1.row rfl
    have c5 : w6.cell? ⟨w.heap.size, 5, none⟩ = some (.int .i64 0) := cellAt H6.out.1.row rfl
    have c6 : w6.cell? ⟨w.heap.size, 6, none⟩ = some (.int .i64 im2) := cellAt H6.out.1.row rfl
    have c7 : w6.cell? ⟨w.heap.size, 7, none⟩ = some (.float .f64 13830554455654793216) := cellAt H6.out.1.row rfl
    obtain ⟨D, hD⟩ : ∃ D, D = chW pe pn se sn l 0 im2 13830554455654793216 := ⟨_, rfl⟩
    go_wp2_with fail
    refine (ask_any pe pn se sn _ l 0 im2 13830554455654793216 w6 (H.out.1.below H6.out.1.bel (Nat.le_refl _)) H.out.2.1 (H.out.2.2.below H6.out.1.bel H.out.2.2.lt) hl).mono ?_
    rintro _ w7 ⟨rfl, b7⟩
    rw [← hD]
    have HD : Hid _ := hD
    obtain ⟨y2, hy2⟩ : ∃ y2, y2 = w7.heap.size := ⟨_, rfl⟩
    obtain ⟨w8, hw8⟩ : ∃ w8, w8 = w7.alloc (.cells (chA D) 33) := ⟨_, rfl⟩
    have H8 : Hid (HdS w w8 #[.int .u32 pe, .int .u32 pn, .int .u32 se, .int .u32 sn, .slice ao l.length cap, .int .i64 0, .int .i64 im2, .float .f64 13830554455654793216] y1 C y2 D) := by
      have hy1 := (Below.kept b7).heap H6.out.2 (by have := lt_of_block H6.out.2; omega)
      subst hw8; subst hy2
      exact ⟨(H6.out.1.later b7).later (one_alloc _ _), by rw [Below.heap_alloc _ _ _ (lt_of_block hy1)]; exact hy1, heap_alloc_new _ _⟩
    have HE8 : Hid (w8 = w7.alloc (.cells (chA D) 33) ∧ y2 = w7.heap.size) := ⟨hw8, hy2⟩
    clear hD hw8 hy2 b7 H6 c0 c1 c2 c3 c4 c5 c6 c7 hsf
    dsimp only [ChD.val]
    go_upto_region 11 with fail
    rw [← HE8.out.1, ← HE8.out.2]
    clear HE8
    have c0 : w8.cell? ⟨w.heap.size, 0, none⟩ = some (.int .u32 pe) := cellAt H8.out.r.row rfl
    have c1 : w8.cell? ⟨w.heap.size, 1, none⟩ = some (.int .u32 pn) := cellAt H8.out.r.row rfl
    have c2 : w8.cell? ⟨w.heap.size, 2, none⟩ = some (.int .u32 se) := cellAt H8.out.r.row rfl
    have c3 : w8.cell? ⟨w.heap.size, 3, none⟩ = some (.int .u32 sn) := cellAt H8.out.r.row rfl
    have c4 : w8.cell? ⟨w.heap.size, 4, none⟩ = some (.slice ao l.length cap) := cellAt H8.out.r.row rfl
    have c5 : w8.cell? ⟨w.heap.size, 5, none⟩ = some (.int .i64 0) := cellAt H8.out.r.row rfl
    have c6 : w8.cell? ⟨w.heap.size, 6, none⟩ = some (.int .i64 im2) := cellAt H8.out.r.row rfl
    have c7 : w8.cell? ⟨w.heap.size, 7, none⟩ = some (.float .f64 13830554455654793216) := cellAt H8.out.r.row rfl
    go_wp2_with fail
    refine (lawRises_any se sn _ l _ (H.out.1.below H8.out.r.bel (Nat.le_refl _))).mono ?_
    rintro _ w9 ⟨rfl, b9⟩
    have H9 : Hid (HdS w w9 #[.int .u32 pe, .int .u32 pn, .int .u32 se, .int .u32 sn, .slice ao l.length cap, .int .i64 0, .int .i64 im2, .float .f64 13830554455654793216] y1 C y2 D) := H8.out.later b9
    clear b9 H8 c0 c1 c2 c3 c4 c5 c6 c7
    cases hr : rises se sn l with
    | false =>
      have HC' := hand_bad pe pn se sn l l.length im x (.inl hr)
      have HD' := hand_bad pe pn se sn l 0 im2 13830554455654793216 (.inl hr)
      rw [← HC.out] at HC'
      rw [← HD.out] at HD'
      have HB : Hid (Below w.heap.size w w9) := H9.out.r.bel
      clear H9 HC HD HNI hr
      subst HC' HD'
      go_wp2_with fail
      go_ret
      exact ⟨rfl, HB.out⟩
    | true =>
      have HR : Hid _ := hr
      clear hr
      have c0 : w9.cell? ⟨w.heap.size, 0, none⟩ = some (.int .u32 pe) := cellAt H9.out.r.row rfl
      have c1 : w9.cell? ⟨w.heap.size, 1, none⟩ = some (.int .u32 pn) := cellAt H9.out.r.row rfl
      have c2 : w9.cell? ⟨w.heap.size, 2, none⟩ = some (.int .u32 se) := cellAt H9.out.r.row rfl
      have c3 : w9.cell? ⟨w.heap.size, 3, none⟩ = some (.int .u32 sn) := cellAt H9.out.r.row rfl
      have c4 : w9.cell? ⟨w.heap.size, 4, none⟩ = some (.slice ao l.length cap) := cellAt H9.out.r.row rfl
      have c5 : w9.cell? ⟨w.heap.size, 5, none⟩ = some (.int .i64 0) := cellAt H9.out.r.row rfl
      have c6 : w9.cell? ⟨w.heap.size, 6, none⟩ = some (.int .i64 im2) := cellAt H9.out.r.row rfl
      have c7 : w9.cell? ⟨w.heap.size, 7, none⟩ = some (.float .f64 13830554455654793216) := cellAt H9.out.r.row rfl
      go_wp2_with fail
      refine (refCompare_any pe pn se sn _).mono ?_
      rintro _ w10 ⟨rfl, b10⟩
      have H10 : Hid (HdS w w10 #[.int .u32 pe, .int .u32 pn, .int .u32 se, .int .u32 sn, .slice ao l.length cap, .int .i64 0, .int .i64 im2, .float .f64 13830554455654793216] y1 C y2 D) := H9.out.later b10
      clear b10 H9 c0 c1 c2 c3 c4 c5 c6 c7
      go_upto_region 14 with fail
      refine wp_region_held_drew (S := (fun W => W.cell? ⟨w.heap.size, 0, none⟩ = some (.int .u32 pe) ∧ W.cell? ⟨w.heap.size, 1, none⟩ = some (.int .u32 pn) ∧ W.cell? ⟨w.heap.size, 2, none⟩ = some (.int .u32 se) ∧ W.cell? ⟨w.heap.size, 3, none⟩ = some (.int .u32 sn) ∧ W.cell? ⟨w.heap.size, 4, none⟩ = some (.slice ao l.length cap))) (by kernel_rfl) ?_ (fun hHeld => ?_)
      · exact (H10.out.later (below_drewN (Below.refl _ _) 1)).held
      refine wpAnyH_take (i := 0) (oi := { dst := some 67, op := Op.fieldAddr 54 (Operand.tmp 1) 0, type := 0, pos := "law.go:205", after := #[], guard := none }) (v := ?_) rfl (by kernel_rfl) (by kernel_rfl) (by kernel_rfl) (fun _ _ _ h => h) (Or.inl ⟨by rfl, ?_⟩) (by assumption) ?_
      rotate_left
      · (intro w hSw; (try dsimp only at hSw); go_simp) <;> with_reducible rfl
      try simp only [Act.put, List.setIfInBounds_toArray, List.set_cons_zero, List.set_cons_succ]
      refine wpAnyH_take (i := 1) (oi := { dst := some 68, op := Op.load 30 (Operand.tmp 67), type := 30, pos := "law.go:205", after := #[{ on := 0, ground := Ground.data }], guard := none }) (v := ?_) rfl (by kernel_rfl) (by kernel_rfl) (by kernel_rfl) (fun _ _ _ h => h) (Or.inl ⟨by rfl, ?_⟩) (by assumption) ?_
      rotate_left
      · (intro w hSw; (try dsimp only at hSw); go_simp) <;> with_reducible rfl
      try simp only [Act.put, List.setIfInBounds_toArray, List.set_cons_zero, List.set_cons_succ]
      refine wpAnyH_take (i := 2) (oi := { dst := some 69, op := Op.fieldAddr 54 (Operand.tmp 1) 1, type := 0, pos := "law.go:205", after := #[], guard := none }) (v := ?_) rfl (by kernel_rfl) (by kernel_rfl) (by kernel_rfl) (fun _ _ _ h => h) (Or.inl ⟨by rfl, ?_⟩) (by assumption) ?_
      rotate_left
      · (intro w hSw; (try dsimp only at hSw); go_simp) <;> with_reducible rfl
      try simp only [Act.put, List.setIfInBounds_toArray, List.set_cons_zero, List.set_cons_succ]
      refine wpAnyH_take (i := 3) (oi := { dst := some 70, op := Op.load 30 (Operand.tmp 69), type := 30, pos := "law.go:205", after := #[{ on := 2, ground := Ground.data }], guard := none }) (v := ?_) rfl (by kernel_rfl) (by kernel_rfl) (by kernel_rfl) (fun _ _ _ h => h) (Or.inl ⟨by rfl, ?_⟩) (by assumption) ?_
      rotate_left
      · (intro w hSw; (try dsimp only at hSw); go_simp) <;> with_reducible rfl
      try simp only [Act.put, List.setIfInBounds_toArray, List.set_cons_zero, List.set_cons_succ]
      refine wpAnyH_take (i := 4) (oi := { dst := some 71, op := Op.fieldAddr 54 (Operand.tmp 1) 2, type := 0, pos := "law.go:205", after := #[], guard := none }) (v := ?_) rfl (by kernel_rfl) (by kernel_rfl) (by kernel_rfl) (fun _ _ _ h => h) (Or.inl ⟨by rfl, ?_⟩) (by assumption) ?_
      rotate_left
      · (intro w hSw; (try dsimp only at hSw); go_simp) <;> with_reducible rfl
      try simp only [Act.put, List.setIfInBounds_toArray, List.set_cons_zero, List.set_cons_succ]
      refine wpAnyH_take (i := 5) (oi := { dst := some 72, op := Op.load 22 (Operand.tmp 71), type := 22, pos := "law.go:205", after := #[{ on := 4, ground := Ground.data }], guard := none }) (v := ?_) rfl (by kernel_rfl) (by kernel_rfl) (by kernel_rfl) (fun _ _ _ h => h) (Or.inl ⟨by rfl, ?_⟩) (by assumption) ?_
      rotate_left
      · (intro w hSw; (try dsimp only at hSw); go_simp) <;> with_reducible rfl
      try simp only [Act.put, List.setIfInBounds_toArray, List.set_cons_zero, List.set_cons_succ]
      refine wpAnyH_ready (rs := [6]) (by kernel_rfl) (by simp) ?_
      refine AllReadyH.cons (o := { dst := some 73, op := Op.call { callee := Callee.value (Operand.func 9), args := #[Operand.tmp 70, Operand.tmp 72], argTypes := #[30, 22] }, type := 30, pos := "law.go:205", after := #[{ on := 3, ground := Ground.data }, { on := 5, ground := Ground.data }], guard := none }) rfl (fun K hK => ?_) AllReadyH.nil
      go_simp
      refine (last_any se sn _ l _ (H.out.1.below (H10.out.later (below_drewN (Below.refl _ _) 1)).r.bel (Nat.le_refl _))).mono ?_
      rintro _ w11 ⟨rfl, b11⟩
      have H11 : Hid (HdS w w11 #[.int .u32 pe, .int .u32 pn, .int .u32 se, .int .u32 sn, .slice ao l.length cap, .int .i64 0, .int .i64 im2, .float .f64 13830554455654793216] y1 C y2 D) := (H10.out.later (below_drewN (Below.refl _ _) 1)).later b11
      clear b11
      refine hK.out _ _ H11.out.held (fun hHeld => ?_)
      clear hK K
      refine wpAnyH_ready (rs := [7]) (by kernel_rfl) (by simp) ?_
      refine AllReadyH.cons (o := { dst := some 74, op := Op.call { callee := Callee.value (Operand.func 16), args := #[Operand.tmp 68, Operand.tmp 73], argTypes := #[30, 30] }, type := 3, pos := "law.go:205", after := #[{ on := 1, ground := Ground.data }, { on := 6, ground := Ground.data }, { on := 6, ground := Ground.chain }], guard := none }) rfl (fun K hK => ?_) AllReadyH.nil
      go_simp
      refine (refCompare_any pe pn _ _ _).mono ?_
      rintro _ w12 ⟨rfl, b12⟩
      have H12 : Hid (HdS w w12 #[.int .u32 pe, .int .u32 pn, .int .u32 se, .int .u32 sn, .slice ao l.length cap, .int .i64 0, .int .i64 im2, .float .f64 13830554455654793216] y1 C y2 D) := H11.out.later b12
      clear b12 H11
      refine hK.out _ _ H12.out.held (fun hHeld => ?_)
      clear hK K
      refine wpAnyH_take (i := 8) (oi := { dst := some 75, op := Op.binOp BinOp.lss 3 (Operand.tmp 74) (Operand.const (Value.int IntKind.i64 0)) 3, type := 4, pos := "law.go:205", after := #[{ on := 7, ground := Ground.data }], guard := none }) (v := ?_) rfl (by kernel_rfl) (by kernel_rfl) (by kernel_rfl) (fun _ _ _ h => h) (Or.inl ⟨by rfl, ?_⟩) (by assumption) ?_
      rotate_left
      · (intro w hSw; (try dsimp only at hSw); go_simp) <;> with_reducible rfl
      try simp only [Act.put, List.setIfInBounds_toArray, List.set_cons_zero, List.set_cons_succ]
      refine wpAnyH_take (i := 9) (oi := { dst := some 10, op := Op.assign (Operand.tmp 75), type := 4, pos := "law.go:205", after := #[{ on := 8, ground := Ground.data }, { on := 7, ground := Ground.chain }, { on := 0, ground := Ground.phase }, { on := 1, ground := Ground.phase }, { on := 2, ground := Ground.phase }, { on := 3, ground := Ground.phase }, { on := 4, ground := Ground.phase }, { on := 5, ground := Ground.phase }, { on := 6, ground := Ground.phase }, { on := 7, ground := Ground.phase }, { on := 8, ground := Ground.phase }], guard := none }) (v := ?_) rfl (by kernel_rfl) (by kernel_rfl) (by kernel_rfl) (fun _ _ _ h => h) (Or.inl ⟨by rfl, ?_⟩) (by assumption) ?_
      rotate_left
      · (intro w hSw; (try dsimp only at hSw); go_simp) <;> with_reducible rfl
      try simp only [Act.put, List.setIfInBounds_toArray, List.set_cons_zero, List.set_cons_succ]
      refine wpAnyH_done (by kernel_rfl) ?_ _
      clear hHeld H10
      have a1 : w12.cell? ⟨y1, 0, none⟩ = some (.int .i8 C.way) := cellAt H12.out.a rfl
      have a2 : w12.cell? ⟨y2, 0, none⟩ = some (.int .i8 D.way) := cellAt H12.out.b rfl
      have HB : Hid (Below w.heap.size w w12) := H12.out.r.bel
      have hni := HNI.out.1
      have hn1 := HNI.out.2.1
      have hn2 := HNI.out.2.2
      clear H12
      by_cases hb : zcmp pe pn se sn < 0
      · have hb' : decide (zcmp pe pn se sn < 0) = true := decide_eq_true hb
        have hD := hand_behind pe pn se sn l 0 im2 13830554455654793216 HR.out (by omega) (by omega) (by omega) hb
        rw [← HD.out] at hD
        by_cases hi : im < 0
        · have hC := hand_bad pe pn se sn l l.length im x (.inr hi)
          rw [← HC.out] at hC
          have hi' : decide (0 ≤ im) = false := decide_eq_false (by omega)
          clear HC HD HR HNI H hb hi hni hn1 hn2
          subst hC hD
          generalize hZ : decide (zcmp pe pn se sn < 0) = Z at *
          clear hZ
          subst hb'
          go_wp2_with fail
          go_ret
          exact ⟨rfl, HB.out⟩
        · have hC := hand_behind pe pn se sn l l.length im x HR.out (by omega) (by omega) (by omega) hb
          rw [← HC.out] at hC
          clear HC HD HR HNI H hb hi hni hn1 hn2
          subst hC hD
          generalize hZ : decide (zcmp pe pn se sn < 0) = Z at *
          clear hZ
          subst hb'
          go_wp2_with fail
          go_ret
          exact ⟨rfl, HB.out⟩
      · have hb' : decide (zcmp pe pn se sn < 0) = false := decide_eq_false hb
        have hDD := hand_none pe pn se sn l ni HR.out hl hn1 hn2 hb
        rw [← hni, ← HD.out] at hDD
        have hCC : (im < 0 ∧ C = ⟨0, 0, 0, false, 1⟩) ∨ (¬ im < 0 ∧ ∃ wy a b, (wy = 1 ∨ wy = 2 ∨ wy = 3) ∧ C = ⟨wy, a, b, true, 0⟩) := by
          rw [HC.out]
          by_cases hi : im < 0
          · exact .inl ⟨hi, hand_bad pe pn se sn l l.length im x (.inr hi)⟩
          · exact .inr ⟨hi, hand_all pe pn se sn l im x HR.out (by omega) hb⟩
        clear HC HD HR HNI H hb hni hn1 hn2
        rcases hCC with ⟨hi, rfl⟩ | ⟨hi, wy, a, b, hwy, rfl⟩
        · have hi' : decide (0 ≤ im) = false := decide_eq_false (by omega)
          rcases hDD with ⟨hz, rfl⟩ | ⟨hz, wz, a', b', hwz, rfl⟩
          · have hz' : decide (zcmp pe pn (lstE se l l.length) (lstN sn l l.length) < 0) = true := decide_eq_true hz
            clear hz hi
            generalize hZ : decide (zcmp pe pn se sn < 0) = Z at *
            clear hZ
            generalize hY : decide (zcmp pe pn (lstE se l l.length) (lstN sn l l.length) < 0) = Y at *
            clear hY
            subst hb' hz'
            go_wp2_with fail
            go_ret
            exact ⟨rfl, HB.out⟩
          · have hz' : decide (zcmp pe pn (lstE se l l.length) (lstN sn l l.length) < 0) = false := decide_eq_false hz
            have h4 : (wz == 4) = false := by rcases hwz with h | h | h <;> (rw [h]; rfl)
            clear hwz
            clear hz hi
            generalize hZ : decide (zcmp pe pn se sn < 0) = Z at *
            clear hZ
            generalize hY : decide (zcmp pe pn (lstE se l l.length) (lstN sn l l.length) < 0) = Y at *
            clear hY
            subst hb' hz'
            go_wp2_with fail
            go_ret
            exact ⟨rfl, HB.out⟩
        · have h5 : (wy == 4) = false := by rcases hwy with h | h | h <;> (rw [h]; rfl)
          clear hwy
          rcases hDD with ⟨hz, rfl⟩ | ⟨hz, wz, a', b', hwz, rfl⟩
          · have hz' : decide (zcmp pe pn (lstE se l l.length) (lstN sn l l.length) < 0) = true := decide_eq_true hz
            clear hz hi
            generalize hZ : decide (zcmp pe pn se sn < 0) = Z at *
            clear hZ
            generalize hY : decide (zcmp pe pn (lstE se l l.length) (lstN sn l l.length) < 0) = Y at *
            clear hY
            subst hb' hz'
            go_wp2_with fail
            go_ret
            exact ⟨rfl, HB.out⟩
          · have hz' : decide (zcmp pe pn (lstE se l l.length) (lstN sn l l.length) < 0) = false := decide_eq_false hz
            have h4 : (wz == 4) = false := by rcases hwz with h | h | h <;> (rw [h]; rfl)
            clear hwz
            clear hz hi
            generalize hZ : decide (zcmp pe pn se sn < 0) = Z at *
            clear hZ
            generalize hY : decide (zcmp pe pn (lstE se l l.length) (lstN sn l l.length) < 0) = Y at *
            clear hY
            subst hb' hz'
            go_wp2_with fail
            go_ret
            exact ⟨rfl, HB.out⟩
  · go_wp2_with fail
    go_ret
    exact ⟨rfl, H1.out.bel⟩
end Go.Proofs.YtdodjefeahpafaaDoor
