/- ChooseWays of the statements of layer 14, walked: true for all that came in. -/
import Derived.Test.YtobnggkgpenmfaaGreatDoorChMJ
import Derived.Test.YtobnggkgpenmfaaGreatDoorChOJ
import Derived.Test.YtobnggkgpenmfaaGreatDoorChFJ
import Derived.Test.YtobnggkgpenmfaaGreatDoorCopyFJ
import Derived.Test.YtobnggkgpenmfaaGreatDoorWdJJ
import Derived.Test.YtobnggkgpenmfaaGreatDoorWdKJ
import Derived.Test.YtobnggkgpenmfaaGreatDoorWdLJ
namespace Go.Proofs.YtobnggkgpenmfaaGreatDoor
open Go.RowKit Go.Shelf
set_option maxRecDepth 8000

abbrev chB (c : ChD) : Array Value := #[.int .i8 c.way, .int .u32 c.fe, .int .u32 c.fn, .bool c.near]

/-- The case that came in, and its twin with the wide list, in their places. -/
structure CwR (w W : World) (A B : Array Value) (y0 : Nat) : Prop where
  bel : Below w.heap.size w W
  r : W.heap[w.heap.size]? = some (.cells A 28 (0, 0))
  i : W.heap[y0]? = some (.cells B 28 (0, 0))
  hy : w.heap.size < y0

theorem CwR.kept {w W W' : World} {A B : Array Value} {y0 : Nat} {S : Nat → Prop} (h : CwR w W A B y0) (hk : Kept W W' S) (hS : ∀ q, S q → y0 < q) : CwR w W' A B y0 :=
  ⟨h.bel.trans (hk.below h.bel.size (fun k e => by have := hS k e; have := h.hy; omega)), hk.heap h.r (fun e => by have := hS _ e; have := h.hy; omega), hk.heap h.i (fun e => by have := hS _ e; omega), h.hy⟩
theorem CwR.later {w W W' : World} {A B : Array Value} {y0 : Nat} (h : CwR w W A B y0) (hb : Below W.heap.size W W') : CwR w W' A B y0 :=
  h.kept (Below.kept hb) (fun q e => by have := lt_of_block h.i; omega)

/-- The two choices beside them. -/
structure CwS (w W : World) (A B : Array Value) (y0 y1 y2 : Nat) (C D : ChD) : Prop where
  s : CwR w W A B y0
  a : W.heap[y1]? = some (.cells (chB C) 34 (0, 0))
  b : W.heap[y2]? = some (.cells (chB D) 34 (0, 0))
  h1 : y0 < y1
  h2 : y1 < y2

theorem CwS.later {w W W' : World} {A B : Array Value} {y0 y1 y2 : Nat} {C D : ChD} (h : CwS w W A B y0 y1 y2 C D) (hb : Below W.heap.size W W') : CwS w W' A B y0 y1 y2 C D :=
  ⟨h.s.later hb, (Below.kept hb).heap h.a (by have := lt_of_block h.a; omega), (Below.kept hb).heap h.b (by have := lt_of_block h.b; omega), h.h1, h.h2⟩

theorem storeFP (P : Program) (w : World) (a : Addr) (m : Mode) (k : FloatKind) (b : Nat) : (store a (.float k b) m).run P w = stored P w a (.float k b) m := run_store P w a _ m rfl

set_option maxHeartbeats 1500000 in
theorem ways_walk (pe pn se sn : Int) (v : Value) (l : List TxD) (ca im : Int) (x : Nat) (w : World) (hn : Nam w) (ht : Tab w) (hg0 : 1 < w.heap.size) (h : SeesTxs w v l) (hg : ∀ t ∈ l, t.good) :
    Calls Tryz.prog 3 #[.agg (caseA pe pn se sn v ca im x)] w fun r w' => r = .returned (.bool true) ∧ Below w.heap.size w w' := by
  obtain ⟨ao, cap, rfl, hlc, hcm⟩ := txs_shape h
  unfold maxLen at hcm
  have HC0 : Hid (∀ W, Below w.heap.size w W → SeesTxs W (.slice ao l.length cap) l ∧ Tab W ∧ 1 < W.heap.size ∧ Nam W) := fun W hb =>
    ⟨h.below hb (Nat.le_refl _), ht.below hb hg0, Nat.lt_of_lt_of_le hg0 hb.size, hn.below hb hn.lt⟩
  have HG : Hid (∀ t ∈ l, t.good) := hg
  clear hn h hg ht hg0
  go_enter Tryz.func3, Tryz.ntmps3
  go_wp2_with fail
  have hb0 := one_alloc w (.cells (caseA pe pn se sn (.slice ao l.length cap) ca im x) 28)
  refine (largeTxns_any _ l _ (HC0.out _ hb0).1 HG.out).mono ?_
  rintro _ w1 ⟨bl, rfl, hbl, b1⟩
  have H1 : Hid (Below w.heap.size w w1 ∧ w1.heap[w.heap.size]? = some (.cells (caseA pe pn se sn (.slice ao l.length cap) ca im x) 28 (0, 0))) := ⟨hb0.trans (b1.mono hb0.size), (Below.kept b1).heap (heap_alloc_new w _) (by simp)⟩
  clear hb0 b1
  cases bl
  · have HL : Hid (l.length ≤ 1000000 ∧ ∀ t ∈ l, t.rq.parts ≤ 20000) := hbl rfl
    clear hbl
    have hl := HL.out.1
    go_wp2_with fail
    refine (lives14_any _ (HC0.out _ H1.out.1).2.2.2).mono ?_
    rintro _ w2 ⟨rfl, b2⟩
    have H2 : Hid (Below w.heap.size w w2 ∧ w2.heap[w.heap.size]? = some (.cells (caseA pe pn se sn (.slice ao l.length cap) ca im x) 28 (0, 0))) := ⟨H1.out.1.trans (b2.mono H1.out.1.size), (Below.kept b2).heap H1.out.2 (by have := lt_of_block H1.out.2; omega)⟩
    clear b2 H1
    have c0 : w2.cell? ⟨w.heap.size, 0, none⟩ = some (.int .u32 pe) := cellAt H2.out.2 rfl
    have c1 : w2.cell? ⟨w.heap.size, 1, none⟩ = some (.int .u32 pn) := cellAt H2.out.2 rfl
    have c2 : w2.cell? ⟨w.heap.size, 2, none⟩ = some (.int .u32 se) := cellAt H2.out.2 rfl
    have c3 : w2.cell? ⟨w.heap.size, 3, none⟩ = some (.int .u32 sn) := cellAt H2.out.2 rfl
    have c4 : w2.cell? ⟨w.heap.size, 4, none⟩ = some (.slice ao l.length cap) := cellAt H2.out.2 rfl
    have c5 : w2.cell? ⟨w.heap.size, 5, none⟩ = some (.int .i64 ca) := cellAt H2.out.2 rfl
    have c6 : w2.cell? ⟨w.heap.size, 6, none⟩ = some (.int .i64 im) := cellAt H2.out.2 rfl
    have c7 : w2.cell? ⟨w.heap.size, 7, none⟩ = some (.float .f64 x) := cellAt H2.out.2 rfl
    obtain ⟨y0, hy0⟩ : ∃ y0, y0 = w2.heap.size := ⟨_, rfl⟩
    obtain ⟨w3, hw3⟩ : ∃ w3, w3 = w2.alloc (.cells (caseA pe pn se sn (.slice ao l.length cap) ca im x) 28) := ⟨_, rfl⟩
    have H3 : Hid (CwR w w3 (caseA pe pn se sn (.slice ao l.length cap) ca im x) (caseA pe pn se sn (.slice ao l.length cap) ca im x) y0) := by
      have hyy : w.heap.size < y0 := by rw [hy0]; exact lt_of_block H2.out.2
      subst hw3; subst hy0
      exact ⟨H2.out.1.alloc H2.out.1.size _, by rw [Below.heap_alloc _ _ _ hyy]; exact H2.out.2, heap_alloc_new _ _, hyy⟩
    have HE3 : Hid (w3 = w2.alloc (.cells (caseA pe pn se sn (.slice ao l.length cap) ca im x) 28) ∧ y0 = w2.heap.size) := ⟨hw3, hy0⟩
    clear hw3 hy0
    have hsf := storeFP
    go_upto_region 5 with fail
    clear hsf
    rw [← HE3.out.1, ← HE3.out.2]
    clear HE3 H2 c0 c1 c2 c3 c4 c5 c6 c7
    have c4 : w3.cell? ⟨w.heap.size, 4, none⟩ = some (.slice ao l.length cap) := cellAt H3.out.r rfl
    go_wp2_with fail
    refine (wideTxns_any _ l _ (HC0.out _ H3.out.bel).1 HL.out.1 HL.out.2 (HC0.out _ H3.out.bel).2.1 (HC0.out _ H3.out.bel).2.2.1).mono ?_
    rintro _ w4 ⟨rfl, hw4, b4⟩
    obtain ⟨g, hgg⟩ : ∃ g, g = w3.heap.size := ⟨_, rfl⟩
    rw [← hgg] at hw4
    rw [← hgg]
    have H4 : Hid (CwR w w4 (caseA pe pn se sn (.slice ao l.length cap) ca im x) (caseA pe pn se sn (.slice ao l.length cap) ca im x) y0 ∧ WidT w4 g (fun q => g < q ∧ q < w4.heap.size) l ∧ y0 < g) := ⟨H3.out.later b4, hw4, by rw [hgg]; exact lt_of_block H3.out.i⟩
    clear b4 hw4 hgg H3 c4
    have d4 : w4.cell? ⟨y0, 4, none⟩ = some (.slice ao l.length cap) := cellAt H4.out.1.i rfl
    have fd4 : w4.frozen? ⟨y0, 4, none⟩ = false := frozen_of_row _ _ _ _ _ H4.out.1.i
    obtain ⟨w5, hw5⟩ : ∃ w5, w5 = w4.setCell ⟨y0, 4, none⟩ (.slice (some ⟨g, 0, none⟩) l.length (l.length + 64)) := ⟨_, rfl⟩
    have H5 : Hid (CwR w w5 (caseA pe pn se sn (.slice ao l.length cap) ca im x) (caseA pe pn se sn (.slice (some ⟨g, 0, none⟩) l.length (l.length + 64)) ca im x) y0 ∧ WidT w5 g (fun q => g < q ∧ q < w5.heap.size) l ∧ y0 < g) := by
      have hyy := H4.out.1.hy
      have hyg := H4.out.2.2
      have hk : Kept w4 w5 (fun q => q = y0) := by rw [hw5]; exact (Kept.refl w4 (fun q => q = y0)).setCell ⟨y0, 4, none⟩ _ (fun _ => rfl)
      have hsz : w5.heap.size = w4.heap.size := by rw [hw5]; simp [World.setCell]
      refine ⟨⟨H4.out.1.bel.trans (hk.below H4.out.1.bel.size (fun k e => by omega)), hk.heap H4.out.1.r (by omega), ?_, hyy⟩, ?_, hyg⟩
      · rw [hw5, heap_setR _ H4.out.1.i]; rfl
      · obtain ⟨fl, E, h1, h2, h3, h4⟩ := H4.out.2.1
        exact ⟨fl, E, ownsRow_kept h1 hk (fun q hq e => by cases hq; have e' : g = y0 := e; omega), h2, fun i hi => (h3 i hi).kept hk (fun k hk' => ⟨fun e => by have e' : k = y0 := e; have := hk'.1; omega, hk'.1, by rw [hsz]; exact hk'.2⟩), h4⟩
    have HE5 : Hid _ := hw5
    clear hw5
    go_upto_region 6 with fail
    rw [← HE5.out]
    clear HE5 H4 d4 fd4
    have HYG : Hid (y0 < g) := H5.out.2.2
    have HW5 : Hid (∀ W, Below w5.heap.size w5 W → WidT W g (fun q => g < q ∧ q < w5.heap.size) l) := fun W hW => H5.out.2.1.below (fun q hq => hq.2) hW
    have d0 : w5.cell? ⟨y0, 0, none⟩ = some (.int .u32 pe) := cellAt H5.out.1.i rfl
    have d1 : w5.cell? ⟨y0, 1, none⟩ = some (.int .u32 pn) := cellAt H5.out.1.i rfl
    have d2 : w5.cell? ⟨y0, 2, none⟩ = some (.int .u32 se) := cellAt H5.out.1.i rfl
    have d3 : w5.cell? ⟨y0, 3, none⟩ = some (.int .u32 sn) := cellAt H5.out.1.i rfl
    have d4 : w5.cell? ⟨y0, 4, none⟩ = some (.slice (some ⟨g, 0, none⟩) l.length (l.length + 64)) := cellAt H5.out.1.i rfl
    have d5 : w5.cell? ⟨y0, 5, none⟩ = some (.int .i64 ca) := cellAt H5.out.1.i rfl
    have d6 : w5.cell? ⟨y0, 6, none⟩ = some (.int .i64 im) := cellAt H5.out.1.i rfl
    have d7 : w5.cell? ⟨y0, 7, none⟩ = some (.float .f64 x) := cellAt H5.out.1.i rfl
    obtain ⟨C, hC⟩ : ∃ C, C = chW pe pn se sn l ca im x := ⟨_, rfl⟩
    have HC : Hid _ := hC
    clear hC
    go_wp2_with fail
    refine (ask_any pe pn se sn _ l ca im x w5 ((HW5.out _ (Below.refl _ _)).sees (by omega) HL.out.2) HG.out (HC0.out _ H5.out.1.bel).2.2.2 hl).mono ?_
    rintro _ w6 ⟨rfl, b6⟩
    rw [← HC.out]
    obtain ⟨y1, hy1⟩ : ∃ y1, y1 = w6.heap.size := ⟨_, rfl⟩
    obtain ⟨w7, hw7⟩ : ∃ w7, w7 = w6.alloc (.cells (chB C) 34) := ⟨_, rfl⟩
    have b7 : Below w5.heap.size w5 w7 := by rw [hw7]; exact b6.alloc b6.size _
    have H7 : Hid (CwR w w7 (caseA pe pn se sn (.slice ao l.length cap) ca im x) (caseA pe pn se sn (.slice (some ⟨g, 0, none⟩) l.length (l.length + 64)) ca im x) y0 ∧ w7.heap[y1]? = some (.cells (chB C) 34 (0, 0)) ∧ y0 < y1 ∧ Below w5.heap.size w5 w7 ∧ g < y1) := by
      refine ⟨H5.out.1.later b7, ?_, ?_, b7, ?_⟩
      · subst hw7; subst hy1; exact heap_alloc_new _ _
      · rw [hy1]; exact lt_of_block (H5.out.1.later b6).i
      · obtain ⟨fl, E, h1, _⟩ := H5.out.2.1
        have := (h1.lt g rfl).2
        rw [hy1]
        exact Nat.lt_of_lt_of_le this b6.size
    have HE7 : Hid (w7 = w6.alloc (.cells (chB C) 34) ∧ y1 = w6.heap.size) := ⟨hw7, hy1⟩
    clear hw7 hy1 b6 b7 d0 d1 d2 d3 d4 d5 d6 d7
    dsimp only [ChD.val]
    go_upto_region 7 with fail
    rw [← HE7.out.1, ← HE7.out.2]
    clear HE7 H5
    have c0 : w7.cell? ⟨w.heap.size, 0, none⟩ = some (.int .u32 pe) := cellAt H7.out.1.r rfl
    have c1 : w7.cell? ⟨w.heap.size, 1, none⟩ = some (.int .u32 pn) := cellAt H7.out.1.r rfl
    have c2 : w7.cell? ⟨w.heap.size, 2, none⟩ = some (.int .u32 se) := cellAt H7.out.1.r rfl
    have c3 : w7.cell? ⟨w.heap.size, 3, none⟩ = some (.int .u32 sn) := cellAt H7.out.1.r rfl
    have c4 : w7.cell? ⟨w.heap.size, 4, none⟩ = some (.slice ao l.length cap) := cellAt H7.out.1.r rfl
    have c5 : w7.cell? ⟨w.heap.size, 5, none⟩ = some (.int .i64 ca) := cellAt H7.out.1.r rfl
    have c6 : w7.cell? ⟨w.heap.size, 6, none⟩ = some (.int .i64 im) := cellAt H7.out.1.r rfl
    have c7 : w7.cell? ⟨w.heap.size, 7, none⟩ = some (.float .f64 x) := cellAt H7.out.1.r rfl
    go_wp2_with fail
    refine (refWay_any pe pn se sn _ l ca im x w7 (HC0.out _ H7.out.1.bel).1 HG.out hl).mono ?_
    rintro _ w8 ⟨rfl, b8⟩
    rw [← HC.out]
    obtain ⟨y2, hy2⟩ : ∃ y2, y2 = w8.heap.size := ⟨_, rfl⟩
    obtain ⟨w9, hw9⟩ : ∃ w9, w9 = w8.alloc (.cells (chB C) 34) := ⟨_, rfl⟩
    have b9 : Below w7.heap.size w7 w9 := by rw [hw9]; exact b8.alloc b8.size _
    have H9 : Hid (CwS w w9 (caseA pe pn se sn (.slice ao l.length cap) ca im x) (caseA pe pn se sn (.slice (some ⟨g, 0, none⟩) l.length (l.length + 64)) ca im x) y0 y1 y2 C C ∧ Below w5.heap.size w5 w9 ∧ g < y1) := by
      refine ⟨⟨H7.out.1.later b9, (Below.kept b9).heap H7.out.2.1 (by have := lt_of_block H7.out.2.1; omega), ?_, H7.out.2.2.1, ?_⟩, H7.out.2.2.2.1.trans (b9.mono H7.out.2.2.2.1.size), H7.out.2.2.2.2⟩
      · subst hw9; subst hy2; exact heap_alloc_new _ _
      · rw [hy2]; exact lt_of_block ((Below.kept b8).heap H7.out.2.1 (by have := lt_of_block H7.out.2.1; omega))
    have HE9 : Hid (w9 = w8.alloc (.cells (chB C) 34) ∧ y2 = w8.heap.size) := ⟨hw9, hy2⟩
    clear hw9 hy2 b8 b9 c0 c1 c2 c3 c4 c5 c6 c7
    dsimp only [ChD.val]
    go_upto_region 8 with fail
    rw [← HE9.out.1, ← HE9.out.2]
    clear HE9 H7
    have a0 : w9.cell? ⟨y1, 0, none⟩ = some (.int .i8 C.way) := cellAt H9.out.1.a rfl
    have a1 : w9.cell? ⟨y1, 1, none⟩ = some (.int .u32 C.fe) := cellAt H9.out.1.a rfl
    have a2 : w9.cell? ⟨y1, 2, none⟩ = some (.int .u32 C.fn) := cellAt H9.out.1.a rfl
    have a3 : w9.cell? ⟨y1, 3, none⟩ = some (.bool C.near) := cellAt H9.out.1.a rfl
    have b0 : w9.cell? ⟨y2, 0, none⟩ = some (.int .i8 C.way) := cellAt H9.out.1.b rfl
    have b1 : w9.cell? ⟨y2, 1, none⟩ = some (.int .u32 C.fe) := cellAt H9.out.1.b rfl
    have b2 : w9.cell? ⟨y2, 2, none⟩ = some (.int .u32 C.fn) := cellAt H9.out.1.b rfl
    have b3 : w9.cell? ⟨y2, 3, none⟩ = some (.bool C.near) := cellAt H9.out.1.b rfl
    have d4 : w9.cell? ⟨y0, 4, none⟩ = some (.slice (some ⟨g, 0, none⟩) l.length (l.length + 64)) := cellAt H9.out.1.s.i rfl
    have c4 : w9.cell? ⟨w.heap.size, 4, none⟩ = some (.slice ao l.length cap) := cellAt H9.out.1.s.r rfl
    have hne := neqCh C.way C.fe C.fn C.near
    have hgq : Tryz.prog.eqGuardType Tryz.prog.depth 34 = false := by kernel_rfl
    go_wp2_with fail
    refine (eqTxns_same _ _ l _ ((HW5.out _ H9.out.2.1).sees (by omega) HL.out.2) (HC0.out _ H9.out.1.s.bel).1).mono ?_
    rintro _ w10 ⟨rfl, b10⟩
    have H10 : Hid (CwS w w10 (caseA pe pn se sn (.slice ao l.length cap) ca im x) (caseA pe pn se sn (.slice (some ⟨g, 0, none⟩) l.length (l.length + 64)) ca im x) y0 y1 y2 C C ∧ Below w5.heap.size w5 w10 ∧ g < y1) := ⟨H9.out.1.later b10, H9.out.2.1.trans (b10.mono H9.out.2.1.size), H9.out.2.2⟩
    clear b10 H9 a0 a1 a2 a3 b0 b1 b2 b3 c4 d4
    have d4 : w10.cell? ⟨y0, 4, none⟩ = some (.slice (some ⟨g, 0, none⟩) l.length (l.length + 64)) := cellAt H10.out.1.s.i rfl
    go_wp2_with fail
    refine (spareTxns_any g _ l _ (HW5.out _ H10.out.2.1) (fun q hq => Nat.lt_of_lt_of_le hq.2 H10.out.2.1.size) HL.out.1 HL.out.2 (HC0.out _ H10.out.1.s.bel).2.1 (HC0.out _ H10.out.1.s.bel).2.2.1).mono ?_
    rintro _ w11 ⟨rfl, b11⟩
    have H11 : Hid (CwS w w11 (caseA pe pn se sn (.slice ao l.length cap) ca im x) (caseA pe pn se sn (.slice (some ⟨g, 0, none⟩) l.length (l.length + 64)) ca im x) y0 y1 y2 C C ∧ WdZ w11 g l ∧ g < y1 ∧ y0 < g ∧ g < w11.heap.size) := by
      have b := H10.out.2.1.trans (b11.mono H10.out.2.1.size)
      have hw := HW5.out _ b
      refine ⟨H10.out.1.later b11, hw.wdz (fun q hq => by omega) HL.out.2, H10.out.2.2, ?_, ?_⟩
      · exact HYG.out
      · obtain ⟨fl, E, h1, _⟩ := hw
        exact (h1.lt g rfl).2
    clear b11 H10 HW5 d4 hne
    go_upto_region 10 with fail
    go_wp2_with fail
    go_loopw [9] (fun i wr => ∃ k : Nat, k ≤ l.length ∧ i = .int .i64 k ∧ Hid (CwS w wr (caseA pe pn se sn (.slice ao l.length cap) ca im x) (caseA pe pn se sn (.slice (some ⟨g, 0, none⟩) l.length (l.length + 64)) ca im x) y0 y1 y2 C C ∧ WdZ wr g (zset l k) ∧ g < y1 ∧ y0 < g ∧ g < wr.heap.size)) (fun i _ => l.length - (intOf i).toNat)
    case atStart => exact ⟨0, Nat.zero_le _, rfl, H11⟩
    case round =>
    obtain ⟨k, hk, rfl, HB⟩ := hrel
    clear H11
    by_cases hlt : k < l.length
    · obtain ⟨rc, hr, hat⟩ := HB.out.2.1.at_ k (by rw [zset_len]; exact hlt)
      have e0 : wr.cell? ⟨g, k * 16, none⟩ = some (.int .u32 ((zset l k)[k]'(by rw [zset_len]; exact hlt)).ep) := hat 0 (by omega)
      have e1 : wr.cell? ⟨g, k * 16 + 1, none⟩ = some (.int .u32 ((zset l k)[k]'(by rw [zset_len]; exact hlt)).n) := hat 1 (by omega)
      have f0 := HB.out.2.1.frz (k * 16)
      have f1 := HB.out.2.1.frz (k * 16 + 1)
      have d4 : wr.cell? ⟨y0, 4, none⟩ = some (.slice (some ⟨g, 0, none⟩) l.length (l.length + 64)) := cellAt HB.out.1.s.i rfl
      have hku : IntKind.u32.wrap (k : Int) = k := by
        simp [IntKind.wrap, IntKind.bits, IntKind.signed]; omega
      have HN : Hid (CwS w ((wr.setCell ⟨g, k * 16, none⟩ (.int .u32 9)).setCell ⟨g, k * 16 + 1, none⟩ (.int .u32 k)) (caseA pe pn se sn (.slice ao l.length cap) ca im x) (caseA pe pn se sn (.slice (some ⟨g, 0, none⟩) l.length (l.length + 64)) ca im x) y0 y1 y2 C C ∧ WdZ ((wr.setCell ⟨g, k * 16, none⟩ (.int .u32 9)).setCell ⟨g, k * 16 + 1, none⟩ (.int .u32 k)) g (zset l (k + 1)) ∧ g < y1 ∧ y0 < g ∧ g < ((wr.setCell ⟨g, k * 16, none⟩ (.int .u32 9)).setCell ⟨g, k * 16 + 1, none⟩ (.int .u32 k)).heap.size) := by
        have hK : Kept wr ((wr.setCell ⟨g, k * 16, none⟩ (.int .u32 9)).setCell ⟨g, k * 16 + 1, none⟩ (.int .u32 k)) (fun q => q = g) := ((Kept.refl wr (fun q => q = g)).setCell ⟨g, k * 16, none⟩ _ (fun _ => rfl)).setCell ⟨g, k * 16 + 1, none⟩ _ (fun _ => rfl)
        obtain ⟨x1, x2, x3, x4, x5⟩ := HB.out
        refine ⟨⟨x1.s.kept hK (fun q e => by omega), hK.heap x1.a (by omega), hK.heap x1.b (by have := x1.h2; omega), x1.h1, x1.h2⟩, ?_, x3, x4, Nat.lt_of_lt_of_le x5 hK.size⟩
        rw [zset_next l k hlt]
        exact x2.set k (by rw [zset_len]; exact hlt) 9 k
      clear hat hr HB
      generalize ((zset l k)[k]'(by rw [zset_len]; exact hlt)) = t0 at *
      go_wp2_with fail
      go_roundw
      case rel => exact ⟨k + 1, by omega, by go_num, HN⟩
      case measure => simp [intOf]; omega
    · obtain rfl : k = l.length := by omega
      have hzl : (zset l l.length).length = l.length := zset_len l l.length
      have HM : Hid ((∀ t ∈ zset l l.length, t.good) ∧ (∀ t ∈ zset l l.length, t.rq.parts ≤ 20000)) := by
        refine ⟨zset_mem l _ (fun t ht => ⟨HG.out t ht, fun q hq => ?_⟩) _, zset_mem l _ (fun t ht => ⟨HL.out.2 t ht, fun q hq => HL.out.2 t ht⟩) _⟩
        have := HG.out t ht
        exact ⟨by show (0 : Int) ≤ 9; omega, by show (9 : Int) ≤ 4294967295; omega, by show (0 : Int) ≤ (q : Int); omega, by show (q : Int) ≤ 4294967295; omega, this.s0, this.s1, this.b0, this.b1, this.m0, this.m1, this.rq⟩
      have HSz : Hid (∀ W, Below wr.heap.size wr W → SeesTxs W (.slice (some ⟨g, 0, none⟩) l.length (l.length + 64)) (zset l l.length)) := fun W hW => by
        have := HB.out.2.1.sees (l.length + 64) (by rw [hzl]; omega) (by unfold maxLen; omega)
        rw [hzl] at this
        exact this.below hW (Nat.le_refl _)
      have HLz : Hid ((zset l l.length).length ≤ 1000000) := by show (zset l l.length).length ≤ 1000000; rw [hzl]; exact hl
      have HZ : Hid (CwS w wr (caseA pe pn se sn (.slice ao l.length cap) ca im x) (caseA pe pn se sn (.slice (some ⟨g, 0, none⟩) l.length (l.length + 64)) ca im x) y0 y1 y2 C C) := HB.out.1
      clear hzl HB
      generalize zset l l.length = lz at *
      have d4 : wr.cell? ⟨y0, 4, none⟩ = some (.slice (some ⟨g, 0, none⟩) l.length (l.length + 64)) := cellAt HZ.out.s.i rfl
      go_wp2_with fail
      refine (copyTxnsF_any _ lz _ (HSz.out _ (Below.refl _ _)) HLz.out HM.out.2).mono ?_
      rintro _ w12 ⟨u, es, rfl, hfe, hou, b12⟩
      have hsu : SeesTxs w12 u lz := full_sees hfe hou
      obtain ⟨ua, uc, rfl, _, _⟩ := txs_shape hsu
      have H12 : Hid (CwS w w12 (caseA pe pn se sn (.slice ao l.length cap) ca im x) (caseA pe pn se sn (.slice (some ⟨g, 0, none⟩) l.length (l.length + 64)) ca im x) y0 y1 y2 C C ∧ Below wr.heap.size wr w12 ∧ ∀ (W : World) (S : Nat → Prop), Kept w12 W S → (∀ q, S q → q < wr.heap.size ∨ w12.heap.size ≤ q) → SeesTxs W (.slice ua lz.length uc) lz) := ⟨HZ.out.later b12, b12, fun W S hk hS => full_sees (full_kept hfe hou hk hS).1 (full_kept hfe hou hk hS).2⟩
      have HY1 : Hid (y1 < wr.heap.size) := lt_of_block HZ.out.a
      clear b12 hfe hou hsu d4 HZ
      have d0 : w12.cell? ⟨y0, 0, none⟩ = some (.int .u32 pe) := cellAt H12.out.1.s.i rfl
      have d1 : w12.cell? ⟨y0, 1, none⟩ = some (.int .u32 pn) := cellAt H12.out.1.s.i rfl
      have d2 : w12.cell? ⟨y0, 2, none⟩ = some (.int .u32 se) := cellAt H12.out.1.s.i rfl
      have d3 : w12.cell? ⟨y0, 3, none⟩ = some (.int .u32 sn) := cellAt H12.out.1.s.i rfl
      have d4 : w12.cell? ⟨y0, 4, none⟩ = some (.slice (some ⟨g, 0, none⟩) l.length (l.length + 64)) := cellAt H12.out.1.s.i rfl
      have d5 : w12.cell? ⟨y0, 5, none⟩ = some (.int .i64 ca) := cellAt H12.out.1.s.i rfl
      have d6 : w12.cell? ⟨y0, 6, none⟩ = some (.int .i64 im) := cellAt H12.out.1.s.i rfl
      have d7 : w12.cell? ⟨y0, 7, none⟩ = some (.float .f64 x) := cellAt H12.out.1.s.i rfl
      obtain ⟨D, hD⟩ : ∃ D, D = chW pe pn se sn lz ca im x := ⟨_, rfl⟩
      have HD : Hid _ := hD
      clear hD
      go_wp2_with fail
      refine (ask_any pe pn se sn _ lz ca im x _ (HSz.out _ H12.out.2.1) HM.out.1 (HC0.out _ H12.out.1.s.bel).2.2.2 HLz.out).mono ?_
      rintro _ w13 ⟨rfl, b13⟩
      rw [← HD.out]
      have H13 : Hid (CwS w w13 (caseA pe pn se sn (.slice ao l.length cap) ca im x) (caseA pe pn se sn (.slice (some ⟨g, 0, none⟩) l.length (l.length + 64)) ca im x) y0 y1 y2 C C ∧ Below w12.heap.size w12 w13) := ⟨H12.out.1.later b13, b13⟩
      clear b13 d0 d1 d2 d3 d4 d5 d6 d7
      have a0 : w13.cell? ⟨y1, 0, none⟩ = some (.int .i8 C.way) := cellAt H13.out.1.a rfl
      have a1 : w13.cell? ⟨y1, 1, none⟩ = some (.int .u32 C.fe) := cellAt H13.out.1.a rfl
      have a2 : w13.cell? ⟨y1, 2, none⟩ = some (.int .u32 C.fn) := cellAt H13.out.1.a rfl
      have a3 : w13.cell? ⟨y1, 3, none⟩ = some (.bool C.near) := cellAt H13.out.1.a rfl
      have fa0 : w13.frozen? ⟨y1, 0, none⟩ = false := frozen_of_row _ _ _ _ _ H13.out.1.a
      have fa1 : w13.frozen? ⟨y1, 1, none⟩ = false := frozen_of_row _ _ _ _ _ H13.out.1.a
      have fa2 : w13.frozen? ⟨y1, 2, none⟩ = false := frozen_of_row _ _ _ _ _ H13.out.1.a
      have fa3 : w13.frozen? ⟨y1, 3, none⟩ = false := frozen_of_row _ _ _ _ _ H13.out.1.a
      obtain ⟨w14, hw14⟩ : ∃ w14, w14 = (((w13.setCell ⟨y1, 0, none⟩ (.int .i8 D.way)).setCell ⟨y1, 1, none⟩ (.int .u32 D.fe)).setCell ⟨y1, 2, none⟩ (.int .u32 D.fn)).setCell ⟨y1, 3, none⟩ (.bool D.near) := ⟨_, rfl⟩
      have H14 : Hid (CwS w w14 (caseA pe pn se sn (.slice ao l.length cap) ca im x) (caseA pe pn se sn (.slice (some ⟨g, 0, none⟩) l.length (l.length + 64)) ca im x) y0 y1 y2 D C ∧ SeesTxs w14 (.slice ua lz.length uc) lz) := by
        have hK : Kept w13 w14 (fun q => q = y1) := by
          rw [hw14]
          exact ((((Kept.refl w13 (fun q => q = y1)).setCell ⟨y1, 0, none⟩ _ (fun _ => rfl)).setCell ⟨y1, 1, none⟩ _ (fun _ => rfl)).setCell ⟨y1, 2, none⟩ _ (fun _ => rfl)).setCell ⟨y1, 3, none⟩ _ (fun _ => rfl)
        obtain ⟨x1, x2⟩ := H13.out
        refine ⟨⟨x1.s.kept hK (fun q e => by have := x1.h1; omega), ?_, hK.heap x1.b (by have := x1.h2; omega), x1.h1, x1.h2⟩, ?_⟩
        · rw [hw14, heap_setR _ (heap_setR _ (heap_setR _ (heap_setR _ x1.a)))]; rfl
        · exact H12.out.2.2 w14 (fun q => w12.heap.size ≤ q ∨ q = y1) (((Below.kept x2).mono (fun q _ h => Or.inl h)).trans hK (fun q _ h => .inr h)) (fun q hq => by have := HY1.out; omega)
      have HE14 : Hid _ := hw14
      clear hw14
      dsimp only [ChD.val]
      go_upto_region 16 with fail
      rw [← HE14.out]
      clear HE14 H13 a0 a1 a2 a3 fa0 fa1 fa2 fa3
      have c0 : w14.cell? ⟨w.heap.size, 0, none⟩ = some (.int .u32 pe) := cellAt H14.out.1.s.r rfl
      have c1 : w14.cell? ⟨w.heap.size, 1, none⟩ = some (.int .u32 pn) := cellAt H14.out.1.s.r rfl
      have c2 : w14.cell? ⟨w.heap.size, 2, none⟩ = some (.int .u32 se) := cellAt H14.out.1.s.r rfl
      have c3 : w14.cell? ⟨w.heap.size, 3, none⟩ = some (.int .u32 sn) := cellAt H14.out.1.s.r rfl
      have c4 : w14.cell? ⟨w.heap.size, 4, none⟩ = some (.slice ao l.length cap) := cellAt H14.out.1.s.r rfl
      have c5 : w14.cell? ⟨w.heap.size, 5, none⟩ = some (.int .i64 ca) := cellAt H14.out.1.s.r rfl
      have c6 : w14.cell? ⟨w.heap.size, 6, none⟩ = some (.int .i64 im) := cellAt H14.out.1.s.r rfl
      have c7 : w14.cell? ⟨w.heap.size, 7, none⟩ = some (.float .f64 x) := cellAt H14.out.1.s.r rfl
      go_wp2_with fail
      refine (refWay_any pe pn se sn _ lz ca im x _ H14.out.2 HM.out.1 HLz.out).mono ?_
      rintro _ w15 ⟨rfl, b15⟩
      rw [← HD.out]
      have H15 : Hid (CwS w w15 (caseA pe pn se sn (.slice ao l.length cap) ca im x) (caseA pe pn se sn (.slice (some ⟨g, 0, none⟩) l.length (l.length + 64)) ca im x) y0 y1 y2 D C) := H14.out.1.later b15
      clear b15 H14 c0 c1 c2 c3 c4 c5 c6 c7
      have b0 : w15.cell? ⟨y2, 0, none⟩ = some (.int .i8 C.way) := cellAt H15.out.b rfl
      have b1 : w15.cell? ⟨y2, 1, none⟩ = some (.int .u32 C.fe) := cellAt H15.out.b rfl
      have b2 : w15.cell? ⟨y2, 2, none⟩ = some (.int .u32 C.fn) := cellAt H15.out.b rfl
      have b3 : w15.cell? ⟨y2, 3, none⟩ = some (.bool C.near) := cellAt H15.out.b rfl
      have fb0 : w15.frozen? ⟨y2, 0, none⟩ = false := frozen_of_row _ _ _ _ _ H15.out.b
      have fb1 : w15.frozen? ⟨y2, 1, none⟩ = false := frozen_of_row _ _ _ _ _ H15.out.b
      have fb2 : w15.frozen? ⟨y2, 2, none⟩ = false := frozen_of_row _ _ _ _ _ H15.out.b
      have fb3 : w15.frozen? ⟨y2, 3, none⟩ = false := frozen_of_row _ _ _ _ _ H15.out.b
      have a0 : w15.cell? ⟨y1, 0, none⟩ = some (.int .i8 D.way) := cellAt H15.out.a rfl
      have a1 : w15.cell? ⟨y1, 1, none⟩ = some (.int .u32 D.fe) := cellAt H15.out.a rfl
      have a2 : w15.cell? ⟨y1, 2, none⟩ = some (.int .u32 D.fn) := cellAt H15.out.a rfl
      have a3 : w15.cell? ⟨y1, 3, none⟩ = some (.bool D.near) := cellAt H15.out.a rfl
      obtain ⟨w16, hw16⟩ : ∃ w16, w16 = (((w15.setCell ⟨y2, 0, none⟩ (.int .i8 D.way)).setCell ⟨y2, 1, none⟩ (.int .u32 D.fe)).setCell ⟨y2, 2, none⟩ (.int .u32 D.fn)).setCell ⟨y2, 3, none⟩ (.bool D.near) := ⟨_, rfl⟩
      have H16 : Hid (CwS w w16 (caseA pe pn se sn (.slice ao l.length cap) ca im x) (caseA pe pn se sn (.slice (some ⟨g, 0, none⟩) l.length (l.length + 64)) ca im x) y0 y1 y2 D D) := by
        have hK : Kept w15 w16 (fun q => q = y2) := by
          rw [hw16]
          exact ((((Kept.refl w15 (fun q => q = y2)).setCell ⟨y2, 0, none⟩ _ (fun _ => rfl)).setCell ⟨y2, 1, none⟩ _ (fun _ => rfl)).setCell ⟨y2, 2, none⟩ _ (fun _ => rfl)).setCell ⟨y2, 3, none⟩ _ (fun _ => rfl)
        have x1 := H15.out
        have q1 := x1.h1
        have q2 := x1.h2
        refine ⟨x1.s.kept hK (fun q e => by omega), hK.heap x1.a (by omega), ?_, x1.h1, x1.h2⟩
        rw [hw16, heap_setR _ (heap_setR _ (heap_setR _ (heap_setR _ x1.b)))]; rfl
      have HE16 : Hid _ := hw16
      clear hw16
      dsimp only [ChD.val]
      go_upto_region 17 with fail
      rw [← HE16.out]
      clear HE16 H15 a0 a1 a2 a3 b0 b1 b2 b3 fb0 fb1 fb2 fb3
      have a0 : w16.cell? ⟨y1, 0, none⟩ = some (.int .i8 D.way) := cellAt H16.out.a rfl
      have a1 : w16.cell? ⟨y1, 1, none⟩ = some (.int .u32 D.fe) := cellAt H16.out.a rfl
      have a2 : w16.cell? ⟨y1, 2, none⟩ = some (.int .u32 D.fn) := cellAt H16.out.a rfl
      have a3 : w16.cell? ⟨y1, 3, none⟩ = some (.bool D.near) := cellAt H16.out.a rfl
      have b0 : w16.cell? ⟨y2, 0, none⟩ = some (.int .i8 D.way) := cellAt H16.out.b rfl
      have b1 : w16.cell? ⟨y2, 1, none⟩ = some (.int .u32 D.fe) := cellAt H16.out.b rfl
      have b2 : w16.cell? ⟨y2, 2, none⟩ = some (.int .u32 D.fn) := cellAt H16.out.b rfl
      have b3 : w16.cell? ⟨y2, 3, none⟩ = some (.bool D.near) := cellAt H16.out.b rfl
      have HBF : Hid (Below w.heap.size w w16) := H16.out.s.bel
      have heq := eqCh D.way D.fe D.fn D.near
      clear H16 H12 HSz HM HLz
      go_wp2_with fail
      go_ret
      exact ⟨rfl, HBF.out⟩
  · go_wp2_with fail
    go_ret
    exact ⟨rfl, H1.out.1⟩
end Go.Proofs.YtobnggkgpenmfaaGreatDoor
