/- lagoonref00's WideAcl and WideIds: lists of their own with marks behind them. -/
import Derived.Test.YtgoiefhhbgollaaGreatDoorQcKJ
import Derived.Test.YtgoiefhhbgollaaGreatDoorQcQJ
import Derived.Test.YtgoiefhhbgollaaGreatDoorMarkSJ
import Derived.Deep.RegionHeld
namespace Go.Proofs.YtgoiefhhbgollaaGreatDoor
open Go.RowKit Go.Shelf
set_option maxRecDepth 8000

/-- What stands at a place of a wide list. -/
def wdE (l : List EnT) (j : Nat) : EnT := l.getD j (0, ⟨#[]⟩, markS (-3000000 - (j : Int)))
/-- The first k of a wide list. -/
def WdE (l : List EnT) (k : Nat) (cs : List Value) : Prop := ∀ j, j < k → cs[j * 3]? = some (.int .i8 (wdE l j).1) ∧ cs[j * 3 + 1]? = some (.string (wdE l j).2.1) ∧ cs[j * 3 + 2]? = some (.string (wdE l j).2.2)
/-- A wide list in block g. -/
def WideE (w : World) (g : Nat) (l : List EnT) : Prop := ∃ cs, w.ownsRow g 39 3 (.slice (some ⟨g, 0, none⟩) (l.length + 64) (l.length + 64)) (l.length + 64) cs ∧ WdE l (l.length + 64) cs

theorem WdE_step {l : List EnT} {k : Nat} {cs : List Value} (h : WdE l k cs) (hl : k * 3 + 3 ≤ cs.length) {x : EnT} (hx : x = wdE l k) : WdE l (k + 1) (((cs.set (k * 3) (.int .i8 (x).1)).set (k * 3 + 1) (.string (x).2.1)).set (k * 3 + 2) (.string (x).2.2)) := by
  intro j hj
  by_cases hjk : j < k
  · obtain ⟨a0, a1, a2⟩ := h j hjk
    refine ⟨?_, ?_, ?_⟩
    · rw [List.getElem?_set_ne (by omega), List.getElem?_set_ne (by omega), List.getElem?_set_ne (by omega)]; exact a0
    · rw [List.getElem?_set_ne (by omega), List.getElem?_set_ne (by omega), List.getElem?_set_ne (by omega)]; exact a1
    · rw [List.getElem?_set_ne (by omega), List.getElem?_set_ne (by omega), List.getElem?_set_ne (by omega)]; exact a2
  · obtain rfl : j = k := by omega
    subst hx
    refine ⟨?_, ?_, ?_⟩
    · rw [List.getElem?_set_ne (by omega), List.getElem?_set_ne (by omega), List.getElem?_set_self (by first | omega | (simp only [List.length_set]; omega))]
    · rw [List.getElem?_set_ne (by omega), List.getElem?_set_self (by first | omega | (simp only [List.length_set]; omega))]
    · rw [List.getElem?_set_self (by first | omega | (simp only [List.length_set]; omega))]

theorem WideE.below {w w' : World} {g : Nat} {l : List EnT} (h : WideE w g l) (hB : Below w.heap.size w w') : WideE w' g l := by
  obtain ⟨cs, h1, h2⟩ := h
  exact ⟨cs, owns_below h1 hB, h2⟩

theorem WideE.sees {w : World} {g : Nat} {l : List EnT} (h : WideE w g l) : SE w (.slice (some ⟨g, 0, none⟩) l.length (l.length + 64)) l := by
  obtain ⟨cs, h1, h2⟩ := h
  refine ⟨_, _, rfl, by omega, fun _ => ⟨g, 0, rfl, fun i x hx => ?_⟩⟩
  have hi : i < l.length := (List.getElem?_eq_some_iff.1 hx).1
  have hw : wdE l i = x := by unfold wdE; rw [List.getD_eq_getElem?_getD, hx]; rfl
  obtain ⟨a0, a1, a2⟩ := h2 i (by omega)
  rw [hw] at a0 a1 a2
  rw [Nat.zero_add]
  exact ⟨by rw [h1.cellAt _ (by omega)]; exact a0, by rw [h1.cellAt _ (by omega)]; exact a1, by rw [h1.cellAt _ (by omega)]; exact a2⟩

set_option maxHeartbeats 1000000 in
theorem wideAcl_any (v : Value) (l : List EnT) (w : World) (h : SE w v l) (hreach : l.length ≤ 2000000000) (ht : Tab w) (hg0 : 0 < w.heap.size) :
    Calls Tryz.prog 6 #[v] w fun e w' => e = .returned (.slice (some ⟨w.heap.size, 0, none⟩) l.length (l.length + 64)) ∧ WideE w' w.heap.size l ∧ Below w.heap.size w w' := by
  have HT : Hid (Tab w ∧ 0 < w.heap.size) := ⟨ht, hg0⟩
  clear ht hg0
  obtain ⟨ao, cap, rfl, hlc, HC⟩ := SE_cells h
  clear h
  obtain ⟨i0, hi, hz0, hz1, hz2⟩ := info3 Tryz.infoEnP
  go_enter Tryz.func6, Tryz.ntmps6
  go_wp2_with (at_make; refine wpList_make_full _ rfl _ _ 22 rfl w.heap.size 39 i0 (.agg #[.int .i8 0, .string ⟨#[]⟩, .string ⟨#[]⟩]) 3 Tryz.underlying22 hi hz0 hz1 .i64 .i64 _ _ (l.length + 64) rfl rfl (by omega) (by omega) (by rw [hz2]; omega) (by unfold maxLen; omega) (Nat.le_refl _) ?_)
  intro w0 hown0 hgrow0
  have hbel0 : Below w.heap.size w w0 := (Below.refl _ _).grown hgrow0 (Nat.le_refl _) (fun k hk => by simp at hk)
  have HO0 : Hid (Below w.heap.size w w0 ∧ ∃ cs, w0.ownsRow w.heap.size 39 3 (.slice (some ⟨w.heap.size, 0, none⟩) (l.length + 64) (l.length + 64)) (l.length + 64) cs ∧ WdE l 0 cs) := ⟨hbel0, _, hown0, fun j hj => by omega⟩
  clear hown0 hgrow0 hbel0
  go_wp2
  go_loopw [4] (fun i wr => ∃ k : Nat, k ≤ l.length + 64 ∧ i = .int .i64 k ∧ Hid (Below w.heap.size w wr ∧ ∃ cs, wr.ownsRow w.heap.size 39 3 (.slice (some ⟨w.heap.size, 0, none⟩) (l.length + 64) (l.length + 64)) (l.length + 64) cs ∧ WdE l k cs)) (fun i _ => l.length + 64 - (intOf i).toNat)
  case atStart => exact ⟨0, Nat.zero_le _, rfl, HO0⟩
  case round =>
    clear HO0 w0
    obtain ⟨k, hk, rfl, HO⟩ := hrel
    by_cases hlt : k < l.length + 64
    · by_cases hlx : k < l.length
      · obtain ⟨hbel, cs, hown, hwd⟩ := HO.out
        have hl : cs.length = (l.length + 64) * 3 := hown.1
        obtain ⟨b, off, rfl, k0, k1, k2⟩ := HC.out k hlx
        have l0 := cell_below hbel k0
        have l1 := cell_below hbel k1
        have l2 := cell_below hbel k2
        obtain ⟨x, hx⟩ : ∃ x, x = l[k] := ⟨_, rfl⟩
        rw [← hx] at k0 l0 k1 l1 k2 l2
        have hxw : x = wdE l k := by unfold wdE; rw [List.getD_eq_getElem?_getD, List.getElem?_eq_getElem hlx]; exact hx
        obtain ⟨u0, hu0⟩ : ∃ u, wr.cell? ⟨w.heap.size, k * 3, none⟩ = some u := ⟨cs[k * 3]'(by omega), by rw [hown.cellAt _ (by omega), List.getElem?_eq_getElem (by omega)]⟩
        obtain ⟨u1, hu1⟩ : ∃ u, wr.cell? ⟨w.heap.size, k * 3 + 1, none⟩ = some u := ⟨cs[k * 3 + 1]'(by omega), by rw [hown.cellAt _ (by omega), List.getElem?_eq_getElem (by omega)]⟩
        obtain ⟨u2, hu2⟩ : ∃ u, wr.cell? ⟨w.heap.size, k * 3 + 2, none⟩ = some u := ⟨cs[k * 3 + 2]'(by omega), by rw [hown.cellAt _ (by omega), List.getElem?_eq_getElem (by omega)]⟩
        have hfz0 := hown.frozenAt (k * 3)
        have hfz1 := hown.frozenAt (k * 3 + 1)
        have hfz2 := hown.frozenAt (k * 3 + 2)
        have R0 := (hown.stored (k * 3) (.int .i8 (x).1)).1
        have R1 := (R0.stored (k * 3 + 1) (.string (x).2.1)).1
        have R2 := (R1.stored (k * 3 + 2) (.string (x).2.2)).1
        have RB := ((hbel.setCell (p := ⟨w.heap.size, k * 3, none⟩) (Nat.le_refl _) (.int .i8 (x).1)).setCell (p := ⟨w.heap.size, k * 3 + 1, none⟩) (Nat.le_refl _) (.string (x).2.1)).setCell (p := ⟨w.heap.size, k * 3 + 2, none⟩) (Nat.le_refl _) (.string (x).2.2)
        have HR : Hid (_ ∧ ∃ cs', _ ∧ WdE l (k + 1) cs') := ⟨RB, _, R2, WdE_step hwd (by omega) hxw⟩
        clear R0 R1 R2 RB hwd hxw hx hl hown hbel HO HC k0 k1 k2
        go_wp2
        go_roundw
        case rel => exact ⟨k + 1, by omega, by go_num, HR⟩
        case measure => simp [intOf]; omega
      · go_wp2_with fail
        refine (mark_is _ _ (by omega) (by omega) (HT.out.1.below HO.out.1 HT.out.2)).mono ?_
        rintro e w1 ⟨rfl, hb1⟩
        obtain ⟨hbel0, cs, hown0, hwd⟩ := HO.out
        have hown := owns_below hown0 hb1
        have hbel : Below w.heap.size w w1 := hbel0.trans (hb1.mono hbel0.size)
        have hl : cs.length = (l.length + 64) * 3 := hown.1
        have hxw : ((0, ⟨#[]⟩, markS (-3000000 - (k : Int))) : EnT) = wdE l k := by unfold wdE; rw [List.getD_eq_getElem?_getD, List.getElem?_eq_none (by omega)]; rfl
        obtain ⟨u0, hu0⟩ : ∃ u, w1.cell? ⟨w.heap.size, k * 3, none⟩ = some u := ⟨cs[k * 3]'(by omega), by rw [hown.cellAt _ (by omega), List.getElem?_eq_getElem (by omega)]⟩
        obtain ⟨u1, hu1⟩ : ∃ u, w1.cell? ⟨w.heap.size, k * 3 + 1, none⟩ = some u := ⟨cs[k * 3 + 1]'(by omega), by rw [hown.cellAt _ (by omega), List.getElem?_eq_getElem (by omega)]⟩
        obtain ⟨u2, hu2⟩ : ∃ u, w1.cell? ⟨w.heap.size, k * 3 + 2, none⟩ = some u := ⟨cs[k * 3 + 2]'(by omega), by rw [hown.cellAt _ (by omega), List.getElem?_eq_getElem (by omega)]⟩
        have hfz0 := hown.frozenAt (k * 3)
        have hfz1 := hown.frozenAt (k * 3 + 1)
        have hfz2 := hown.frozenAt (k * 3 + 2)
        generalize markS (-3000000 - (k : Int)) = ms at *
        have R0 := (hown.stored (k * 3) (.int .i8 ((0, ⟨#[]⟩, ms) : EnT).1)).1
        have R1 := (R0.stored (k * 3 + 1) (.string ((0, ⟨#[]⟩, ms) : EnT).2.1)).1
        have R2 := (R1.stored (k * 3 + 2) (.string ((0, ⟨#[]⟩, ms) : EnT).2.2)).1
        have RB := ((hbel.setCell (p := ⟨w.heap.size, k * 3, none⟩) (Nat.le_refl _) (.int .i8 ((0, ⟨#[]⟩, ms) : EnT).1)).setCell (p := ⟨w.heap.size, k * 3 + 1, none⟩) (Nat.le_refl _) (.string ((0, ⟨#[]⟩, ms) : EnT).2.1)).setCell (p := ⟨w.heap.size, k * 3 + 2, none⟩) (Nat.le_refl _) (.string ((0, ⟨#[]⟩, ms) : EnT).2.2)
        have HR : Hid (_ ∧ ∃ cs', _ ∧ WdE l (k + 1) cs') := ⟨RB, _, R2, WdE_step hwd (by omega) hxw⟩
        clear R0 R1 R2 RB hwd hxw hl hown hown0 hbel hbel0 hb1 HO HC
        go_wp2
        go_roundw
        case rel => exact ⟨k + 1, by omega, by go_num, HR⟩
        case measure => simp [intOf]; omega
    · obtain rfl : k = l.length + 64 := by omega
      clear HC
      go_wp2
      go_ret
      obtain ⟨hbel, cs, hown, hwd⟩ := HO.out
      exact ⟨rfl, ⟨cs, hown, hwd⟩, hbel⟩

/-- What stands at a place of a wide list. -/
def wdI (l : List IdT) (j : Nat) : IdT := l.getD j (⟨#[]⟩, markS (-3000000 - (j : Int)))
/-- The first k of a wide list. -/
def WdI (l : List IdT) (k : Nat) (cs : List Value) : Prop := ∀ j, j < k → cs[j * 2]? = some (.string (wdI l j).1) ∧ cs[j * 2 + 1]? = some (.string (wdI l j).2)
/-- A wide list in block g. -/
def WideI (w : World) (g : Nat) (l : List IdT) : Prop := ∃ cs, w.ownsRow g 37 2 (.slice (some ⟨g, 0, none⟩) (l.length + 64) (l.length + 64)) (l.length + 64) cs ∧ WdI l (l.length + 64) cs

theorem WdI_step {l : List IdT} {k : Nat} {cs : List Value} (h : WdI l k cs) (hl : k * 2 + 2 ≤ cs.length) {x : IdT} (hx : x = wdI l k) : WdI l (k + 1) ((cs.set (k * 2) (.string (x).1)).set (k * 2 + 1) (.string (x).2)) := by
  intro j hj
  by_cases hjk : j < k
  · obtain ⟨a0, a1⟩ := h j hjk
    refine ⟨?_, ?_⟩
    · rw [List.getElem?_set_ne (by omega), List.getElem?_set_ne (by omega)]; exact a0
    · rw [List.getElem?_set_ne (by omega), List.getElem?_set_ne (by omega)]; exact a1
  · obtain rfl : j = k := by omega
    subst hx
    refine ⟨?_, ?_⟩
    · rw [List.getElem?_set_ne (by omega), List.getElem?_set_self (by first | omega | (simp only [List.length_set]; omega))]
    · rw [List.getElem?_set_self (by first | omega | (simp only [List.length_set]; omega))]

theorem WideI.below {w w' : World} {g : Nat} {l : List IdT} (h : WideI w g l) (hB : Below w.heap.size w w') : WideI w' g l := by
  obtain ⟨cs, h1, h2⟩ := h
  exact ⟨cs, owns_below h1 hB, h2⟩

theorem WideI.sees {w : World} {g : Nat} {l : List IdT} (h : WideI w g l) : SI w (.slice (some ⟨g, 0, none⟩) l.length (l.length + 64)) l := by
  obtain ⟨cs, h1, h2⟩ := h
  refine ⟨_, _, rfl, by omega, fun _ => ⟨g, 0, rfl, fun i x hx => ?_⟩⟩
  have hi : i < l.length := (List.getElem?_eq_some_iff.1 hx).1
  have hw : wdI l i = x := by unfold wdI; rw [List.getD_eq_getElem?_getD, hx]; rfl
  obtain ⟨a0, a1⟩ := h2 i (by omega)
  rw [hw] at a0 a1
  rw [Nat.zero_add]
  exact ⟨by rw [h1.cellAt _ (by omega)]; exact a0, by rw [h1.cellAt _ (by omega)]; exact a1⟩

set_option maxHeartbeats 1000000 in
theorem wideIds_any (v : Value) (l : List IdT) (w : World) (h : SI w v l) (hreach : l.length ≤ 2000000000) (ht : Tab w) (hg0 : 0 < w.heap.size) :
    Calls Tryz.prog 7 #[v] w fun e w' => e = .returned (.slice (some ⟨w.heap.size, 0, none⟩) l.length (l.length + 64)) ∧ WideI w' w.heap.size l ∧ Below w.heap.size w w' := by
  have HT : Hid (Tab w ∧ 0 < w.heap.size) := ⟨ht, hg0⟩
  clear ht hg0
  obtain ⟨ao, cap, rfl, hlc, HC⟩ := SI_cells h
  clear h
  obtain ⟨i0, hi, hz0, hz1, hz2⟩ := info3 Tryz.infoIdP
  go_enter Tryz.func7, Tryz.ntmps7
  go_wp2_with (at_make; refine wpList_make_full _ rfl _ _ 23 rfl w.heap.size 37 i0 (.agg #[.string ⟨#[]⟩, .string ⟨#[]⟩]) 2 Tryz.underlying23 hi hz0 hz1 .i64 .i64 _ _ (l.length + 64) rfl rfl (by omega) (by omega) (by rw [hz2]; omega) (by unfold maxLen; omega) (Nat.le_refl _) ?_)
  intro w0 hown0 hgrow0
  have hbel0 : Below w.heap.size w w0 := (Below.refl _ _).grown hgrow0 (Nat.le_refl _) (fun k hk => by simp at hk)
  have HO0 : Hid (Below w.heap.size w w0 ∧ ∃ cs, w0.ownsRow w.heap.size 37 2 (.slice (some ⟨w.heap.size, 0, none⟩) (l.length + 64) (l.length + 64)) (l.length + 64) cs ∧ WdI l 0 cs) := ⟨hbel0, _, hown0, fun j hj => by omega⟩
  clear hown0 hgrow0 hbel0
  go_wp2
  go_loopw [4] (fun i wr => ∃ k : Nat, k ≤ l.length + 64 ∧ i = .int .i64 k ∧ Hid (Below w.heap.size w wr ∧ ∃ cs, wr.ownsRow w.heap.size 37 2 (.slice (some ⟨w.heap.size, 0, none⟩) (l.length + 64) (l.length + 64)) (l.length + 64) cs ∧ WdI l k cs)) (fun i _ => l.length + 64 - (intOf i).toNat)
  case atStart => exact ⟨0, Nat.zero_le _, rfl, HO0⟩
  case round =>
    clear HO0 w0
    obtain ⟨k, hk, rfl, HO⟩ := hrel
    by_cases hlt : k < l.length + 64
    · by_cases hlx : k < l.length
      · obtain ⟨hbel, cs, hown, hwd⟩ := HO.out
        have hl : cs.length = (l.length + 64) * 2 := hown.1
        obtain ⟨b, off, rfl, k0, k1⟩ := HC.out k hlx
        have l0 := cell_below hbel k0
        have l1 := cell_below hbel k1
        obtain ⟨x, hx⟩ : ∃ x, x = l[k] := ⟨_, rfl⟩
        rw [← hx] at k0 l0 k1 l1
        have hxw : x = wdI l k := by unfold wdI; rw [List.getD_eq_getElem?_getD, List.getElem?_eq_getElem hlx]; exact hx
        obtain ⟨u0, hu0⟩ : ∃ u, wr.cell? ⟨w.heap.size, k * 2, none⟩ = some u := ⟨cs[k * 2]'(by omega), by rw [hown.cellAt _ (by omega), List.getElem?_eq_getElem (by omega)]⟩
        obtain ⟨u1, hu1⟩ : ∃ u, wr.cell? ⟨w.heap.size, k * 2 + 1, none⟩ = some u := ⟨cs[k * 2 + 1]'(by omega), by rw [hown.cellAt _ (by omega), List.getElem?_eq_getElem (by omega)]⟩
        have hfz0 := hown.frozenAt (k * 2)
        have hfz1 := hown.frozenAt (k * 2 + 1)
        have R0 := (hown.stored (k * 2) (.string (x).1)).1
        have R1 := (R0.stored (k * 2 + 1) (.string (x).2)).1
        have RB := (hbel.setCell (p := ⟨w.heap.size, k * 2, none⟩) (Nat.le_refl _) (.string (x).1)).setCell (p := ⟨w.heap.size, k * 2 + 1, none⟩) (Nat.le_refl _) (.string (x).2)
        have HR : Hid (_ ∧ ∃ cs', _ ∧ WdI l (k + 1) cs') := ⟨RB, _, R1, WdI_step hwd (by omega) hxw⟩
        clear R0 R1 RB hwd hxw hx hl hown hbel HO HC k0 k1
        go_wp2
        go_roundw
        case rel => exact ⟨k + 1, by omega, by go_num, HR⟩
        case measure => simp [intOf]; omega
      · go_wp2_with fail
        refine (mark_is _ _ (by omega) (by omega) (HT.out.1.below HO.out.1 HT.out.2)).mono ?_
        rintro e w1 ⟨rfl, hb1⟩
        obtain ⟨hbel0, cs, hown0, hwd⟩ := HO.out
        have hown := owns_below hown0 hb1
        have hbel : Below w.heap.size w w1 := hbel0.trans (hb1.mono hbel0.size)
        have hl : cs.length = (l.length + 64) * 2 := hown.1
        have hxw : ((⟨#[]⟩, markS (-3000000 - (k : Int))) : IdT) = wdI l k := by unfold wdI; rw [List.getD_eq_getElem?_getD, List.getElem?_eq_none (by omega)]; rfl
        obtain ⟨u0, hu0⟩ : ∃ u, w1.cell? ⟨w.heap.size, k * 2, none⟩ = some u := ⟨cs[k * 2]'(by omega), by rw [hown.cellAt _ (by omega), List.getElem?_eq_getElem (by omega)]⟩
        obtain ⟨u1, hu1⟩ : ∃ u, w1.cell? ⟨w.heap.size, k * 2 + 1, none⟩ = some u := ⟨cs[k * 2 + 1]'(by omega), by rw [hown.cellAt _ (by omega), List.getElem?_eq_getElem (by omega)]⟩
        have hfz0 := hown.frozenAt (k * 2)
        have hfz1 := hown.frozenAt (k * 2 + 1)
        generalize markS (-3000000 - (k : Int)) = ms at *
        have R0 := (hown.stored (k * 2) (.string ((⟨#[]⟩, ms) : IdT).1)).1
        have R1 := (R0.stored (k * 2 + 1) (.string ((⟨#[]⟩, ms) : IdT).2)).1
        have RB := (hbel.setCell (p := ⟨w.heap.size, k * 2, none⟩) (Nat.le_refl _) (.string ((⟨#[]⟩, ms) : IdT).1)).setCell (p := ⟨w.heap.size, k * 2 + 1, none⟩) (Nat.le_refl _) (.string ((⟨#[]⟩, ms) : IdT).2)
        have HR : Hid (_ ∧ ∃ cs', _ ∧ WdI l (k + 1) cs') := ⟨RB, _, R1, WdI_step hwd (by omega) hxw⟩
        clear R0 R1 RB hwd hxw hl hown hown0 hbel hbel0 hb1 HO HC
        go_wp2
        go_roundw
        case rel => exact ⟨k + 1, by omega, by go_num, HR⟩
        case measure => simp [intOf]; omega
    · obtain rfl : k = l.length + 64 := by omega
      clear HC
      go_wp2
      go_ret
      obtain ⟨hbel, cs, hown, hwd⟩ := HO.out
      exact ⟨rfl, ⟨cs, hown, hwd⟩, hbel⟩

end Go.Proofs.YtgoiefhhbgollaaGreatDoor

/- lagoonref00's SpareAcl and SpareIds: the marks behind a wide list stand. -/
namespace Go.Proofs.YtgoiefhhbgollaaGreatDoor
open Go.RowKit Go.Shelf
set_option maxRecDepth 8000

set_option maxHeartbeats 1000000 in
theorem spareAcl_any (g : Nat) (l : List EnT) (w : World) (h : WideE w g l) (hreach : l.length ≤ 2000000000) (ht : Tab w) (hg0 : 0 < w.heap.size) :
    Calls Tryz.prog 11 #[.slice (some ⟨g, 0, none⟩) l.length (l.length + 64)] w fun e w' => e = .returned (.bool true) ∧ Below w.heap.size w w' := by
  have HT : Hid (Tab w ∧ 0 < w.heap.size) := ⟨ht, hg0⟩
  have HW : Hid (WideE w g l) := h
  clear ht hg0 h
  go_enter Tryz.func11, Tryz.ntmps11
  go_wp2
  go_loopw [4] (fun i wr => ∃ k : Nat, l.length ≤ k ∧ k ≤ l.length + 64 ∧ i = .int .i64 k ∧ Hid (Below w.heap.size w wr ∧ WideE wr g l)) (fun i _ => l.length + 64 - (intOf i).toNat)
  case atStart => exact ⟨l.length, Nat.le_refl _, by omega, rfl, Below.refl _ _, HW.out⟩
  case round =>
    obtain ⟨k, hk0, hk, rfl, HB⟩ := hrel
    by_cases hlt : k < l.length + 64
    · have hd : decide ((k : Int) < ((l.length : Int) + 64)) = true := by simp; omega
      obtain ⟨ms, hms⟩ : ∃ ms, ms = markS (-3000000 - (k : Int)) := ⟨_, rfl⟩
      have hcell : Hid (∀ V, Below w.heap.size w V → WideE V g l → V.cell? ⟨g, k * 3 + 2, none⟩ = some (.string ms)) := fun V _ hV => by
        obtain ⟨cs, h1, h2⟩ := hV
        have := (h2 k hlt).2.2
        rw [h1.cellAt _ (by omega), this]
        unfold wdE
        rw [List.getD_eq_getElem?_getD, List.getElem?_eq_none hk0, hms]
        rfl
      have hmm : (ms.toList == (markS (-3000000 - (k : Int))).toList) = true := by rw [hms]; simp
      have HWr : Hid (IntKind.i64.wrap (-3000000 - (k : Int)) = -3000000 - (k : Int)) := by
        show _ = _
        simp [IntKind.wrap, IntKind.bits, IntKind.signed]
        omega
      have i0 : (0 : Int) ≤ (k : Int) := by omega
      have i1 : (k : Int) < (l.length : Int) + 64 := by omega
      go_wp2
      refine wp_region_held_drew (S := fun V' => V'.cell? ⟨g, k * 3 + 2, none⟩ = some (.string ms)) (by kernel_rfl) ?_ (fun hHeld => ?_)
      · exact hcell.out wr.drew (below_drewN HB.out.1 1) (HB.out.2.below (below_drewN (Below.refl _ _) 1))
      refine wpAnyH_take (i := 0) (oi := { dst := some 18, op := Op.move (Operand.tmp 3), type := 22, pos := "spare.go:152", after := #[], guard := none }) (v := ?_) rfl (by kernel_rfl) (by kernel_rfl) (by kernel_rfl) (fun _ _ _ h => h) (Or.inl ⟨by rfl, ?_⟩) (by assumption) ?_
      rotate_left
      · (intro w hSw; (try dsimp only at hSw); go_simp) <;> with_reducible rfl
      try simp only [Act.put, List.setIfInBounds_toArray, List.set_cons_zero, List.set_cons_succ]
      refine wpAnyH_take (i := 1) (oi := { dst := some 19, op := Op.move (Operand.tmp 4), type := 3, pos := "spare.go:152", after := #[], guard := none }) (v := ?_) rfl (by kernel_rfl) (by kernel_rfl) (by kernel_rfl) (fun _ _ _ h => h) (Or.inl ⟨by rfl, ?_⟩) (by assumption) ?_
      rotate_left
      · (intro w hSw; (try dsimp only at hSw); go_simp) <;> with_reducible rfl
      try simp only [Act.put, List.setIfInBounds_toArray, List.set_cons_zero, List.set_cons_succ]
      refine wpAnyH_take (i := 2) (oi := { dst := some 20, op := Op.indexAddr 22 (Operand.tmp 18) (Operand.tmp 19), type := 0, pos := "spare.go:152", after := #[{ on := 0, ground := Ground.data }, { on := 1, ground := Ground.data }], guard := none }) (v := ?_) rfl (by kernel_rfl) (by kernel_rfl) (by kernel_rfl) (fun _ _ _ h => h) (Or.inl ⟨by rfl, ?_⟩) (by assumption) ?_
      rotate_left
      · (intro w hSw; (try dsimp only at hSw); go_simp) <;> with_reducible rfl
      try simp only [Act.put, List.setIfInBounds_toArray, List.set_cons_zero, List.set_cons_succ]
      refine wpAnyH_take (i := 3) (oi := { dst := some 21, op := Op.fieldAddr 39 (Operand.tmp 20) 1, type := 0, pos := "spare.go:152", after := #[{ on := 2, ground := Ground.data }], guard := none }) (v := ?_) rfl (by kernel_rfl) (by kernel_rfl) (by kernel_rfl) (fun _ _ _ h => h) (Or.inl ⟨by rfl, ?_⟩) (by assumption) ?_
      rotate_left
      · (intro w hSw; (try dsimp only at hSw); go_simp) <;> with_reducible rfl
      try simp only [Act.put, List.setIfInBounds_toArray, List.set_cons_zero, List.set_cons_succ]
      refine wpAnyH_take (i := 4) (oi := { dst := some 22, op := Op.fieldAddr 37 (Operand.tmp 21) 1, type := 0, pos := "spare.go:152", after := #[{ on := 3, ground := Ground.data }], guard := none }) (v := ?_) rfl (by kernel_rfl) (by kernel_rfl) (by kernel_rfl) (fun _ _ _ h => h) (Or.inl ⟨by rfl, ?_⟩) (by assumption) ?_
      rotate_left
      · (intro w hSw; (try dsimp only at hSw); go_simp) <;> with_reducible rfl
      try simp only [Act.put, List.setIfInBounds_toArray, List.set_cons_zero, List.set_cons_succ]
      refine wpAnyH_take (i := 5) (oi := { dst := some 23, op := Op.load 9 (Operand.tmp 22), type := 9, pos := "spare.go:152", after := #[{ on := 4, ground := Ground.data }], guard := none }) (v := ?_) rfl (by kernel_rfl) (by kernel_rfl) (by kernel_rfl) (fun _ _ _ h => h) (Or.inl ⟨by rfl, ?_⟩) (by assumption) ?_
      rotate_left
      · (intro w hSw; (try dsimp only at hSw); go_simp) <;> with_reducible rfl
      try simp only [Act.put, List.setIfInBounds_toArray, List.set_cons_zero, List.set_cons_succ]
      refine wpAnyH_take (i := 6) (oi := { dst := some 24, op := Op.move (Operand.tmp 4), type := 3, pos := "spare.go:152", after := #[], guard := none }) (v := ?_) rfl (by kernel_rfl) (by kernel_rfl) (by kernel_rfl) (fun _ _ _ h => h) (Or.inl ⟨by rfl, ?_⟩) (by assumption) ?_
      rotate_left
      · (intro w hSw; (try dsimp only at hSw); go_simp) <;> with_reducible rfl
      try simp only [Act.put, List.setIfInBounds_toArray, List.set_cons_zero, List.set_cons_succ]
      refine wpAnyH_take (i := 7) (oi := { dst := some 25, op := Op.binOp BinOp.sub 3 (Operand.const (Value.int IntKind.i64 (-3000000))) (Operand.tmp 24) 3, type := 3, pos := "spare.go:152", after := #[{ on := 6, ground := Ground.data }], guard := none }) (v := ?_) rfl (by kernel_rfl) (by kernel_rfl) (by kernel_rfl) (fun _ _ _ h => h) (Or.inl ⟨by rfl, ?_⟩) (by assumption) ?_
      rotate_left
      · (intro w hSw; (try dsimp only at hSw); go_simp; (rw [HWr.out]) <;> with_reducible rfl)
      try simp only [Act.put, List.setIfInBounds_toArray, List.set_cons_zero, List.set_cons_succ]
      refine wpAnyH_ready (rs := [8]) (by kernel_rfl) (by simp) ?_
      refine AllReadyH.cons (o := { dst := some 26, op := Op.call { callee := Callee.value (Operand.func 19), args := #[Operand.tmp 25], argTypes := #[3] }, type := 9, pos := "spare.go:152", after := #[{ on := 7, ground := Ground.data }], guard := none }) rfl (fun K hK => ?_) AllReadyH.nil
      go_simp
      refine (mark_is _ _ (by omega) (by omega) (HT.out.1.below (below_drewN HB.out.1 1) HT.out.2)).mono ?_
      rintro e wc ⟨rfl, hb⟩
      have HB2 : Hid (Below w.heap.size w wc ∧ WideE wc g l) := ⟨(below_drewN HB.out.1 1).trans (hb.mono (below_drewN HB.out.1 1).size), (HB.out.2.below (below_drewN (Below.refl _ _) 1)).below hb⟩
      clear hHeld
      refine hK.out _ _ (hcell.out wc HB2.out.1 HB2.out.2) (fun hHeld => ?_)
      clear hK K
      refine wpAnyH_take (i := 9) (oi := { dst := some 27, op := Op.binOp BinOp.eql 9 (Operand.tmp 23) (Operand.tmp 26) 9, type := 4, pos := "spare.go:152", after := #[{ on := 5, ground := Ground.data }, { on := 8, ground := Ground.data }], guard := none }) (v := ?_) rfl (by kernel_rfl) (by kernel_rfl) (by kernel_rfl) (fun _ _ _ h => h) (Or.inl ⟨by rfl, ?_⟩) (by assumption) ?_
      rotate_left
      · (intro w hSw; (try dsimp only at hSw); go_simp) <;> with_reducible rfl
      try simp only [Act.put, List.setIfInBounds_toArray, List.set_cons_zero, List.set_cons_succ]
      refine wpAnyH_take (i := 10) (oi := { dst := some 28, op := Op.unOp UnOp.not 4 (Operand.tmp 27), type := 4, pos := "spare.go:152", after := #[{ on := 9, ground := Ground.data }], guard := none }) (v := ?_) rfl (by kernel_rfl) (by kernel_rfl) (by kernel_rfl) (fun _ _ _ h => h) (Or.inl ⟨by rfl, ?_⟩) (by assumption) ?_
      rotate_left
      · (intro w hSw; (try dsimp only at hSw); go_simp) <;> with_reducible rfl
      try simp only [Act.put, List.setIfInBounds_toArray, List.set_cons_zero, List.set_cons_succ]
      refine wpAnyH_done (by kernel_rfl) ?_ _
      go_wp2
      go_roundw
      case rel => exact ⟨k + 1, by omega, by omega, by go_num, HB2⟩
      case measure => simp [intOf]; omega
    · have hd : decide ((k : Int) < ((l.length : Int) + 64)) = false := by simp; omega
      go_wp2
      go_ret
      exact ⟨rfl, HB.out.1⟩

set_option maxHeartbeats 1000000 in
theorem spareIds_any (g : Nat) (l : List IdT) (w : World) (h : WideI w g l) (hreach : l.length ≤ 2000000000) (ht : Tab w) (hg0 : 0 < w.heap.size) :
    Calls Tryz.prog 13 #[.slice (some ⟨g, 0, none⟩) l.length (l.length + 64)] w fun e w' => e = .returned (.bool true) ∧ Below w.heap.size w w' := by
  have HT : Hid (Tab w ∧ 0 < w.heap.size) := ⟨ht, hg0⟩
  have HW : Hid (WideI w g l) := h
  clear ht hg0 h
  go_enter Tryz.func13, Tryz.ntmps13
  go_wp2
  go_loopw [4] (fun i wr => ∃ k : Nat, l.length ≤ k ∧ k ≤ l.length + 64 ∧ i = .int .i64 k ∧ Hid (Below w.heap.size w wr ∧ WideI wr g l)) (fun i _ => l.length + 64 - (intOf i).toNat)
  case atStart => exact ⟨l.length, Nat.le_refl _, by omega, rfl, Below.refl _ _, HW.out⟩
  case round =>
    obtain ⟨k, hk0, hk, rfl, HB⟩ := hrel
    by_cases hlt : k < l.length + 64
    · have hd : decide ((k : Int) < ((l.length : Int) + 64)) = true := by simp; omega
      obtain ⟨ms, hms⟩ : ∃ ms, ms = markS (-3000000 - (k : Int)) := ⟨_, rfl⟩
      have hcell : Hid (∀ V, Below w.heap.size w V → WideI V g l → V.cell? ⟨g, k * 2 + 1, none⟩ = some (.string ms)) := fun V _ hV => by
        obtain ⟨cs, h1, h2⟩ := hV
        have := (h2 k hlt).2
        rw [h1.cellAt _ (by omega), this]
        unfold wdI
        rw [List.getD_eq_getElem?_getD, List.getElem?_eq_none hk0, hms]
        rfl
      have hmm : (ms.toList == (markS (-3000000 - (k : Int))).toList) = true := by rw [hms]; simp
      have HWr : Hid (IntKind.i64.wrap (-3000000 - (k : Int)) = -3000000 - (k : Int)) := by
        show _ = _
        simp [IntKind.wrap, IntKind.bits, IntKind.signed]
        omega
      have i0 : (0 : Int) ≤ (k : Int) := by omega
      have i1 : (k : Int) < (l.length : Int) + 64 := by omega
      go_wp2
      refine wp_region_held_drew (S := fun V' => V'.cell? ⟨g, k * 2 + 1, none⟩ = some (.string ms)) (by kernel_rfl) ?_ (fun hHeld => ?_)
      · exact hcell.out wr.drew (below_drewN HB.out.1 1) (HB.out.2.below (below_drewN (Below.refl _ _) 1))
      refine wpAnyH_take (i := 0) (oi := { dst := some 18, op := Op.move (Operand.tmp 3), type := 23, pos := "spare.go:128", after := #[], guard := none }) (v := ?_) rfl (by kernel_rfl) (by kernel_rfl) (by kernel_rfl) (fun _ _ _ h => h) (Or.inl ⟨by rfl, ?_⟩) (by assumption) ?_
      rotate_left
      · (intro w hSw; (try dsimp only at hSw); go_simp) <;> with_reducible rfl
      try simp only [Act.put, List.setIfInBounds_toArray, List.set_cons_zero, List.set_cons_succ]
      refine wpAnyH_take (i := 1) (oi := { dst := some 19, op := Op.move (Operand.tmp 4), type := 3, pos := "spare.go:128", after := #[], guard := none }) (v := ?_) rfl (by kernel_rfl) (by kernel_rfl) (by kernel_rfl) (fun _ _ _ h => h) (Or.inl ⟨by rfl, ?_⟩) (by assumption) ?_
      rotate_left
      · (intro w hSw; (try dsimp only at hSw); go_simp) <;> with_reducible rfl
      try simp only [Act.put, List.setIfInBounds_toArray, List.set_cons_zero, List.set_cons_succ]
      refine wpAnyH_take (i := 2) (oi := { dst := some 20, op := Op.indexAddr 23 (Operand.tmp 18) (Operand.tmp 19), type := 0, pos := "spare.go:128", after := #[{ on := 0, ground := Ground.data }, { on := 1, ground := Ground.data }], guard := none }) (v := ?_) rfl (by kernel_rfl) (by kernel_rfl) (by kernel_rfl) (fun _ _ _ h => h) (Or.inl ⟨by rfl, ?_⟩) (by assumption) ?_
      rotate_left
      · (intro w hSw; (try dsimp only at hSw); go_simp) <;> with_reducible rfl
      try simp only [Act.put, List.setIfInBounds_toArray, List.set_cons_zero, List.set_cons_succ]
      refine wpAnyH_take (i := 3) (oi := { dst := some 21, op := Op.fieldAddr 37 (Operand.tmp 20) 1, type := 0, pos := "spare.go:128", after := #[{ on := 2, ground := Ground.data }], guard := none }) (v := ?_) rfl (by kernel_rfl) (by kernel_rfl) (by kernel_rfl) (fun _ _ _ h => h) (Or.inl ⟨by rfl, ?_⟩) (by assumption) ?_
      rotate_left
      · (intro w hSw; (try dsimp only at hSw); go_simp) <;> with_reducible rfl
      try simp only [Act.put, List.setIfInBounds_toArray, List.set_cons_zero, List.set_cons_succ]
      refine wpAnyH_take (i := 4) (oi := { dst := some 22, op := Op.load 9 (Operand.tmp 21), type := 9, pos := "spare.go:128", after := #[{ on := 3, ground := Ground.data }], guard := none }) (v := ?_) rfl (by kernel_rfl) (by kernel_rfl) (by kernel_rfl) (fun _ _ _ h => h) (Or.inl ⟨by rfl, ?_⟩) (by assumption) ?_
      rotate_left
      · (intro w hSw; (try dsimp only at hSw); go_simp) <;> with_reducible rfl
      try simp only [Act.put, List.setIfInBounds_toArray, List.set_cons_zero, List.set_cons_succ]
      refine wpAnyH_take (i := 5) (oi := { dst := some 23, op := Op.move (Operand.tmp 4), type := 3, pos := "spare.go:128", after := #[], guard := none }) (v := ?_) rfl (by kernel_rfl) (by kernel_rfl) (by kernel_rfl) (fun _ _ _ h => h) (Or.inl ⟨by rfl, ?_⟩) (by assumption) ?_
      rotate_left
      · (intro w hSw; (try dsimp only at hSw); go_simp) <;> with_reducible rfl
      try simp only [Act.put, List.setIfInBounds_toArray, List.set_cons_zero, List.set_cons_succ]
      refine wpAnyH_take (i := 6) (oi := { dst := some 24, op := Op.binOp BinOp.sub 3 (Operand.const (Value.int IntKind.i64 (-3000000))) (Operand.tmp 23) 3, type := 3, pos := "spare.go:128", after := #[{ on := 5, ground := Ground.data }], guard := none }) (v := ?_) rfl (by kernel_rfl) (by kernel_rfl) (by kernel_rfl) (fun _ _ _ h => h) (Or.inl ⟨by rfl, ?_⟩) (by assumption) ?_
      rotate_left
      · (intro w hSw; (try dsimp only at hSw); go_simp; (rw [HWr.out]) <;> with_reducible rfl)
      try simp only [Act.put, List.setIfInBounds_toArray, List.set_cons_zero, List.set_cons_succ]
      refine wpAnyH_ready (rs := [7]) (by kernel_rfl) (by simp) ?_
      refine AllReadyH.cons (o := { dst := some 25, op := Op.call { callee := Callee.value (Operand.func 19), args := #[Operand.tmp 24], argTypes := #[3] }, type := 9, pos := "spare.go:128", after := #[{ on := 6, ground := Ground.data }], guard := none }) rfl (fun K hK => ?_) AllReadyH.nil
      go_simp
      refine (mark_is _ _ (by omega) (by omega) (HT.out.1.below (below_drewN HB.out.1 1) HT.out.2)).mono ?_
      rintro e wc ⟨rfl, hb⟩
      have HB2 : Hid (Below w.heap.size w wc ∧ WideI wc g l) := ⟨(below_drewN HB.out.1 1).trans (hb.mono (below_drewN HB.out.1 1).size), (HB.out.2.below (below_drewN (Below.refl _ _) 1)).below hb⟩
      clear hHeld
      refine hK.out _ _ (hcell.out wc HB2.out.1 HB2.out.2) (fun hHeld => ?_)
      clear hK K
      refine wpAnyH_take (i := 8) (oi := { dst := some 26, op := Op.binOp BinOp.eql 9 (Operand.tmp 22) (Operand.tmp 25) 9, type := 4, pos := "spare.go:128", after := #[{ on := 4, ground := Ground.data }, { on := 7, ground := Ground.data }], guard := none }) (v := ?_) rfl (by kernel_rfl) (by kernel_rfl) (by kernel_rfl) (fun _ _ _ h => h) (Or.inl ⟨by rfl, ?_⟩) (by assumption) ?_
      rotate_left
      · (intro w hSw; (try dsimp only at hSw); go_simp) <;> with_reducible rfl
      try simp only [Act.put, List.setIfInBounds_toArray, List.set_cons_zero, List.set_cons_succ]
      refine wpAnyH_take (i := 9) (oi := { dst := some 27, op := Op.unOp UnOp.not 4 (Operand.tmp 26), type := 4, pos := "spare.go:128", after := #[{ on := 8, ground := Ground.data }], guard := none }) (v := ?_) rfl (by kernel_rfl) (by kernel_rfl) (by kernel_rfl) (fun _ _ _ h => h) (Or.inl ⟨by rfl, ?_⟩) (by assumption) ?_
      rotate_left
      · (intro w hSw; (try dsimp only at hSw); go_simp) <;> with_reducible rfl
      try simp only [Act.put, List.setIfInBounds_toArray, List.set_cons_zero, List.set_cons_succ]
      refine wpAnyH_done (by kernel_rfl) ?_ _
      go_wp2
      go_roundw
      case rel => exact ⟨k + 1, by omega, by omega, by go_num, HB2⟩
      case measure => simp [intOf]; omega
    · have hd : decide ((k : Int) < ((l.length : Int) + 64)) = false := by simp; omega
      go_wp2
      go_ret
      exact ⟨rfl, HB.out.1⟩

end Go.Proofs.YtgoiefhhbgollaaGreatDoor
