/- lagoonref00's WideAcl and WideIds over a request's lists: lists of their own with marks behind them. -/
import Derived.Test.YtehgibgeghhloaaGreatDoorCopyLJ
import Derived.Test.YtehgibgeghhloaaGreatDoorWriterJ
namespace Go.Proofs.YtehgibgeghhloaaGreatDoor
open Go.RowKit Go.Shelf
set_option maxRecDepth 8000

theorem cellsEW {w : World} {v : Value} {l : List EnD} (h : SeesR w v 3 (l.map EnD.cells)) : ∃ ao cap, v = .slice ao l.length cap ∧ l.length ≤ cap ∧ Hid (∀ k (hk : k < l.length), ∃ b off, ao = some ⟨b, off, none⟩ ∧ w.cell? ⟨b, off + k * 3, none⟩ = some (.int .i8 l[k].1) ∧ w.cell? ⟨b, off + k * 3 + 1, none⟩ = some (.string l[k].2.1) ∧ w.cell? ⟨b, off + k * 3 + 2, none⟩ = some (.string l[k].2.2)) := by
  obtain ⟨ao, cap, h1, h2, _, _, h3⟩ := h
  rw [List.length_map] at h1 h2
  refine ⟨ao, cap, h1, h2, fun k hk => ?_⟩
  rcases h3 with h3 | ⟨b, off, e, h3⟩
  · have : l.length = 0 := by simpa using congrArg List.length h3
    omega
  · have h := h3 k (by rw [List.length_map]; exact hk)
    refine ⟨b, off, e, ?_, ?_, ?_⟩
    · exact (h 0 (by omega)).trans (by simp [EnD.cells])
    · exact (h 1 (by omega)).trans (by simp [EnD.cells])
    · exact (h 2 (by omega)).trans (by simp [EnD.cells])

theorem cellsIW {w : World} {v : Value} {l : List IdD} (h : SeesR w v 2 (l.map IdD.cells)) : ∃ ao cap, v = .slice ao l.length cap ∧ l.length ≤ cap ∧ Hid (∀ k (hk : k < l.length), ∃ b off, ao = some ⟨b, off, none⟩ ∧ w.cell? ⟨b, off + k * 2, none⟩ = some (.string l[k].1) ∧ w.cell? ⟨b, off + k * 2 + 1, none⟩ = some (.string l[k].2)) := by
  obtain ⟨ao, cap, h1, h2, _, _, h3⟩ := h
  rw [List.length_map] at h1 h2
  refine ⟨ao, cap, h1, h2, fun k hk => ?_⟩
  rcases h3 with h3 | ⟨b, off, e, h3⟩
  · have : l.length = 0 := by simpa using congrArg List.length h3
    omega
  · have h := h3 k (by rw [List.length_map]; exact hk)
    refine ⟨b, off, e, ?_, ?_⟩
    · exact (h 0 (by omega)).trans (by simp [IdD.cells])
    · exact (h 1 (by omega)).trans (by simp [IdD.cells])

/-- What stands at a place of a wide list. -/
def weE (l : List EnD) (j : Nat) : EnD := l.getD j ⟨0, ⟨⟨#[]⟩, markS (-3000000 - (j : Int))⟩⟩
/-- The first k of a wide list. -/
def WeE (l : List EnD) (k : Nat) (cs : List Value) : Prop := ∀ j, j < k → cs[j * 3]? = some (.int .i8 (weE l j).1) ∧ cs[j * 3 + 1]? = some (.string (weE l j).2.1) ∧ cs[j * 3 + 2]? = some (.string (weE l j).2.2)
/-- A wide list in block g. -/
def WidE (w : World) (g : Nat) (l : List EnD) : Prop := ∃ cs, w.ownsRow g 122 3 (.slice (some ⟨g, 0, none⟩) (l.length + 64) (l.length + 64)) (l.length + 64) cs ∧ WeE l (l.length + 64) cs

theorem WeE_step {l : List EnD} {k : Nat} {cs : List Value} (h : WeE l k cs) (hl : k * 3 + 3 ≤ cs.length) {x : EnD} (hx : x = weE l k) : WeE l (k + 1) (((cs.set (k * 3) (.int .i8 (x).1)).set (k * 3 + 1) (.string (x).2.1)).set (k * 3 + 2) (.string (x).2.2)) := by
  intro j hj
  by_cases hjk : j < k
  · obtain ⟨a0, a1, a2⟩ := h j hjk
    refine ⟨?_, ?_, ?_⟩
    · rw [List.getElem?_set_ne (by omega), List.getElem?_set_ne (by omega), List.getElem?_set_ne (by omega)]; exact a0
    · rw [List.getElem?_set_ne (by omega), List.getElem?_set_ne (by omega), List.getElem?_set_ne (by omega)]; exact a1
    · rw [List.getElem?_set_ne (by omega), List.getElem?_set_ne (by omega), List.getElem?_set_ne (by omega)]; exact a2
  · obtain rfl : j = k := by omega
    subst hx
    refine ⟨?_, ?_, ?_⟩
    · rw [List.getElem?_set_ne (by omega), List.getElem?_set_ne (by omega), List.getElem?_set_self (by first | omega | (simp only [List.length_set]; omega))]
    · rw [List.getElem?_set_ne (by omega), List.getElem?_set_self (by first | omega | (simp only [List.length_set]; omega))]
    · rw [List.getElem?_set_self (by first | omega | (simp only [List.length_set]; omega))]

theorem WidE.below {w w' : World} {g : Nat} {l : List EnD} (h : WidE w g l) (hB : Below w.heap.size w w') : WidE w' g l := by
  obtain ⟨cs, h1, h2⟩ := h
  exact ⟨cs, ownsRow_kept h1 (Below.kept hB) (fun k hk e => by have := (h1.lt k hk).2; omega), h2⟩

theorem WidE.kept {w w' : World} {S : Nat → Prop} {g : Nat} {l : List EnD} (h : WidE w g l) (hk : Kept w w' S) (hS : ¬ S g) : WidE w' g l := by
  obtain ⟨cs, h1, h2⟩ := h
  exact ⟨cs, ownsRow_kept h1 hk (fun k hk e => by cases hk; exact hS e), h2⟩

theorem WidE.sees {w : World} {g : Nat} {l : List EnD} (h : WidE w g l) (hl : l.length ≤ 2000000000) : SeesR w (.slice (some ⟨g, 0, none⟩) l.length (l.length + 64)) 3 (l.map EnD.cells) := by
  obtain ⟨cs, h1, h2⟩ := h
  refine ⟨_, _, by rw [List.length_map], by rw [List.length_map]; omega, by unfold maxLen; omega, fun e => by simp at e, .inr ⟨g, 0, rfl, fun i hi j hj => ?_⟩⟩
  rw [List.length_map] at hi
  have hw : weE l i = l[i] := by unfold weE; rw [List.getD_eq_getElem?_getD, List.getElem?_eq_getElem hi]; rfl
  obtain ⟨a0, a1, a2⟩ := h2 i (by omega)
  rw [hw] at a0 a1 a2
  rw [Nat.zero_add, List.getElem_map]
  rcases (show j = 0 ∨ j = 1 ∨ j = 2 by omega) with rfl | rfl | rfl
  · rw [h1.cellAt _ (by omega)]; simpa [EnD.cells] using a0
  · rw [h1.cellAt _ (by omega)]; simpa [EnD.cells] using a1
  · rw [h1.cellAt _ (by omega)]; simpa [EnD.cells] using a2

set_option maxHeartbeats 1000000 in
theorem wideAcl_rq (v : Value) (l : List EnD) (w : World) (h : SeesR w v 3 (l.map EnD.cells)) (hreach : l.length ≤ 2000000000) (ht : Tab w) (hg0 : 1 < w.heap.size) :
    Calls Tryz.prog 67 #[v] w fun e w' => e = .returned (.slice (some ⟨w.heap.size, 0, none⟩) l.length (l.length + 64)) ∧ WidE w' w.heap.size l ∧ Below w.heap.size w w' := by
  have HT : Hid (Tab w ∧ 1 < w.heap.size) := ⟨ht, hg0⟩
  clear ht hg0
  obtain ⟨ao, cap, rfl, hlc, HC⟩ := cellsEW h
  clear h
  obtain ⟨i0, hi, hz0, hz1, hz2⟩ := info_parts Tryz.infoEn
  go_enter Tryz.func67, Tryz.ntmps67
  go_wp2_with (at_make; refine wpList_make_full _ rfl _ _ 29 rfl w.heap.size 122 i0 (.agg #[.int .i8 0, .string ⟨#[]⟩, .string ⟨#[]⟩]) 3 Tryz.underlying29 hi hz0 hz1 .i64 .i64 _ _ (l.length + 64) rfl rfl (by omega) (by omega) (by rw [hz2]; omega) (by unfold maxLen; omega) (Nat.le_refl _) ?_)
  intro w0 hown0 hgrow0
  have hbel0 : Below w.heap.size w w0 := (Below.refl _ _).grown hgrow0 (Nat.le_refl _) (fun k hk => by simp at hk)
  have HO0 : Hid (Below w.heap.size w w0 ∧ ∃ cs, w0.ownsRow w.heap.size 122 3 (.slice (some ⟨w.heap.size, 0, none⟩) (l.length + 64) (l.length + 64)) (l.length + 64) cs ∧ WeE l 0 cs) := ⟨hbel0, _, hown0, fun j hj => by omega⟩
  clear hown0 hgrow0 hbel0
  go_wp2
  go_loopw [4] (fun i wr => ∃ k : Nat, k ≤ l.length + 64 ∧ i = .int .i64 k ∧ Hid (Below w.heap.size w wr ∧ ∃ cs, wr.ownsRow w.heap.size 122 3 (.slice (some ⟨w.heap.size, 0, none⟩) (l.length + 64) (l.length + 64)) (l.length + 64) cs ∧ WeE l k cs)) (fun i _ => l.length + 64 - (intOf i).toNat)
  case atStart => exact ⟨0, Nat.zero_le _, rfl, HO0⟩
  case round =>
    clear HO0 w0
    obtain ⟨k, hk, rfl, HO⟩ := hrel
    by_cases hlt : k < l.length + 64
    · by_cases hlx : k < l.length
      · obtain ⟨hbel, cs, hown, hwd⟩ := HO.out
        have hl : cs.length = (l.length + 64) * 3 := hown.1
        obtain ⟨b, off, rfl, k0, k1, k2⟩ := HC.out k hlx
        have l0 := cell_later k0 hbel (Nat.le_refl _)
        have l1 := cell_later k1 hbel (Nat.le_refl _)
        have l2 := cell_later k2 hbel (Nat.le_refl _)
        obtain ⟨x, hx⟩ : ∃ x, x = l[k] := ⟨_, rfl⟩
        rw [← hx] at k0 l0 k1 l1 k2 l2
        have hxw : x = weE l k := by unfold weE; rw [List.getD_eq_getElem?_getD, List.getElem?_eq_getElem hlx]; exact hx
        obtain ⟨u0, hu0⟩ : ∃ u, wr.cell? ⟨w.heap.size, k * 3, none⟩ = some u := ⟨cs[k * 3]'(by omega), by rw [hown.cellAt _ (by omega), List.getElem?_eq_getElem (by omega)]⟩
        obtain ⟨u1, hu1⟩ : ∃ u, wr.cell? ⟨w.heap.size, k * 3 + 1, none⟩ = some u := ⟨cs[k * 3 + 1]'(by omega), by rw [hown.cellAt _ (by omega), List.getElem?_eq_getElem (by omega)]⟩
        obtain ⟨u2, hu2⟩ : ∃ u, wr.cell? ⟨w.heap.size, k * 3 + 2, none⟩ = some u := ⟨cs[k * 3 + 2]'(by omega), by rw [hown.cellAt _ (by omega), List.getElem?_eq_getElem (by omega)]⟩
        have hfz0 := hown.frozenAt (k * 3)
        have hfz1 := hown.frozenAt (k * 3 + 1)
        have hfz2 := hown.frozenAt (k * 3 + 2)
        have R0 := (hown.stored (k * 3) (.int .i8 (x).1)).1
        have R1 := (R0.stored (k * 3 + 1) (.string (x).2.1)).1
        have R2 := (R1.stored (k * 3 + 2) (.string (x).2.2)).1
        have RB := ((hbel.setCell (p := ⟨w.heap.size, k * 3, none⟩) (Nat.le_refl _) (.int .i8 (x).1)).setCell (p := ⟨w.heap.size, k * 3 + 1, none⟩) (Nat.le_refl _) (.string (x).2.1)).setCell (p := ⟨w.heap.size, k * 3 + 2, none⟩) (Nat.le_refl _) (.string (x).2.2)
        have HR : Hid (_ ∧ ∃ cs', _ ∧ WeE l (k + 1) cs') := ⟨RB, _, R2, WeE_step hwd (by omega) hxw⟩
        clear R0 R1 R2 RB hwd hxw hx hl hown hbel HO HC k0 k1 k2
        go_wp2
        go_roundw
        case rel => exact ⟨k + 1, by omega, by go_num, HR⟩
        case measure => simp [intOf]; omega
      · go_wp2_with fail
        refine (mark_is _ _ (by omega) (by omega) (HT.out.1.below HO.out.1 HT.out.2)).mono ?_
        rintro e w1 ⟨rfl, hb1⟩
        obtain ⟨hbel0, cs, hown0, hwd⟩ := HO.out
        have hown := ownsRow_kept hown0 (Below.kept hb1) (fun k hk e => by have := (hown0.lt k hk).2; omega)
        have hbel : Below w.heap.size w w1 := hbel0.trans (hb1.mono hbel0.size)
        have hl : cs.length = (l.length + 64) * 3 := hown.1
        have hxw : (⟨0, ⟨⟨#[]⟩, markS (-3000000 - (k : Int))⟩⟩ : EnD) = weE l k := by unfold weE; rw [List.getD_eq_getElem?_getD, List.getElem?_eq_none (by omega)]; rfl
        obtain ⟨u0, hu0⟩ : ∃ u, w1.cell? ⟨w.heap.size, k * 3, none⟩ = some u := ⟨cs[k * 3]'(by omega), by rw [hown.cellAt _ (by omega), List.getElem?_eq_getElem (by omega)]⟩
        obtain ⟨u1, hu1⟩ : ∃ u, w1.cell? ⟨w.heap.size, k * 3 + 1, none⟩ = some u := ⟨cs[k * 3 + 1]'(by omega), by rw [hown.cellAt _ (by omega), List.getElem?_eq_getElem (by omega)]⟩
        obtain ⟨u2, hu2⟩ : ∃ u, w1.cell? ⟨w.heap.size, k * 3 + 2, none⟩ = some u := ⟨cs[k * 3 + 2]'(by omega), by rw [hown.cellAt _ (by omega), List.getElem?_eq_getElem (by omega)]⟩
        have hfz0 := hown.frozenAt (k * 3)
        have hfz1 := hown.frozenAt (k * 3 + 1)
        have hfz2 := hown.frozenAt (k * 3 + 2)
        generalize markS (-3000000 - (k : Int)) = ms at *
        have R0 := (hown.stored (k * 3) (.int .i8 (⟨0, ⟨⟨#[]⟩, ms⟩⟩ : EnD).1)).1
        have R1 := (R0.stored (k * 3 + 1) (.string (⟨0, ⟨⟨#[]⟩, ms⟩⟩ : EnD).2.1)).1
        have R2 := (R1.stored (k * 3 + 2) (.string (⟨0, ⟨⟨#[]⟩, ms⟩⟩ : EnD).2.2)).1
        have RB := ((hbel.setCell (p := ⟨w.heap.size, k * 3, none⟩) (Nat.le_refl _) (.int .i8 (⟨0, ⟨⟨#[]⟩, ms⟩⟩ : EnD).1)).setCell (p := ⟨w.heap.size, k * 3 + 1, none⟩) (Nat.le_refl _) (.string (⟨0, ⟨⟨#[]⟩, ms⟩⟩ : EnD).2.1)).setCell (p := ⟨w.heap.size, k * 3 + 2, none⟩) (Nat.le_refl _) (.string (⟨0, ⟨⟨#[]⟩, ms⟩⟩ : EnD).2.2)
        have HR : Hid (_ ∧ ∃ cs', _ ∧ WeE l (k + 1) cs') := ⟨RB, _, R2, WeE_step hwd (by omega) hxw⟩
        clear R0 R1 R2 RB hwd hxw hl hown hown0 hbel hbel0 hb1 HO HC
        go_wp2
        go_roundw
        case rel => exact ⟨k + 1, by omega, by go_num, HR⟩
        case measure => simp [intOf]; omega
    · obtain rfl : k = l.length + 64 := by omega
      clear HC
      go_wp2
      go_ret
      obtain ⟨hbel, cs, hown, hwd⟩ := HO.out
      exact ⟨rfl, ⟨cs, hown, hwd⟩, hbel⟩

/-- What stands at a place of a wide list. -/
def weI (l : List IdD) (j : Nat) : IdD := l.getD j ⟨⟨#[]⟩, markS (-3000000 - (j : Int))⟩
/-- The first k of a wide list. -/
def WeI (l : List IdD) (k : Nat) (cs : List Value) : Prop := ∀ j, j < k → cs[j * 2]? = some (.string (weI l j).1) ∧ cs[j * 2 + 1]? = some (.string (weI l j).2)
/-- A wide list in block g. -/
def WidI (w : World) (g : Nat) (l : List IdD) : Prop := ∃ cs, w.ownsRow g 120 2 (.slice (some ⟨g, 0, none⟩) (l.length + 64) (l.length + 64)) (l.length + 64) cs ∧ WeI l (l.length + 64) cs

theorem WeI_step {l : List IdD} {k : Nat} {cs : List Value} (h : WeI l k cs) (hl : k * 2 + 2 ≤ cs.length) {x : IdD} (hx : x = weI l k) : WeI l (k + 1) ((cs.set (k * 2) (.string (x).1)).set (k * 2 + 1) (.string (x).2)) := by
  intro j hj
  by_cases hjk : j < k
  · obtain ⟨a0, a1⟩ := h j hjk
    refine ⟨?_, ?_⟩
    · rw [List.getElem?_set_ne (by omega), List.getElem?_set_ne (by omega)]; exact a0
    · rw [List.getElem?_set_ne (by omega), List.getElem?_set_ne (by omega)]; exact a1
  · obtain rfl : j = k := by omega
    subst hx
    refine ⟨?_, ?_⟩
    · rw [List.getElem?_set_ne (by omega), List.getElem?_set_self (by first | omega | (simp only [List.length_set]; omega))]
    · rw [List.getElem?_set_self (by first | omega | (simp only [List.length_set]; omega))]

theorem WidI.below {w w' : World} {g : Nat} {l : List IdD} (h : WidI w g l) (hB : Below w.heap.size w w') : WidI w' g l := by
  obtain ⟨cs, h1, h2⟩ := h
  exact ⟨cs, ownsRow_kept h1 (Below.kept hB) (fun k hk e => by have := (h1.lt k hk).2; omega), h2⟩

theorem WidI.kept {w w' : World} {S : Nat → Prop} {g : Nat} {l : List IdD} (h : WidI w g l) (hk : Kept w w' S) (hS : ¬ S g) : WidI w' g l := by
  obtain ⟨cs, h1, h2⟩ := h
  exact ⟨cs, ownsRow_kept h1 hk (fun k hk e => by cases hk; exact hS e), h2⟩

theorem WidI.sees {w : World} {g : Nat} {l : List IdD} (h : WidI w g l) (hl : l.length ≤ 2000000000) : SeesR w (.slice (some ⟨g, 0, none⟩) l.length (l.length + 64)) 2 (l.map IdD.cells) := by
  obtain ⟨cs, h1, h2⟩ := h
  refine ⟨_, _, by rw [List.length_map], by rw [List.length_map]; omega, by unfold maxLen; omega, fun e => by simp at e, .inr ⟨g, 0, rfl, fun i hi j hj => ?_⟩⟩
  rw [List.length_map] at hi
  have hw : weI l i = l[i] := by unfold weI; rw [List.getD_eq_getElem?_getD, List.getElem?_eq_getElem hi]; rfl
  obtain ⟨a0, a1⟩ := h2 i (by omega)
  rw [hw] at a0 a1
  rw [Nat.zero_add, List.getElem_map]
  rcases (show j = 0 ∨ j = 1 by omega) with rfl | rfl
  · rw [h1.cellAt _ (by omega)]; simpa [IdD.cells] using a0
  · rw [h1.cellAt _ (by omega)]; simpa [IdD.cells] using a1

set_option maxHeartbeats 1000000 in
theorem wideIds_rq (v : Value) (l : List IdD) (w : World) (h : SeesR w v 2 (l.map IdD.cells)) (hreach : l.length ≤ 2000000000) (ht : Tab w) (hg0 : 1 < w.heap.size) :
    Calls Tryz.prog 68 #[v] w fun e w' => e = .returned (.slice (some ⟨w.heap.size, 0, none⟩) l.length (l.length + 64)) ∧ WidI w' w.heap.size l ∧ Below w.heap.size w w' := by
  have HT : Hid (Tab w ∧ 1 < w.heap.size) := ⟨ht, hg0⟩
  clear ht hg0
  obtain ⟨ao, cap, rfl, hlc, HC⟩ := cellsIW h
  clear h
  obtain ⟨i0, hi, hz0, hz1, hz2⟩ := info_parts Tryz.infoId
  go_enter Tryz.func68, Tryz.ntmps68
  go_wp2_with (at_make; refine wpList_make_full _ rfl _ _ 30 rfl w.heap.size 120 i0 (.agg #[.string ⟨#[]⟩, .string ⟨#[]⟩]) 2 Tryz.underlying30 hi hz0 hz1 .i64 .i64 _ _ (l.length + 64) rfl rfl (by omega) (by omega) (by rw [hz2]; omega) (by unfold maxLen; omega) (Nat.le_refl _) ?_)
  intro w0 hown0 hgrow0
  have hbel0 : Below w.heap.size w w0 := (Below.refl _ _).grown hgrow0 (Nat.le_refl _) (fun k hk => by simp at hk)
  have HO0 : Hid (Below w.heap.size w w0 ∧ ∃ cs, w0.ownsRow w.heap.size 120 2 (.slice (some ⟨w.heap.size, 0, none⟩) (l.length + 64) (l.length + 64)) (l.length + 64) cs ∧ WeI l 0 cs) := ⟨hbel0, _, hown0, fun j hj => by omega⟩
  clear hown0 hgrow0 hbel0
  go_wp2
  go_loopw [4] (fun i wr => ∃ k : Nat, k ≤ l.length + 64 ∧ i = .int .i64 k ∧ Hid (Below w.heap.size w wr ∧ ∃ cs, wr.ownsRow w.heap.size 120 2 (.slice (some ⟨w.heap.size, 0, none⟩) (l.length + 64) (l.length + 64)) (l.length + 64) cs ∧ WeI l k cs)) (fun i _ => l.length + 64 - (intOf i).toNat)
  case atStart => exact ⟨0, Nat.zero_le _, rfl, HO0⟩
  case round =>
    clear HO0 w0
    obtain ⟨k, hk, rfl, HO⟩ := hrel
    by_cases hlt : k < l.length + 64
    · by_cases hlx : k < l.length
      · obtain ⟨hbel, cs, hown, hwd⟩ := HO.out
        have hl : cs.length = (l.length + 64) * 2 := hown.1
        obtain ⟨b, off, rfl, k0, k1⟩ := HC.out k hlx
        have l0 := cell_later k0 hbel (Nat.le_refl _)
        have l1 := cell_later k1 hbel (Nat.le_refl _)
        obtain ⟨x, hx⟩ : ∃ x, x = l[k] := ⟨_, rfl⟩
        rw [← hx] at k0 l0 k1 l1
        have hxw : x = weI l k := by unfold weI; rw [List.getD_eq_getElem?_getD, List.getElem?_eq_getElem hlx]; exact hx
        obtain ⟨u0, hu0⟩ : ∃ u, wr.cell? ⟨w.heap.size, k * 2, none⟩ = some u := ⟨cs[k * 2]'(by omega), by rw [hown.cellAt _ (by omega), List.getElem?_eq_getElem (by omega)]⟩
        obtain ⟨u1, hu1⟩ : ∃ u, wr.cell? ⟨w.heap.size, k * 2 + 1, none⟩ = some u := ⟨cs[k * 2 + 1]'(by omega), by rw [hown.cellAt _ (by omega), List.getElem?_eq_getElem (by omega)]⟩
        have hfz0 := hown.frozenAt (k * 2)
        have hfz1 := hown.frozenAt (k * 2 + 1)
        have R0 := (hown.stored (k * 2) (.string (x).1)).1
        have R1 := (R0.stored (k * 2 + 1) (.string (x).2)).1
        have RB := (hbel.setCell (p := ⟨w.heap.size, k * 2, none⟩) (Nat.le_refl _) (.string (x).1)).setCell (p := ⟨w.heap.size, k * 2 + 1, none⟩) (Nat.le_refl _) (.string (x).2)
        have HR : Hid (_ ∧ ∃ cs', _ ∧ WeI l (k + 1) cs') := ⟨RB, _, R1, WeI_step hwd (by omega) hxw⟩
        clear R0 R1 RB hwd hxw hx hl hown hbel HO HC k0 k1
        go_wp2
        go_roundw
        case rel => exact ⟨k + 1, by omega, by go_num, HR⟩
        case measure => simp [intOf]; omega
      · go_wp2_with fail
        refine (mark_is _ _ (by omega) (by omega) (HT.out.1.below HO.out.1 HT.out.2)).mono ?_
        rintro e w1 ⟨rfl, hb1⟩
        obtain ⟨hbel0, cs, hown0, hwd⟩ := HO.out
        have hown := ownsRow_kept hown0 (Below.kept hb1) (fun k hk e => by have := (hown0.lt k hk).2; omega)
        have hbel : Below w.heap.size w w1 := hbel0.trans (hb1.mono hbel0.size)
        have hl : cs.length = (l.length + 64) * 2 := hown.1
        have hxw : (⟨⟨#[]⟩, markS (-3000000 - (k : Int))⟩ : IdD) = weI l k := by unfold weI; rw [List.getD_eq_getElem?_getD, List.getElem?_eq_none (by omega)]; rfl
        obtain ⟨u0, hu0⟩ : ∃ u, w1.cell? ⟨w.heap.size, k * 2, none⟩ = some u := ⟨cs[k * 2]'(by omega), by rw [hown.cellAt _ (by omega), List.getElem?_eq_getElem (by omega)]⟩
        obtain ⟨u1, hu1⟩ : ∃ u, w1.cell? ⟨w.heap.size, k * 2 + 1, none⟩ = some u := ⟨cs[k * 2 + 1]'(by omega), by rw [hown.cellAt _ (by omega), List.getElem?_eq_getElem (by omega)]⟩
        have hfz0 := hown.frozenAt (k * 2)
        have hfz1 := hown.frozenAt (k * 2 + 1)
        generalize markS (-3000000 - (k : Int)) = ms at *
        have R0 := (hown.stored (k * 2) (.string (⟨⟨#[]⟩, ms⟩ : IdD).1)).1
        have R1 := (R0.stored (k * 2 + 1) (.string (⟨⟨#[]⟩, ms⟩ : IdD).2)).1
        have RB := (hbel.setCell (p := ⟨w.heap.size, k * 2, none⟩) (Nat.le_refl _) (.string (⟨⟨#[]⟩, ms⟩ : IdD).1)).setCell (p := ⟨w.heap.size, k * 2 + 1, none⟩) (Nat.le_refl _) (.string (⟨⟨#[]⟩, ms⟩ : IdD).2)
        have HR : Hid (_ ∧ ∃ cs', _ ∧ WeI l (k + 1) cs') := ⟨RB, _, R1, WeI_step hwd (by omega) hxw⟩
        clear R0 R1 RB hwd hxw hl hown hown0 hbel hbel0 hb1 HO HC
        go_wp2
        go_roundw
        case rel => exact ⟨k + 1, by omega, by go_num, HR⟩
        case measure => simp [intOf]; omega
    · obtain rfl : k = l.length + 64 := by omega
      clear HC
      go_wp2
      go_ret
      obtain ⟨hbel, cs, hown, hwd⟩ := HO.out
      exact ⟨rfl, ⟨cs, hown, hwd⟩, hbel⟩

end Go.Proofs.YtehgibgeghhloaaGreatDoor
