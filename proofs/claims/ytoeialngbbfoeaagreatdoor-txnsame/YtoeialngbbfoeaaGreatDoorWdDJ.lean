/- Lists of entries and ids in memory, place by place. -/
import Derived.Test.YtoeialngbbfoeaaGreatDoorChCJ
import Derived.Test.YtoeialngbbfoeaaGreatDoorBgEhJ
import Derived.Deep.RegionHeld
import Derived.Maps.AppendAt
namespace Go.Proofs.YtoeialngbbfoeaaGreatDoor
open Go.RowKit
set_option maxRecDepth 8000

theorem cellsEW {w : World} {v : Value} {l : List EnD} (h : SeesR w v 3 (l.map EnD.cells)) : ∃ ao cap, v = .slice ao l.length cap ∧ l.length ≤ cap ∧ Hid (∀ k (hk : k < l.length), ∃ b off, ao = some ⟨b, off, none⟩ ∧ w.cell? ⟨b, off + k * 3, none⟩ = some (.int .i8 l[k].1) ∧ w.cell? ⟨b, off + k * 3 + 1, none⟩ = some (.string l[k].2.1) ∧ w.cell? ⟨b, off + k * 3 + 2, none⟩ = some (.string l[k].2.2)) := by
  obtain ⟨ao, cap, h1, h2, _, _, h3⟩ := h
  rw [List.length_map] at h1 h2
  refine ⟨ao, cap, h1, h2, fun k hk => ?_⟩
  rcases h3 with h3 | ⟨b, off, e, h3⟩
  · have : l.length = 0 := by simpa using congrArg List.length h3
    omega
  · have h := h3 k (by rw [List.length_map]; exact hk)
    refine ⟨b, off, e, ?_, ?_, ?_⟩
    · exact (h 0 (by omega)).trans (by simp [EnD.cells])
    · exact (h 1 (by omega)).trans (by simp [EnD.cells])
    · exact (h 2 (by omega)).trans (by simp [EnD.cells])

theorem cellsIW {w : World} {v : Value} {l : List IdD} (h : SeesR w v 2 (l.map IdD.cells)) : ∃ ao cap, v = .slice ao l.length cap ∧ l.length ≤ cap ∧ Hid (∀ k (hk : k < l.length), ∃ b off, ao = some ⟨b, off, none⟩ ∧ w.cell? ⟨b, off + k * 2, none⟩ = some (.string l[k].1) ∧ w.cell? ⟨b, off + k * 2 + 1, none⟩ = some (.string l[k].2)) := by
  obtain ⟨ao, cap, h1, h2, _, _, h3⟩ := h
  rw [List.length_map] at h1 h2
  refine ⟨ao, cap, h1, h2, fun k hk => ?_⟩
  rcases h3 with h3 | ⟨b, off, e, h3⟩
  · have : l.length = 0 := by simpa using congrArg List.length h3
    omega
  · have h := h3 k (by rw [List.length_map]; exact hk)
    refine ⟨b, off, e, ?_, ?_⟩
    · exact (h 0 (by omega)).trans (by simp [IdD.cells])
    · exact (h 1 (by omega)).trans (by simp [IdD.cells])
end Go.Proofs.YtoeialngbbfoeaaGreatDoor

/- lagoonref00's WideAcl and WideIds over a request's lists: lists of their own with marks behind them. -/
namespace Go.Proofs.YtoeialngbbfoeaaGreatDoor
open Go.RowKit Go.Shelf
set_option maxRecDepth 8000

/-- What stands at a place of a wide list. -/
def weE (l : List EnD) (j : Nat) : EnD := l.getD j ⟨0, ⟨⟨#[]⟩, markS (-3000000 - (j : Int))⟩⟩
/-- The first k of a wide list. -/
def WeE (l : List EnD) (k : Nat) (cs : List Value) : Prop := ∀ j, j < k → cs[j * 3]? = some (.int .i8 (weE l j).1) ∧ cs[j * 3 + 1]? = some (.string (weE l j).2.1) ∧ cs[j * 3 + 2]? = some (.string (weE l j).2.2)
/-- A wide list in block g. -/
def WidE (w : World) (g : Nat) (l : List EnD) : Prop := ∃ cs, w.ownsRow g 105 3 (.slice (some ⟨g, 0, none⟩) (l.length + 64) (l.length + 64)) (l.length + 64) cs ∧ WeE l (l.length + 64) cs

theorem WeE_step {l : List EnD} {k : Nat} {cs : List Value} (h : WeE l k cs) (hl : k * 3 + 3 ≤ cs.length) {x : EnD} (hx : x = weE l k) : WeE l (k + 1) (((cs.set (k * 3) (.int .i8 (x).1)).set (k * 3 + 1) (.string (x).2.1)).set (k * 3 + 2) (.string (x).2.2)) := by
  intro j hj
  by_cases hjk : j < k
  · obtain ⟨a0, a1, a2⟩ := h j hjk
    refine ⟨?_, ?_, ?_⟩
    · rw [List.getElem?_set_ne (by omega), List.getElem?_set_ne (by omega), List.getElem?_set_ne (by omega)]; exact a0
    · rw [List.getElem?_set_ne (by omega), List.getElem?_set_ne (by omega), List.getElem?_set_ne (by omega)]; exact a1
    · rw [List.getElem?_set_ne (by omega), List.getElem?_set_ne (by omega), List.getElem?_set_ne (by omega)]; exact a2
  · obtain rfl : j = k := by omega
    subst hx
    refine ⟨?_, ?_, ?_⟩
    · rw [List.getElem?_set_ne (by omega), List.getElem?_set_ne (by omega), List.getElem?_set_self (by first | omega | (simp only [List.length_set]; omega))]
    · rw [List.getElem?_set_ne (by omega), List.getElem?_set_self (by first | omega | (simp only [List.length_set]; omega))]
    · rw [List.getElem?_set_self (by first | omega | (simp only [List.length_set]; omega))]

theorem WidE.below {w w' : World} {g : Nat} {l : List EnD} (h : WidE w g l) (hB : Below w.heap.size w w') : WidE w' g l := by
  obtain ⟨cs, h1, h2⟩ := h
  exact ⟨cs, ownsRow_kept h1 (Below.kept hB) (fun k hk e => by have := (h1.lt k hk).2; omega), h2⟩

theorem WidE.kept {w w' : World} {S : Nat → Prop} {g : Nat} {l : List EnD} (h : WidE w g l) (hk : Kept w w' S) (hS : ¬ S g) : WidE w' g l := by
  obtain ⟨cs, h1, h2⟩ := h
  exact ⟨cs, ownsRow_kept h1 hk (fun k hk e => by cases hk; exact hS e), h2⟩

theorem WidE.sees {w : World} {g : Nat} {l : List EnD} (h : WidE w g l) (hl : l.length ≤ 2000000000) : SeesR w (.slice (some ⟨g, 0, none⟩) l.length (l.length + 64)) 3 (l.map EnD.cells) := by
  obtain ⟨cs, h1, h2⟩ := h
  refine ⟨_, _, by rw [List.length_map], by rw [List.length_map]; omega, by unfold maxLen; omega, fun e => by simp at e, .inr ⟨g, 0, rfl, fun i hi j hj => ?_⟩⟩
  rw [List.length_map] at hi
  have hw : weE l i = l[i] := by unfold weE; rw [List.getD_eq_getElem?_getD, List.getElem?_eq_getElem hi]; rfl
  obtain ⟨a0, a1, a2⟩ := h2 i (by omega)
  rw [hw] at a0 a1 a2
  rw [Nat.zero_add, List.getElem_map]
  rcases (show j = 0 ∨ j = 1 ∨ j = 2 by omega) with rfl | rfl | rfl
  · rw [h1.cellAt _ (by omega)]; simpa [EnD.cells] using a0
  · rw [h1.cellAt _ (by omega)]; simpa [EnD.cells] using a1
  · rw [h1.cellAt _ (by omega)]; simpa [EnD.cells] using a2

set_option maxHeartbeats 1000000 in
theorem wideAcl_rq (v : Value) (l : List EnD) (w : World) (h : SeesR w v 3 (l.map EnD.cells)) (hreach : l.length ≤ 2000000000) (ht : Tab w) (hg0 : 1 < w.heap.size) :
    Calls Tryz.prog 67 #[v] w fun e w' => e = .returned (.slice (some ⟨w.heap.size, 0, none⟩) l.length (l.length + 64)) ∧ WidE w' w.heap.size l ∧ Below w.heap.size w w' := by
  have HT : Hid (Tab w ∧ 1 < w.heap.size) := ⟨ht, hg0⟩
  clear ht hg0
  obtain ⟨ao, cap, rfl, hlc, HC⟩ := cellsEW h
  clear h
  obtain ⟨i0, hi, hz0, hz1, hz2⟩ := info_parts Tryz.infoEn
  go_enter Tryz.func67, Tryz.ntmps67
  go_wp2_with (at_make; refine wpList_make_full _ rfl _ _ 29 rfl w.heap.size 105 i0 (.agg #[.int .i8 0, .string ⟨#[]⟩, .string ⟨#[]⟩]) 3 Tryz.underlying29 hi hz0 hz1 .i64 .i64 _ _ (l.length + 64) rfl rfl (by omega) (by omega) (by rw [hz2]; omega) (by unfold maxLen; omega) (Nat.le_refl _) ?_)
  intro w0 hown0 hgrow0
  have hbel0 : Below w.heap.size w w0 := (Below.refl _ _).grown hgrow0 (Nat.le_refl _) (fun k hk => by simp at hk)
  have HO0 : Hid (Below w.heap.size w w0 ∧ ∃ cs, w0.ownsRow w.heap.size 105 3 (.slice (some ⟨w.heap.size, 0, none⟩) (l.length + 64) (l.length + 64)) (l.length + 64) cs ∧ WeE l 0 cs) := ⟨hbel0, _, hown0, fun j hj => by omega⟩
  clear hown0 hgrow0 hbel0
  go_wp2
  go_loopw [4] (fun i wr => ∃ k : Nat, k ≤ l.length + 64 ∧ i = .int .i64 k ∧ Hid (Below w.heap.size w wr ∧ ∃ cs, wr.ownsRow w.heap.size 105 3 (.slice (some ⟨w.heap.size, 0, none⟩) (l.length + 64) (l.length + 64)) (l.length + 64) cs ∧ WeE l k cs)) (fun i _ => l.length + 64 - (intOf i).toNat)
  case atStart => exact ⟨0, Nat.zero_le _, rfl, HO0⟩
  case round =>
    clear HO0 w0
    obtain ⟨k, hk, rfl, HO⟩ := hrel
    by_cases hlt : k < l.length + 64
    · by_cases hlx : k < l.length
      · obtain ⟨hbel, cs, hown, hwd⟩ := HO.out
        have hl : cs.length = (l.length + 64) * 3 := hown.1
        obtain ⟨b, off, rfl, k0, k1, k2⟩ := HC.out k hlx
        have l0 := cell_later k0 hbel (Nat.le_refl _)
        have l1 := cell_later k1 hbel (Nat.le_refl _)
        have l2 := cell_later k2 hbel (Nat.le_refl _)
        obtain ⟨x, hx⟩ : ∃ x, x = l[k] := ⟨_, rfl⟩
        rw [← hx] at k0 l0 k1 l1 k2 l2
        have hxw : x = weE l k := by unfold weE; rw [List.getD_eq_getElem?_getD, List.getElem?_eq_getElem hlx]; exact hx
        obtain ⟨u0, hu0⟩ : ∃ u, wr.cell? ⟨w.heap.size, k * 3, none⟩ = some u := ⟨cs[k * 3]'(by omega), by rw [hown.cellAt _ (by omega), List.getElem?_eq_getElem (by omega)]⟩
        obtain ⟨u1, hu1⟩ : ∃ u, wr.cell? ⟨w.heap.size, k * 3 + 1, none⟩ = some u := ⟨cs[k * 3 + 1]'(by omega), by rw [hown.cellAt _ (by omega), List.getElem?_eq_getElem (by omega)]⟩
        obtain ⟨u2, hu2⟩ : ∃ u, wr.cell? ⟨w.heap.size, k * 3 + 2, none⟩ = some u := ⟨cs[k * 3 + 2]'(by omega), by rw [hown.cellAt _ (by omega), List.getElem?_eq_getElem (by omega)]⟩
        have hfz0 := hown.frozenAt (k * 3)
        have hfz1 := hown.frozenAt (k * 3 + 1)
        have hfz2 := hown.frozenAt (k * 3 + 2)
        have R0 := (hown.stored (k * 3) (.int .i8 (x).1)).1
        have R1 := (R0.stored (k * 3 + 1) (.string (x).2.1)).1
        have R2 := (R1.stored (k * 3 + 2) (.string (x).2.2)).1
        have RB := ((hbel.setCell (p := ⟨w.heap.size, k * 3, none⟩) (Nat.le_refl _) (.int .i8 (x).1)).setCell (p := ⟨w.heap.size, k * 3 + 1, none⟩) (Nat.le_refl _) (.string (x).2.1)).setCell (p := ⟨w.heap.size, k * 3 + 2, none⟩) (Nat.le_refl _) (.string (x).2.2)
        have HR : Hid (_ ∧ ∃ cs', _ ∧ WeE l (k + 1) cs') := ⟨RB, _, R2, WeE_step hwd (by omega) hxw⟩
        clear R0 R1 R2 RB hwd hxw hx hl hown hbel HO HC k0 k1 k2
        go_wp2
        go_roundw
        case rel => exact ⟨k + 1, by omega, by go_num, HR⟩
        case measure => simp [intOf]; omega
      · go_wp2_with fail
        refine (mark_is _ _ (by omega) (by omega) (HT.out.1.below HO.out.1 HT.out.2)).mono ?_
        rintro e w1 ⟨rfl, hb1⟩
        obtain ⟨hbel0, cs, hown0, hwd⟩ := HO.out
        have hown := ownsRow_kept hown0 (Below.kept hb1) (fun k hk e => by have := (hown0.lt k hk).2; omega)
        have hbel : Below w.heap.size w w1 := hbel0.trans (hb1.mono hbel0.size)
        have hl : cs.length = (l.length + 64) * 3 := hown.1
        have hxw : (⟨0, ⟨⟨#[]⟩, markS (-3000000 - (k : Int))⟩⟩ : EnD) = weE l k := by unfold weE; rw [List.getD_eq_getElem?_getD, List.getElem?_eq_none (by omega)]; rfl
        obtain ⟨u0, hu0⟩ : ∃ u, w1.cell? ⟨w.heap.size, k * 3, none⟩ = some u := ⟨cs[k * 3]'(by omega), by rw [hown.cellAt _ (by omega), List.getElem?_eq_getElem (by omega)]⟩
        obtain ⟨u1, hu1⟩ : ∃ u, w1.cell? ⟨w.heap.size, k * 3 + 1, none⟩ = some u := ⟨cs[k * 3 + 1]'(by omega), by rw [hown.cellAt _ (by omega), List.getElem?_eq_getElem (by omega)]⟩
        obtain ⟨u2, hu2⟩ : ∃ u, w1.cell? ⟨w.heap.size, k * 3 + 2, none⟩ = some u := ⟨cs[k * 3 + 2]'(by omega), by rw [hown.cellAt _ (by omega), List.getElem?_eq_getElem (by omega)]⟩
        have hfz0 := hown.frozenAt (k * 3)
        have hfz1 := hown.frozenAt (k * 3 + 1)
        have hfz2 := hown.frozenAt (k * 3 + 2)
        generalize markS (-3000000 - (k : Int)) = ms at *
        have R0 := (hown.stored (k * 3) (.int .i8 (⟨0, ⟨⟨#[]⟩, ms⟩⟩ : EnD).1)).1
        have R1 := (R0.stored (k * 3 + 1) (.string (⟨0, ⟨⟨#[]⟩, ms⟩⟩ : EnD).2.1)).1
        have R2 := (R1.stored (k * 3 + 2) (.string (⟨0, ⟨⟨#[]⟩, ms⟩⟩ : EnD).2.2)).1
        have RB := ((hbel.setCell (p := ⟨w.heap.size, k * 3, none⟩) (Nat.le_refl _) (.int .i8 (⟨0, ⟨⟨#[]⟩, ms⟩⟩ : EnD).1)).setCell (p := ⟨w.heap.size, k * 3 + 1, none⟩) (Nat.le_refl _) (.string (⟨0, ⟨⟨#[]⟩, ms⟩⟩ : EnD).2.1)).setCell (p := ⟨w.heap.size, k * 3 + 2, none⟩) (Nat.le_refl _) (.string (⟨0, ⟨⟨#[]⟩, ms⟩⟩ : EnD).2.2)
        have HR : Hid (_ ∧ ∃ cs', _ ∧ WeE l (k + 1) cs') := ⟨RB, _, R2, WeE_step hwd (by omega) hxw⟩
        clear R0 R1 R2 RB hwd hxw hl hown hown0 hbel hbel0 hb1 HO HC
        go_wp2
        go_roundw
        case rel => exact ⟨k + 1, by omega, by go_num, HR⟩
        case measure => simp [intOf]; omega
    · obtain rfl : k = l.length + 64 := by omega
      clear HC
      go_wp2
      go_ret
      obtain ⟨hbel, cs, hown, hwd⟩ := HO.out
      exact ⟨rfl, ⟨cs, hown, hwd⟩, hbel⟩

/-- What stands at a place of a wide list. -/
def weI (l : List IdD) (j : Nat) : IdD := l.getD j ⟨⟨#[]⟩, markS (-3000000 - (j : Int))⟩
/-- The first k of a wide list. -/
def WeI (l : List IdD) (k : Nat) (cs : List Value) : Prop := ∀ j, j < k → cs[j * 2]? = some (.string (weI l j).1) ∧ cs[j * 2 + 1]? = some (.string (weI l j).2)
/-- A wide list in block g. -/
def WidI (w : World) (g : Nat) (l : List IdD) : Prop := ∃ cs, w.ownsRow g 103 2 (.slice (some ⟨g, 0, none⟩) (l.length + 64) (l.length + 64)) (l.length + 64) cs ∧ WeI l (l.length + 64) cs

theorem WeI_step {l : List IdD} {k : Nat} {cs : List Value} (h : WeI l k cs) (hl : k * 2 + 2 ≤ cs.length) {x : IdD} (hx : x = weI l k) : WeI l (k + 1) ((cs.set (k * 2) (.string (x).1)).set (k * 2 + 1) (.string (x).2)) := by
  intro j hj
  by_cases hjk : j < k
  · obtain ⟨a0, a1⟩ := h j hjk
    refine ⟨?_, ?_⟩
    · rw [List.getElem?_set_ne (by omega), List.getElem?_set_ne (by omega)]; exact a0
    · rw [List.getElem?_set_ne (by omega), List.getElem?_set_ne (by omega)]; exact a1
  · obtain rfl : j = k := by omega
    subst hx
    refine ⟨?_, ?_⟩
    · rw [List.getElem?_set_ne (by omega), List.getElem?_set_self (by first | omega | (simp only [List.length_set]; omega))]
    · rw [List.getElem?_set_self (by first | omega | (simp only [List.length_set]; omega))]

theorem WidI.below {w w' : World} {g : Nat} {l : List IdD} (h : WidI w g l) (hB : Below w.heap.size w w') : WidI w' g l := by
  obtain ⟨cs, h1, h2⟩ := h
  exact ⟨cs, ownsRow_kept h1 (Below.kept hB) (fun k hk e => by have := (h1.lt k hk).2; omega), h2⟩

theorem WidI.kept {w w' : World} {S : Nat → Prop} {g : Nat} {l : List IdD} (h : WidI w g l) (hk : Kept w w' S) (hS : ¬ S g) : WidI w' g l := by
  obtain ⟨cs, h1, h2⟩ := h
  exact ⟨cs, ownsRow_kept h1 hk (fun k hk e => by cases hk; exact hS e), h2⟩

theorem WidI.sees {w : World} {g : Nat} {l : List IdD} (h : WidI w g l) (hl : l.length ≤ 2000000000) : SeesR w (.slice (some ⟨g, 0, none⟩) l.length (l.length + 64)) 2 (l.map IdD.cells) := by
  obtain ⟨cs, h1, h2⟩ := h
  refine ⟨_, _, by rw [List.length_map], by rw [List.length_map]; omega, by unfold maxLen; omega, fun e => by simp at e, .inr ⟨g, 0, rfl, fun i hi j hj => ?_⟩⟩
  rw [List.length_map] at hi
  have hw : weI l i = l[i] := by unfold weI; rw [List.getD_eq_getElem?_getD, List.getElem?_eq_getElem hi]; rfl
  obtain ⟨a0, a1⟩ := h2 i (by omega)
  rw [hw] at a0 a1
  rw [Nat.zero_add, List.getElem_map]
  rcases (show j = 0 ∨ j = 1 by omega) with rfl | rfl
  · rw [h1.cellAt _ (by omega)]; simpa [IdD.cells] using a0
  · rw [h1.cellAt _ (by omega)]; simpa [IdD.cells] using a1

set_option maxHeartbeats 1000000 in
theorem wideIds_rq (v : Value) (l : List IdD) (w : World) (h : SeesR w v 2 (l.map IdD.cells)) (hreach : l.length ≤ 2000000000) (ht : Tab w) (hg0 : 1 < w.heap.size) :
    Calls Tryz.prog 68 #[v] w fun e w' => e = .returned (.slice (some ⟨w.heap.size, 0, none⟩) l.length (l.length + 64)) ∧ WidI w' w.heap.size l ∧ Below w.heap.size w w' := by
  have HT : Hid (Tab w ∧ 1 < w.heap.size) := ⟨ht, hg0⟩
  clear ht hg0
  obtain ⟨ao, cap, rfl, hlc, HC⟩ := cellsIW h
  clear h
  obtain ⟨i0, hi, hz0, hz1, hz2⟩ := info_parts Tryz.infoId
  go_enter Tryz.func68, Tryz.ntmps68
  go_wp2_with (at_make; refine wpList_make_full _ rfl _ _ 30 rfl w.heap.size 103 i0 (.agg #[.string ⟨#[]⟩, .string ⟨#[]⟩]) 2 Tryz.underlying30 hi hz0 hz1 .i64 .i64 _ _ (l.length + 64) rfl rfl (by omega) (by omega) (by rw [hz2]; omega) (by unfold maxLen; omega) (Nat.le_refl _) ?_)
  intro w0 hown0 hgrow0
  have hbel0 : Below w.heap.size w w0 := (Below.refl _ _).grown hgrow0 (Nat.le_refl _) (fun k hk => by simp at hk)
  have HO0 : Hid (Below w.heap.size w w0 ∧ ∃ cs, w0.ownsRow w.heap.size 103 2 (.slice (some ⟨w.heap.size, 0, none⟩) (l.length + 64) (l.length + 64)) (l.length + 64) cs ∧ WeI l 0 cs) := ⟨hbel0, _, hown0, fun j hj => by omega⟩
  clear hown0 hgrow0 hbel0
  go_wp2
  go_loopw [4] (fun i wr => ∃ k : Nat, k ≤ l.length + 64 ∧ i = .int .i64 k ∧ Hid (Below w.heap.size w wr ∧ ∃ cs, wr.ownsRow w.heap.size 103 2 (.slice (some ⟨w.heap.size, 0, none⟩) (l.length + 64) (l.length + 64)) (l.length + 64) cs ∧ WeI l k cs)) (fun i _ => l.length + 64 - (intOf i).toNat)
  case atStart => exact ⟨0, Nat.zero_le _, rfl, HO0⟩
  case round =>
    clear HO0 w0
    obtain ⟨k, hk, rfl, HO⟩ := hrel
    by_cases hlt : k < l.length + 64
    · by_cases hlx : k < l.length
      · obtain ⟨hbel, cs, hown, hwd⟩ := HO.out
        have hl : cs.length = (l.length + 64) * 2 := hown.1
        obtain ⟨b, off, rfl, k0, k1⟩ := HC.out k hlx
        have l0 := cell_later k0 hbel (Nat.le_refl _)
        have l1 := cell_later k1 hbel (Nat.le_refl _)
        obtain ⟨x, hx⟩ : ∃ x, x = l[k] := ⟨_, rfl⟩
        rw [← hx] at k0 l0 k1 l1
        have hxw : x = weI l k := by unfold weI; rw [List.getD_eq_getElem?_getD, List.getElem?_eq_getElem hlx]; exact hx
        obtain ⟨u0, hu0⟩ : ∃ u, wr.cell? ⟨w.heap.size, k * 2, none⟩ = some u := ⟨cs[k * 2]'(by omega), by rw [hown.cellAt _ (by omega), List.getElem?_eq_getElem (by omega)]⟩
        obtain ⟨u1, hu1⟩ : ∃ u, wr.cell? ⟨w.heap.size, k * 2 + 1, none⟩ = some u := ⟨cs[k * 2 + 1]'(by omega), by rw [hown.cellAt _ (by omega), List.getElem?_eq_getElem (by omega)]⟩
        have hfz0 := hown.frozenAt (k * 2)
        have hfz1 := hown.frozenAt (k * 2 + 1)
        have R0 := (hown.stored (k * 2) (.string (x).1)).1
        have R1 := (R0.stored (k * 2 + 1) (.string (x).2)).1
        have RB := (hbel.setCell (p := ⟨w.heap.size, k * 2, none⟩) (Nat.le_refl _) (.string (x).1)).setCell (p := ⟨w.heap.size, k * 2 + 1, none⟩) (Nat.le_refl _) (.string (x).2)
        have HR : Hid (_ ∧ ∃ cs', _ ∧ WeI l (k + 1) cs') := ⟨RB, _, R1, WeI_step hwd (by omega) hxw⟩
        clear R0 R1 RB hwd hxw hx hl hown hbel HO HC k0 k1
        go_wp2
        go_roundw
        case rel => exact ⟨k + 1, by omega, by go_num, HR⟩
        case measure => simp [intOf]; omega
      · go_wp2_with fail
        refine (mark_is _ _ (by omega) (by omega) (HT.out.1.below HO.out.1 HT.out.2)).mono ?_
        rintro e w1 ⟨rfl, hb1⟩
        obtain ⟨hbel0, cs, hown0, hwd⟩ := HO.out
        have hown := ownsRow_kept hown0 (Below.kept hb1) (fun k hk e => by have := (hown0.lt k hk).2; omega)
        have hbel : Below w.heap.size w w1 := hbel0.trans (hb1.mono hbel0.size)
        have hl : cs.length = (l.length + 64) * 2 := hown.1
        have hxw : (⟨⟨#[]⟩, markS (-3000000 - (k : Int))⟩ : IdD) = weI l k := by unfold weI; rw [List.getD_eq_getElem?_getD, List.getElem?_eq_none (by omega)]; rfl
        obtain ⟨u0, hu0⟩ : ∃ u, w1.cell? ⟨w.heap.size, k * 2, none⟩ = some u := ⟨cs[k * 2]'(by omega), by rw [hown.cellAt _ (by omega), List.getElem?_eq_getElem (by omega)]⟩
        obtain ⟨u1, hu1⟩ : ∃ u, w1.cell? ⟨w.heap.size, k * 2 + 1, none⟩ = some u := ⟨cs[k * 2 + 1]'(by omega), by rw [hown.cellAt _ (by omega), List.getElem?_eq_getElem (by omega)]⟩
        have hfz0 := hown.frozenAt (k * 2)
        have hfz1 := hown.frozenAt (k * 2 + 1)
        generalize markS (-3000000 - (k : Int)) = ms at *
        have R0 := (hown.stored (k * 2) (.string (⟨⟨#[]⟩, ms⟩ : IdD).1)).1
        have R1 := (R0.stored (k * 2 + 1) (.string (⟨⟨#[]⟩, ms⟩ : IdD).2)).1
        have RB := (hbel.setCell (p := ⟨w.heap.size, k * 2, none⟩) (Nat.le_refl _) (.string (⟨⟨#[]⟩, ms⟩ : IdD).1)).setCell (p := ⟨w.heap.size, k * 2 + 1, none⟩) (Nat.le_refl _) (.string (⟨⟨#[]⟩, ms⟩ : IdD).2)
        have HR : Hid (_ ∧ ∃ cs', _ ∧ WeI l (k + 1) cs') := ⟨RB, _, R1, WeI_step hwd (by omega) hxw⟩
        clear R0 R1 RB hwd hxw hl hown hown0 hbel hbel0 hb1 HO HC
        go_wp2
        go_roundw
        case rel => exact ⟨k + 1, by omega, by go_num, HR⟩
        case measure => simp [intOf]; omega
    · obtain rfl : k = l.length + 64 := by omega
      clear HC
      go_wp2
      go_ret
      obtain ⟨hbel, cs, hown, hwd⟩ := HO.out
      exact ⟨rfl, ⟨cs, hown, hwd⟩, hbel⟩

end Go.Proofs.YtoeialngbbfoeaaGreatDoor

/- lagoonref00's SpareAcl and SpareIds over a request's lists: the marks behind a wide list stand. -/
namespace Go.Proofs.YtoeialngbbfoeaaGreatDoor
open Go.RowKit Go.Shelf
set_option maxRecDepth 8000

set_option maxHeartbeats 1000000 in
theorem spareAcl_rq (g : Nat) (l : List EnD) (w : World) (h : WidE w g l) (hreach : l.length ≤ 2000000000) (ht : Tab w) (hg0 : 1 < w.heap.size) :
    Calls Tryz.prog 23 #[.slice (some ⟨g, 0, none⟩) l.length (l.length + 64)] w fun e w' => e = .returned (.bool true) ∧ Below w.heap.size w w' := by
  have HT : Hid (Tab w ∧ 1 < w.heap.size) := ⟨ht, hg0⟩
  have HW : Hid (WidE w g l) := h
  clear ht hg0 h
  go_enter Tryz.func23, Tryz.ntmps23
  go_wp2
  go_loopw [4] (fun i wr => ∃ k : Nat, l.length ≤ k ∧ k ≤ l.length + 64 ∧ i = .int .i64 k ∧ Hid (Below w.heap.size w wr ∧ WidE wr g l)) (fun i _ => l.length + 64 - (intOf i).toNat)
  case atStart => exact ⟨l.length, Nat.le_refl _, by omega, rfl, Below.refl _ _, HW.out⟩
  case round =>
    obtain ⟨k, hk0, hk, rfl, HB⟩ := hrel
    by_cases hlt : k < l.length + 64
    · have hd : decide ((k : Int) < ((l.length : Int) + 64)) = true := by simp; omega
      obtain ⟨ms, hms⟩ : ∃ ms, ms = markS (-3000000 - (k : Int)) := ⟨_, rfl⟩
      have hcell : Hid (∀ V, Below w.heap.size w V → WidE V g l → V.cell? ⟨g, k * 3 + 2, none⟩ = some (.string ms)) := fun V _ hV => by
        obtain ⟨cs, h1, h2⟩ := hV
        have := (h2 k hlt).2.2
        rw [h1.cellAt _ (by omega), this]
        unfold weE
        rw [List.getD_eq_getElem?_getD, List.getElem?_eq_none hk0, hms]
        rfl
      have hmm : (ms.toList == (markS (-3000000 - (k : Int))).toList) = true := by rw [hms]; simp
      have HWr : Hid (IntKind.i64.wrap (-3000000 - (k : Int)) = -3000000 - (k : Int)) := by
        show _ = _
        simp [IntKind.wrap, IntKind.bits, IntKind.signed]
        omega
      have i0 : (0 : Int) ≤ (k : Int) := by omega
      have i1 : (k : Int) < (l.length : Int) + 64 := by omega
      go_wp2
      refine wp_region_held_drew (S := fun V' => V'.cell? ⟨g, k * 3 + 2, none⟩ = some (.string ms)) (by kernel_rfl) ?_ (fun hHeld => ?_)
      · exact hcell.out wr.drew (below_drewN HB.out.1 1) (HB.out.2.below (below_drewN (Below.refl _ _) 1))
      refine wpAnyH_take (i := 0) (oi := { dst := some 18, op := Op.move (Operand.tmp 3), type := 29, pos := "spare.go:152", after := #[], guard := none }) (v := ?_) rfl (by kernel_rfl) (by kernel_rfl) (by kernel_rfl) (fun _ _ _ h => h) (Or.inl ⟨by rfl, ?_⟩) (by assumption) ?_
      rotate_left
      · (intro w hSw; (try dsimp only at hSw); go_simp) <;> with_reducible rfl
      try simp only [Act.put, List.setIfInBounds_toArray, List.set_cons_zero, List.set_cons_succ]
      refine wpAnyH_take (i := 1) (oi := { dst := some 19, op := Op.move (Operand.tmp 4), type := 3, pos := "spare.go:152", after := #[], guard := none }) (v := ?_) rfl (by kernel_rfl) (by kernel_rfl) (by kernel_rfl) (fun _ _ _ h => h) (Or.inl ⟨by rfl, ?_⟩) (by assumption) ?_
      rotate_left
      · (intro w hSw; (try dsimp only at hSw); go_simp) <;> with_reducible rfl
      try simp only [Act.put, List.setIfInBounds_toArray, List.set_cons_zero, List.set_cons_succ]
      refine wpAnyH_take (i := 2) (oi := { dst := some 20, op := Op.indexAddr 29 (Operand.tmp 18) (Operand.tmp 19), type := 0, pos := "spare.go:152", after := #[{ on := 0, ground := Ground.data }, { on := 1, ground := Ground.data }], guard := none }) (v := ?_) rfl (by kernel_rfl) (by kernel_rfl) (by kernel_rfl) (fun _ _ _ h => h) (Or.inl ⟨by rfl, ?_⟩) (by assumption) ?_
      rotate_left
      · (intro w hSw; (try dsimp only at hSw); go_simp) <;> with_reducible rfl
      try simp only [Act.put, List.setIfInBounds_toArray, List.set_cons_zero, List.set_cons_succ]
      refine wpAnyH_take (i := 3) (oi := { dst := some 21, op := Op.fieldAddr 105 (Operand.tmp 20) 1, type := 0, pos := "spare.go:152", after := #[{ on := 2, ground := Ground.data }], guard := none }) (v := ?_) rfl (by kernel_rfl) (by kernel_rfl) (by kernel_rfl) (fun _ _ _ h => h) (Or.inl ⟨by rfl, ?_⟩) (by assumption) ?_
      rotate_left
      · (intro w hSw; (try dsimp only at hSw); go_simp) <;> with_reducible rfl
      try simp only [Act.put, List.setIfInBounds_toArray, List.set_cons_zero, List.set_cons_succ]
      refine wpAnyH_take (i := 4) (oi := { dst := some 22, op := Op.fieldAddr 103 (Operand.tmp 21) 1, type := 0, pos := "spare.go:152", after := #[{ on := 3, ground := Ground.data }], guard := none }) (v := ?_) rfl (by kernel_rfl) (by kernel_rfl) (by kernel_rfl) (fun _ _ _ h => h) (Or.inl ⟨by rfl, ?_⟩) (by assumption) ?_
      rotate_left
      · (intro w hSw; (try dsimp only at hSw); go_simp) <;> with_reducible rfl
      try simp only [Act.put, List.setIfInBounds_toArray, List.set_cons_zero, List.set_cons_succ]
      refine wpAnyH_take (i := 5) (oi := { dst := some 23, op := Op.load 9 (Operand.tmp 22), type := 9, pos := "spare.go:152", after := #[{ on := 4, ground := Ground.data }], guard := none }) (v := ?_) rfl (by kernel_rfl) (by kernel_rfl) (by kernel_rfl) (fun _ _ _ h => h) (Or.inl ⟨by rfl, ?_⟩) (by assumption) ?_
      rotate_left
      · (intro w hSw; (try dsimp only at hSw); go_simp) <;> with_reducible rfl
      try simp only [Act.put, List.setIfInBounds_toArray, List.set_cons_zero, List.set_cons_succ]
      refine wpAnyH_take (i := 6) (oi := { dst := some 24, op := Op.move (Operand.tmp 4), type := 3, pos := "spare.go:152", after := #[], guard := none }) (v := ?_) rfl (by kernel_rfl) (by kernel_rfl) (by kernel_rfl) (fun _ _ _ h => h) (Or.inl ⟨by rfl, ?_⟩) (by assumption) ?_
      rotate_left
      · (intro w hSw; (try dsimp only at hSw); go_simp) <;> with_reducible rfl
      try simp only [Act.put, List.setIfInBounds_toArray, List.set_cons_zero, List.set_cons_succ]
      refine wpAnyH_take (i := 7) (oi := { dst := some 25, op := Op.binOp BinOp.sub 3 (Operand.const (Value.int IntKind.i64 (-3000000))) (Operand.tmp 24) 3, type := 3, pos := "spare.go:152", after := #[{ on := 6, ground := Ground.data }], guard := none }) (v := ?_) rfl (by kernel_rfl) (by kernel_rfl) (by kernel_rfl) (fun _ _ _ h => h) (Or.inl ⟨by rfl, ?_⟩) (by assumption) ?_
      rotate_left
      · (intro w hSw; (try dsimp only at hSw); go_simp; (rw [HWr.out]) <;> with_reducible rfl)
      try simp only [Act.put, List.setIfInBounds_toArray, List.set_cons_zero, List.set_cons_succ]
      refine wpAnyH_ready (rs := [8]) (by kernel_rfl) (by simp) ?_
      refine AllReadyH.cons (o := { dst := some 26, op := Op.call { callee := Callee.value (Operand.func 81), args := #[Operand.tmp 25], argTypes := #[3] }, type := 9, pos := "spare.go:152", after := #[{ on := 7, ground := Ground.data }], guard := none }) rfl (fun K hK => ?_) AllReadyH.nil
      go_simp
      refine (mark_is _ _ (by omega) (by omega) (HT.out.1.below (below_drewN HB.out.1 1) HT.out.2)).mono ?_
      rintro e wc ⟨rfl, hb⟩
      have HB2 : Hid (Below w.heap.size w wc ∧ WidE wc g l) := ⟨(below_drewN HB.out.1 1).trans (hb.mono (below_drewN HB.out.1 1).size), (HB.out.2.below (below_drewN (Below.refl _ _) 1)).below hb⟩
      clear hHeld
      refine hK.out _ _ (hcell.out wc HB2.out.1 HB2.out.2) (fun hHeld => ?_)
      clear hK K
      refine wpAnyH_take (i := 9) (oi := { dst := some 27, op := Op.binOp BinOp.eql 9 (Operand.tmp 23) (Operand.tmp 26) 9, type := 4, pos := "spare.go:152", after := #[{ on := 5, ground := Ground.data }, { on := 8, ground := Ground.data }], guard := none }) (v := ?_) rfl (by kernel_rfl) (by kernel_rfl) (by kernel_rfl) (fun _ _ _ h => h) (Or.inl ⟨by rfl, ?_⟩) (by assumption) ?_
      rotate_left
      · (intro w hSw; (try dsimp only at hSw); go_simp) <;> with_reducible rfl
      try simp only [Act.put, List.setIfInBounds_toArray, List.set_cons_zero, List.set_cons_succ]
      refine wpAnyH_take (i := 10) (oi := { dst := some 28, op := Op.unOp UnOp.not 4 (Operand.tmp 27), type := 4, pos := "spare.go:152", after := #[{ on := 9, ground := Ground.data }], guard := none }) (v := ?_) rfl (by kernel_rfl) (by kernel_rfl) (by kernel_rfl) (fun _ _ _ h => h) (Or.inl ⟨by rfl, ?_⟩) (by assumption) ?_
      rotate_left
      · (intro w hSw; (try dsimp only at hSw); go_simp) <;> with_reducible rfl
      try simp only [Act.put, List.setIfInBounds_toArray, List.set_cons_zero, List.set_cons_succ]
      refine wpAnyH_done (by kernel_rfl) ?_ _
      go_wp2
      go_roundw
      case rel => exact ⟨k + 1, by omega, by omega, by go_num, HB2⟩
      case measure => simp [intOf]; omega
    · have hd : decide ((k : Int) < ((l.length : Int) + 64)) = false := by simp; omega
      go_wp2
      go_ret
      exact ⟨rfl, HB.out.1⟩

set_option maxHeartbeats 1000000 in
theorem spareIds_rq (g : Nat) (l : List IdD) (w : World) (h : WidI w g l) (hreach : l.length ≤ 2000000000) (ht : Tab w) (hg0 : 1 < w.heap.size) :
    Calls Tryz.prog 24 #[.slice (some ⟨g, 0, none⟩) l.length (l.length + 64)] w fun e w' => e = .returned (.bool true) ∧ Below w.heap.size w w' := by
  have HT : Hid (Tab w ∧ 1 < w.heap.size) := ⟨ht, hg0⟩
  have HW : Hid (WidI w g l) := h
  clear ht hg0 h
  go_enter Tryz.func24, Tryz.ntmps24
  go_wp2
  go_loopw [4] (fun i wr => ∃ k : Nat, l.length ≤ k ∧ k ≤ l.length + 64 ∧ i = .int .i64 k ∧ Hid (Below w.heap.size w wr ∧ WidI wr g l)) (fun i _ => l.length + 64 - (intOf i).toNat)
  case atStart => exact ⟨l.length, Nat.le_refl _, by omega, rfl, Below.refl _ _, HW.out⟩
  case round =>
    obtain ⟨k, hk0, hk, rfl, HB⟩ := hrel
    by_cases hlt : k < l.length + 64
    · have hd : decide ((k : Int) < ((l.length : Int) + 64)) = true := by simp; omega
      obtain ⟨ms, hms⟩ : ∃ ms, ms = markS (-3000000 - (k : Int)) := ⟨_, rfl⟩
      have hcell : Hid (∀ V, Below w.heap.size w V → WidI V g l → V.cell? ⟨g, k * 2 + 1, none⟩ = some (.string ms)) := fun V _ hV => by
        obtain ⟨cs, h1, h2⟩ := hV
        have := (h2 k hlt).2
        rw [h1.cellAt _ (by omega), this]
        unfold weI
        rw [List.getD_eq_getElem?_getD, List.getElem?_eq_none hk0, hms]
        rfl
      have hmm : (ms.toList == (markS (-3000000 - (k : Int))).toList) = true := by rw [hms]; simp
      have HWr : Hid (IntKind.i64.wrap (-3000000 - (k : Int)) = -3000000 - (k : Int)) := by
        show _ = _
        simp [IntKind.wrap, IntKind.bits, IntKind.signed]
        omega
      have i0 : (0 : Int) ≤ (k : Int) := by omega
      have i1 : (k : Int) < (l.length : Int) + 64 := by omega
      go_wp2
      refine wp_region_held_drew (S := fun V' => V'.cell? ⟨g, k * 2 + 1, none⟩ = some (.string ms)) (by kernel_rfl) ?_ (fun hHeld => ?_)
      · exact hcell.out wr.drew (below_drewN HB.out.1 1) (HB.out.2.below (below_drewN (Below.refl _ _) 1))
      refine wpAnyH_take (i := 0) (oi := { dst := some 18, op := Op.move (Operand.tmp 3), type := 30, pos := "spare.go:128", after := #[], guard := none }) (v := ?_) rfl (by kernel_rfl) (by kernel_rfl) (by kernel_rfl) (fun _ _ _ h => h) (Or.inl ⟨by rfl, ?_⟩) (by assumption) ?_
      rotate_left
      · (intro w hSw; (try dsimp only at hSw); go_simp) <;> with_reducible rfl
      try simp only [Act.put, List.setIfInBounds_toArray, List.set_cons_zero, List.set_cons_succ]
      refine wpAnyH_take (i := 1) (oi := { dst := some 19, op := Op.move (Operand.tmp 4), type := 3, pos := "spare.go:128", after := #[], guard := none }) (v := ?_) rfl (by kernel_rfl) (by kernel_rfl) (by kernel_rfl) (fun _ _ _ h => h) (Or.inl ⟨by rfl, ?_⟩) (by assumption) ?_
      rotate_left
      · (intro w hSw; (try dsimp only at hSw); go_simp) <;> with_reducible rfl
      try simp only [Act.put, List.setIfInBounds_toArray, List.set_cons_zero, List.set_cons_succ]
      refine wpAnyH_take (i := 2) (oi := { dst := some 20, op := Op.indexAddr 30 (Operand.tmp 18) (Operand.tmp 19), type := 0, pos := "spare.go:128", after := #[{ on := 0, ground := Ground.data }, { on := 1, ground := Ground.data }], guard := none }) (v := ?_) rfl (by kernel_rfl) (by kernel_rfl) (by kernel_rfl) (fun _ _ _ h => h) (Or.inl ⟨by rfl, ?_⟩) (by assumption) ?_
      rotate_left
      · (intro w hSw; (try dsimp only at hSw); go_simp) <;> with_reducible rfl
      try simp only [Act.put, List.setIfInBounds_toArray, List.set_cons_zero, List.set_cons_succ]
      refine wpAnyH_take (i := 3) (oi := { dst := some 21, op := Op.fieldAddr 103 (Operand.tmp 20) 1, type := 0, pos := "spare.go:128", after := #[{ on := 2, ground := Ground.data }], guard := none }) (v := ?_) rfl (by kernel_rfl) (by kernel_rfl) (by kernel_rfl) (fun _ _ _ h => h) (Or.inl ⟨by rfl, ?_⟩) (by assumption) ?_
      rotate_left
      · (intro w hSw; (try dsimp only at hSw); go_simp) <;> with_reducible rfl
      try simp only [Act.put, List.setIfInBounds_toArray, List.set_cons_zero, List.set_cons_succ]
      refine wpAnyH_take (i := 4) (oi := { dst := some 22, op := Op.load 9 (Operand.tmp 21), type := 9, pos := "spare.go:128", after := #[{ on := 3, ground := Ground.data }], guard := none }) (v := ?_) rfl (by kernel_rfl) (by kernel_rfl) (by kernel_rfl) (fun _ _ _ h => h) (Or.inl ⟨by rfl, ?_⟩) (by assumption) ?_
      rotate_left
      · (intro w hSw; (try dsimp only at hSw); go_simp) <;> with_reducible rfl
      try simp only [Act.put, List.setIfInBounds_toArray, List.set_cons_zero, List.set_cons_succ]
      refine wpAnyH_take (i := 5) (oi := { dst := some 23, op := Op.move (Operand.tmp 4), type := 3, pos := "spare.go:128", after := #[], guard := none }) (v := ?_) rfl (by kernel_rfl) (by kernel_rfl) (by kernel_rfl) (fun _ _ _ h => h) (Or.inl ⟨by rfl, ?_⟩) (by assumption) ?_
      rotate_left
      · (intro w hSw; (try dsimp only at hSw); go_simp) <;> with_reducible rfl
      try simp only [Act.put, List.setIfInBounds_toArray, List.set_cons_zero, List.set_cons_succ]
      refine wpAnyH_take (i := 6) (oi := { dst := some 24, op := Op.binOp BinOp.sub 3 (Operand.const (Value.int IntKind.i64 (-3000000))) (Operand.tmp 23) 3, type := 3, pos := "spare.go:128", after := #[{ on := 5, ground := Ground.data }], guard := none }) (v := ?_) rfl (by kernel_rfl) (by kernel_rfl) (by kernel_rfl) (fun _ _ _ h => h) (Or.inl ⟨by rfl, ?_⟩) (by assumption) ?_
      rotate_left
      · (intro w hSw; (try dsimp only at hSw); go_simp; (rw [HWr.out]) <;> with_reducible rfl)
      try simp only [Act.put, List.setIfInBounds_toArray, List.set_cons_zero, List.set_cons_succ]
      refine wpAnyH_ready (rs := [7]) (by kernel_rfl) (by simp) ?_
      refine AllReadyH.cons (o := { dst := some 25, op := Op.call { callee := Callee.value (Operand.func 81), args := #[Operand.tmp 24], argTypes := #[3] }, type := 9, pos := "spare.go:128", after := #[{ on := 6, ground := Ground.data }], guard := none }) rfl (fun K hK => ?_) AllReadyH.nil
      go_simp
      refine (mark_is _ _ (by omega) (by omega) (HT.out.1.below (below_drewN HB.out.1 1) HT.out.2)).mono ?_
      rintro e wc ⟨rfl, hb⟩
      have HB2 : Hid (Below w.heap.size w wc ∧ WidI wc g l) := ⟨(below_drewN HB.out.1 1).trans (hb.mono (below_drewN HB.out.1 1).size), (HB.out.2.below (below_drewN (Below.refl _ _) 1)).below hb⟩
      clear hHeld
      refine hK.out _ _ (hcell.out wc HB2.out.1 HB2.out.2) (fun hHeld => ?_)
      clear hK K
      refine wpAnyH_take (i := 8) (oi := { dst := some 26, op := Op.binOp BinOp.eql 9 (Operand.tmp 22) (Operand.tmp 25) 9, type := 4, pos := "spare.go:128", after := #[{ on := 4, ground := Ground.data }, { on := 7, ground := Ground.data }], guard := none }) (v := ?_) rfl (by kernel_rfl) (by kernel_rfl) (by kernel_rfl) (fun _ _ _ h => h) (Or.inl ⟨by rfl, ?_⟩) (by assumption) ?_
      rotate_left
      · (intro w hSw; (try dsimp only at hSw); go_simp) <;> with_reducible rfl
      try simp only [Act.put, List.setIfInBounds_toArray, List.set_cons_zero, List.set_cons_succ]
      refine wpAnyH_take (i := 9) (oi := { dst := some 27, op := Op.unOp UnOp.not 4 (Operand.tmp 26), type := 4, pos := "spare.go:128", after := #[{ on := 8, ground := Ground.data }], guard := none }) (v := ?_) rfl (by kernel_rfl) (by kernel_rfl) (by kernel_rfl) (fun _ _ _ h => h) (Or.inl ⟨by rfl, ?_⟩) (by assumption) ?_
      rotate_left
      · (intro w hSw; (try dsimp only at hSw); go_simp) <;> with_reducible rfl
      try simp only [Act.put, List.setIfInBounds_toArray, List.set_cons_zero, List.set_cons_succ]
      refine wpAnyH_done (by kernel_rfl) ?_ _
      go_wp2
      go_roundw
      case rel => exact ⟨k + 1, by omega, by omega, by go_num, HB2⟩
      case measure => simp [intOf]; omega
    · have hd : decide ((k : Int) < ((l.length : Int) + 64)) = false := by simp; omega
      go_wp2
      go_ret
      exact ⟨rfl, HB.out.1⟩

end Go.Proofs.YtoeialngbbfoeaaGreatDoor

/- What WideBytes and SpareBytes of lagoonref00 answer: the bytes with 64 marks behind them in their spare room; whether these marks stand. -/
namespace Go.Proofs.YtoeialngbbfoeaaGreatDoor
open Go.RowKit
set_option maxRecDepth 8000

/-- A round of WideBytes: the mark is laid. -/
theorem wide_rel1 {B k : Nat} {w wr : World} {xs zs : List Int} (hzl : zs.length = xs.length + 64) (hk : k < xs.length + 64) (x : Int) (hx : x = (wide xs).getD k 0)
    (hown : Owns wr B (.slice (some ⟨B, 0, none⟩) zs.length (xs.length + 64)) zs) (hpt : ∀ j, j < k → zs.getD j 0 = (wide xs).getD j 0) (hbel : Below B w wr) :
    ∃ zs' : List Int, zs'.length = xs.length + 64 ∧ Owns (wr.setCell ⟨B, k, none⟩ (.int .u8 x)) B (.slice (some ⟨B, 0, none⟩) zs'.length (xs.length + 64)) zs' ∧
      (∀ j, j < k + 1 → zs'.getD j 0 = (wide xs).getD j 0) ∧ Below B w (wr.setCell ⟨B, k, none⟩ (.int .u8 x)) := by
  refine ⟨zs.set k x, by simpa using hzl, (owns_set hown k x).1, fun j hj => ?_, hbel.setCell (Nat.le_refl _) _⟩
  rw [nth_set zs k j x (by omega)]
  by_cases h : j = k
  · rw [if_pos h, h, hx]
  · rw [if_neg h]; exact hpt j (by omega)

theorem wide_rel2 {B k : Nat} {w wr : World} {xs zs : List Int} (hzl : zs.length = xs.length + 64) (hk : k < xs.length + 64) (y x : Int) (hx : x = (wide xs).getD k 0)
    (hown : Owns wr B (.slice (some ⟨B, 0, none⟩) zs.length (xs.length + 64)) zs) (hpt : ∀ j, j < k → zs.getD j 0 = (wide xs).getD j 0) (hbel : Below B w wr) :
    ∃ zs' : List Int, zs'.length = xs.length + 64 ∧ Owns ((wr.setCell ⟨B, k, none⟩ (.int .u8 y)).setCell ⟨B, k, none⟩ (.int .u8 x)) B (.slice (some ⟨B, 0, none⟩) zs'.length (xs.length + 64)) zs' ∧
      (∀ j, j < k + 1 → zs'.getD j 0 = (wide xs).getD j 0) ∧ Below B w ((wr.setCell ⟨B, k, none⟩ (.int .u8 y)).setCell ⟨B, k, none⟩ (.int .u8 x)) := by
  refine wide_rel1 (zs := zs.set k y) (by simpa using hzl) hk x hx (owns_set hown k y).1 (fun j hj => ?_) (hbel.setCell (Nat.le_refl _) _)
  rw [nth_set zs k j y (by omega), if_neg (by omega)]; exact hpt j hj

set_option maxHeartbeats 400000 in
theorem wideBytes_any (v : Value) (xs : List Int) (w : World) (h : Sees w v xs) (hreach : xs.length ≤ 70000000000000) :
    Calls Tryz.prog 66 #[v] w fun e w' => e = .returned (.slice (some ⟨w.heap.size, 0, none⟩) xs.length (xs.length + 64)) ∧
      Owns w' w.heap.size (.slice (some ⟨w.heap.size, 0, none⟩) (wide xs).length (xs.length + 64)) (wide xs) ∧ Below w.heap.size w w' := by
  obtain ⟨ao, cap, rfl, hlc, hcm, _, h3⟩ := h
  unfold maxLen at hcm
  obtain ⟨i0, hi, hz0, hz1, hz2⟩ := info_parts Tryz.infoByte
  go_enter Tryz.func66, Tryz.ntmps66
  go_wp2_with (at_make; refine wpList_make_full _ rfl _ _ 28 rfl w.heap.size 5 i0 (.int .u8 0) 1 Tryz.underlying28 hi hz0 hz1 .i64 .i64 _ _ (xs.length + 64) rfl rfl (by omega) (by omega) (by rw [hz2]; omega) (by unfold maxLen; omega) (Nat.le_refl _) ?_)
  intro w0 hown0 hgrow0
  have hown1 := made_owns hown0
  have hbel0 : Below w.heap.size w w0 := (Below.refl _ _).grown hgrow0 (Nat.le_refl _) (fun k hk => by simp at hk)
  clear hown0 hgrow0
  go_wp2
  go_loopw [4] (fun i wr => ∃ (k : Nat) (zs : List Int), k ≤ xs.length + 64 ∧ i = .int .i64 k ∧ zs.length = xs.length + 64 ∧ Owns wr w.heap.size (.slice (some ⟨w.heap.size, 0, none⟩) zs.length (xs.length + 64)) zs ∧ (∀ j, j < k → zs.getD j 0 = (wide xs).getD j 0) ∧ Below w.heap.size w wr) (fun i _ => xs.length + 64 - (intOf i).toNat)
  case atStart => exact ⟨0, _, Nat.zero_le _, rfl, by simp, hown1, fun j hj => by omega, hbel0⟩
  case round =>
    clear hown1 hbel0 w0
    obtain ⟨k, zs, hk, rfl, hzl, hown, hpt, hbel⟩ := hrel
    have HZ : Hid _ := hzl
    have HP : Hid _ := hpt
    have HO : Hid (Owns wr w.heap.size (.slice (some ⟨w.heap.size, 0, none⟩) zs.length (xs.length + 64)) zs) := hown
    clear hpt hzl
    by_cases hlt : k < xs.length + 64
    · have hcz := owns_cell hown k (by rw [HZ.out]; omega)
      have hfz := hown.frozenAt k
      have HW : Hid _ := wide_nth xs k hlt
      clear hown
      by_cases hlx : k < xs.length
      · rcases h3 with h3 | ⟨b, off, rfl, h3⟩
        · subst h3; simp at hlx
        · have hc := cell_later (h3 k hlx) hbel (Nat.le_refl _)
          have hbB : b < w.heap.size := by have := World.block_lt_of_cell? w _ (h3 k hlx); simpa using this
          have hne : ¬ b = w.heap.size := by omega
          have hne' : ¬ w.heap.size = b := by omega
          have hw1 := HW.out
          rw [if_pos hlx] at hw1
          have HX : Hid _ := hw1.symm
          clear h3 HW hw1
          generalize xs.getD k 0 = x at *
          go_wp2
          have R := wide_rel2 HZ.out hlt (170 + (k : Int) % 5) x HX.out HO.out HP.out hbel
          obtain ⟨zs', r1, r2, r3, r4⟩ := R
          go_roundw
          case rel => exact ⟨k + 1, zs', by omega, by go_num, r1, r2, r3, r4⟩
          case measure => simp [intOf]; omega
      · have hw1 := HW.out
        rw [if_neg hlx] at hw1
        have HX : Hid _ := hw1.symm
        clear HW hw1
        go_wp2
        have R := wide_rel1 HZ.out hlt (170 + (k : Int) % 5) HX.out HO.out HP.out hbel
        obtain ⟨zs', r1, r2, r3, r4⟩ := R
        go_roundw
        case rel => exact ⟨k + 1, zs', by omega, by go_num, r1, r2, r3, r4⟩
        case measure => simp [intOf]; omega
    · have he : zs = wide xs := list_of_nths (by rw [HZ.out, wide_len]) (fun j hj => HP.out j (by have := HZ.out; omega))
      have HO1 := HO.out
      rw [he] at HO1
      have HO2 : Hid (Owns wr w.heap.size (.slice (some ⟨w.heap.size, 0, none⟩) (wide xs).length (xs.length + 64)) (wide xs)) := HO1
      clear HO HO1 he HP HZ hown
      go_wp2
      go_ret
      exact ⟨rfl, HO2.out, hbel⟩

/-- SpareBytes of a slice that WideBytes laid: true where the 64 marks behind it stand; the slice's own bytes may be others by now. -/
theorem spareBytes_any (g : Nat) (xs zs : List Int) (w : World) (hown : Owns w g (.slice (some ⟨g, 0, none⟩) zs.length (xs.length + 64)) zs) (hzl : zs.length = xs.length + 64)
    (hsp : ∀ j, xs.length ≤ j → j < xs.length + 64 → zs.getD j 0 = 170 + (j : Int) % 5) (hreach : xs.length ≤ 70000000000000) :
    Calls Tryz.prog 22 #[.slice (some ⟨g, 0, none⟩) xs.length (xs.length + 64)] w fun e w' => e = .returned (.bool true) ∧ w' = w := by
  have HZ : Hid _ := hzl
  have HO : Hid (Owns w g (.slice (some ⟨g, 0, none⟩) zs.length (xs.length + 64)) zs) := hown
  have HP : Hid _ := hsp
  clear hzl hown hsp
  generalize xs.length = n at *
  go_enter Tryz.func22, Tryz.ntmps22
  go_wp2
  go_loop [4] (fun i => ∃ k : Nat, n ≤ k ∧ k ≤ n + 64 ∧ i = .int .i64 k) (fun i => n + 64 - (intOf i).toNat)
  case atStart => exact ⟨n, by omega, by omega, rfl⟩
  case round =>
    obtain ⟨k, hk0, hk1, rfl⟩ := hrel
    by_cases hlt : k < n + 64
    · have hc := owns_cell HO.out k (by rw [HZ.out]; omega)
      rw [HP.out k hk0 hlt] at hc
      go_wp2
      go_round
      case rel => exact ⟨k + 1, by omega, by omega, by go_num⟩
      case measure => simp [intOf]; omega
    · go_wp2
      go_ret
      exact ⟨rfl, rfl⟩
end Go.Proofs.YtoeialngbbfoeaaGreatDoor

/- A request whose lists are wide: marks stand behind each of them. No Go function is walked here. -/
namespace Go.Proofs.YtoeialngbbfoeaaGreatDoor
open Go.RowKit
set_option maxRecDepth 8000

/-- Bytes with marks behind them, in block g. -/
def WidB (w : World) (g : Nat) (xs : List Int) : Prop := Owns w g (.slice (some ⟨g, 0, none⟩) (wide xs).length (xs.length + 64)) (wide xs)

theorem WidB.kept {w w' : World} {S : Nat → Prop} {g : Nat} {xs : List Int} (h : WidB w g xs) (hk : Kept w w' S) (hS : ¬ S g) : WidB w' g xs :=
  ownsRow_kept h hk (fun k hk e => by cases hk; exact hS e)

/-- What a mark among requests has. -/
def rqMark (j : Nat) : List Value := [.int .i8 0, .string ⟨#[]⟩, .slice none 0 0, .slice none 0 0, .int .i32 0, .bool false, .bool false, .int .i64 (-3000000 - (j : Int)), .int .i32 0, .slice none 0 0, .slice none 0 0]

/-- Requests' cells with marks behind them, in block g. -/
def WidR (w : World) (g : Nat) (cs : List (List Value)) : Prop := ∃ fl : List Value, w.ownsRow g 33 11 (.slice (some ⟨g, 0, none⟩) (cs.length + 64) (cs.length + 64)) (cs.length + 64) fl ∧ (∀ i (_ : i < cs.length) j, j < 11 → fl[i * 11 + j]? = some (cs[i].getD j (.bool false))) ∧ ∀ i, cs.length ≤ i → i < cs.length + 64 → ∀ j, j < 11 → fl[i * 11 + j]? = some ((rqMark i).getD j (.bool false))

theorem WidR.kept {w w' : World} {S : Nat → Prop} {g : Nat} {cs : List (List Value)} (h : WidR w g cs) (hk : Kept w w' S) (hS : ¬ S g) : WidR w' g cs := by
  obtain ⟨fl, h1, h2, h3⟩ := h
  exact ⟨fl, ownsRow_kept h1 hk (fun k hk e => by cases hk; exact hS e), h2, h3⟩

theorem WidR.cell {w : World} {g : Nat} {cs : List (List Value)} (h : WidR w g cs) (i : Nat) (hi : i < cs.length) (j : Nat) (hj : j < 11) : w.cell? ⟨g, i * 11 + j, none⟩ = some (cs[i].getD j (.bool false)) := by
  obtain ⟨fl, h1, h2, h3⟩ := h
  rw [h1.cellAt _ (by omega), h2 i hi j hj]

theorem WidR.mark {w : World} {g : Nat} {cs : List (List Value)} (h : WidR w g cs) (i : Nat) (hi : cs.length ≤ i) (hi' : i < cs.length + 64) : w.cell? ⟨g, i * 11 + 7, none⟩ = some (.int .i64 (-3000000 - (i : Int))) := by
  obtain ⟨fl, h1, h2, h3⟩ := h
  rw [h1.cellAt _ (by omega), h3 i hi hi' 7 (by omega)]
  rfl

/-- The cells cs are those of the request r; each of its lists is wide and lies in a block of F. -/
inductive WidQ (w : World) (F : Nat → Prop) : List Value → Rq → Prop where
  | mk (f : RqF) (n : Nat) (ops : Fin n → Rq) (gd ga gw go : Nat) (oc : Fin n → List Value)
      (hd : WidB w gd f.data) (ha : WidE w ga f.acl) (hw : WidI w gw f.who) (ho : WidR w go (List.ofFn oc))
      (fd : F gd) (fa : F ga) (fw : F gw) (fo : F go)
      (hs : ∀ i : Fin n, WidQ w F (oc i) (ops i)) :
      WidQ w F (rqCells f (.slice (some ⟨gd, 0, none⟩) f.data.length (f.data.length + 64)) (.slice (some ⟨ga, 0, none⟩) f.acl.length (f.acl.length + 64)) (.slice (some ⟨gw, 0, none⟩) f.who.length (f.who.length + 64)) (.slice (some ⟨go, 0, none⟩) n (n + 64))) (.mk f n ops)

theorem WidQ.kept {w w' : World} {S F F' : Nat → Prop} (hk : Kept w w' S) (hF : ∀ k, F k → ¬ S k ∧ F' k) {cs : List Value} {r : Rq} (h : WidQ w F cs r) : WidQ w' F' cs r := by
  induction h with
  | mk f n ops gd ga gw go oc hd ha hw ho fd fa fw fo _ ih =>
    exact .mk f n ops gd ga gw go oc (hd.kept hk (hF _ fd).1) (ha.kept hk (hF _ fa).1) (hw.kept hk (hF _ fw).1) (ho.kept hk (hF _ fo).1) (hF _ fd).2 (hF _ fa).2 (hF _ fw).2 (hF _ fo).2 ih

theorem WidQ.inv {w : World} {F : Nat → Prop} {cs : List Value} {f : RqF} {n : Nat} {ops : Fin n → Rq} (h : WidQ w F cs (.mk f n ops)) : ∃ gd ga gw go oc, cs = rqCells f (.slice (some ⟨gd, 0, none⟩) f.data.length (f.data.length + 64)) (.slice (some ⟨ga, 0, none⟩) f.acl.length (f.acl.length + 64)) (.slice (some ⟨gw, 0, none⟩) f.who.length (f.who.length + 64)) (.slice (some ⟨go, 0, none⟩) n (n + 64)) ∧ WidB w gd f.data ∧ WidE w ga f.acl ∧ WidI w gw f.who ∧ WidR w go (List.ofFn oc) ∧ F gd ∧ F ga ∧ F gw ∧ F go ∧ ∀ i : Fin n, WidQ w F (oc i) (ops i) := by
  cases h with
  | mk _ _ _ gd ga gw go oc hd ha hw ho fd fa fw fo hs => exact ⟨gd, ga, gw, go, oc, rfl, hd, ha, hw, ho, fd, fa, fw, fo, hs⟩

theorem WidB.sees {w : World} {g : Nat} {xs : List Int} (h : WidB w g xs) (hl : xs.length ≤ 70000000000000) : Sees w (.slice (some ⟨g, 0, none⟩) xs.length (xs.length + 64)) xs := by
  refine ⟨_, _, rfl, by omega, by unfold maxLen; omega, fun e => by simp at e, .inr ⟨g, 0, rfl, fun i hi => ?_⟩⟩
  have := owns_cell h i (by rw [wide_len]; omega)
  rw [wide_nth xs i (by omega), if_pos hi] at this
  rw [Nat.zero_add]
  exact this

theorem WidR.sees {w : World} {g : Nat} {cs : List (List Value)} (h : WidR w g cs) (hl : cs.length ≤ 2000000000) : SeesR w (.slice (some ⟨g, 0, none⟩) cs.length (cs.length + 64)) 11 cs := by
  refine ⟨_, _, rfl, by omega, by unfold maxLen; omega, fun e => by simp at e, .inr ⟨g, 0, rfl, fun i hi j hj => ?_⟩⟩
  rw [Nat.zero_add]
  exact h.cell i hi j hj

theorem WidQ.sees {w : World} {F : Nat → Prop} {cs : List Value} {r : Rq} (h : WidQ w F cs r) (hp : r.parts ≤ 20000) : SeesRq w cs r := by
  induction h with
  | mk f n ops gd ga gw go oc hd ha hw ho _ _ _ _ _ ih =>
    rw [Rq.parts_eq] at hp
    have hpn := partsTo_le ops n (Nat.le_refl _)
    have hfp : f.parts = 1 + f.data.length + f.acl.length + f.who.length := rfl
    have ho' := ho.sees (by rw [List.length_ofFn]; omega)
    rw [List.length_ofFn] at ho'
    exact .mk f n ops _ _ _ _ oc (hd.sees (by omega)) (ha.sees (by omega)) (hw.sees (by omega)) ho' (fun i => ih i (by have := part_le ops i; omega))

end Go.Proofs.YtoeialngbbfoeaaGreatDoor

/- WideRequests and WideRequest of lagoonref00: requests of their own, each list with marks behind it. -/
namespace Go.Proofs.YtoeialngbbfoeaaGreatDoor
open Go.RowKit Go.Shelf
set_option maxRecDepth 8000

/-- Eleven places of a list stored over. -/
theorem set11 (fl : List Value) (k : Nat) (hl : k * 11 + 11 ≤ fl.length) (c0 c1 c2 c3 c4 c5 c6 c7 c8 c9 c10 : Value) :
    (∀ i j, i ≠ k → j < 11 → (((((((((((fl.set (k * 11) (c0)).set (k * 11 + 1) (c1)).set (k * 11 + 2) (c2)).set (k * 11 + 3) (c3)).set (k * 11 + 4) (c4)).set (k * 11 + 5) (c5)).set (k * 11 + 6) (c6)).set (k * 11 + 7) (c7)).set (k * 11 + 8) (c8)).set (k * 11 + 9) (c9)).set (k * 11 + 10) (c10))[i * 11 + j]? = fl[i * 11 + j]?) ∧ ∀ j, j < 11 → (((((((((((fl.set (k * 11) (c0)).set (k * 11 + 1) (c1)).set (k * 11 + 2) (c2)).set (k * 11 + 3) (c3)).set (k * 11 + 4) (c4)).set (k * 11 + 5) (c5)).set (k * 11 + 6) (c6)).set (k * 11 + 7) (c7)).set (k * 11 + 8) (c8)).set (k * 11 + 9) (c9)).set (k * 11 + 10) (c10))[k * 11 + j]? = some (([c0, c1, c2, c3, c4, c5, c6, c7, c8, c9, c10] : List Value).getD j (.bool false)) := by
  refine ⟨fun i j hi hj => ?_, fun j hj => ?_⟩
  · rw [List.getElem?_set_ne (by omega), List.getElem?_set_ne (by omega), List.getElem?_set_ne (by omega), List.getElem?_set_ne (by omega), List.getElem?_set_ne (by omega), List.getElem?_set_ne (by omega), List.getElem?_set_ne (by omega), List.getElem?_set_ne (by omega), List.getElem?_set_ne (by omega), List.getElem?_set_ne (by omega), List.getElem?_set_ne (by omega)]
  · rcases (show j = 0 ∨ j = 1 ∨ j = 2 ∨ j = 3 ∨ j = 4 ∨ j = 5 ∨ j = 6 ∨ j = 7 ∨ j = 8 ∨ j = 9 ∨ j = 10 by omega) with rfl | rfl | rfl | rfl | rfl | rfl | rfl | rfl | rfl | rfl | rfl
    · simp only [Nat.add_zero]; rw [List.getElem?_set_ne (by omega), List.getElem?_set_ne (by omega), List.getElem?_set_ne (by omega), List.getElem?_set_ne (by omega), List.getElem?_set_ne (by omega), List.getElem?_set_ne (by omega), List.getElem?_set_ne (by omega), List.getElem?_set_ne (by omega), List.getElem?_set_ne (by omega), List.getElem?_set_ne (by omega), List.getElem?_set_self (by first | omega | (simp only [List.length_set]; omega))]; rfl
    · rw [List.getElem?_set_ne (by omega), List.getElem?_set_ne (by omega), List.getElem?_set_ne (by omega), List.getElem?_set_ne (by omega), List.getElem?_set_ne (by omega), List.getElem?_set_ne (by omega), List.getElem?_set_ne (by omega), List.getElem?_set_ne (by omega), List.getElem?_set_ne (by omega), List.getElem?_set_self (by first | omega | (simp only [List.length_set]; omega))]; rfl
    · rw [List.getElem?_set_ne (by omega), List.getElem?_set_ne (by omega), List.getElem?_set_ne (by omega), List.getElem?_set_ne (by omega), List.getElem?_set_ne (by omega), List.getElem?_set_ne (by omega), List.getElem?_set_ne (by omega), List.getElem?_set_ne (by omega), List.getElem?_set_self (by first | omega | (simp only [List.length_set]; omega))]; rfl
    · rw [List.getElem?_set_ne (by omega), List.getElem?_set_ne (by omega), List.getElem?_set_ne (by omega), List.getElem?_set_ne (by omega), List.getElem?_set_ne (by omega), List.getElem?_set_ne (by omega), List.getElem?_set_ne (by omega), List.getElem?_set_self (by first | omega | (simp only [List.length_set]; omega))]; rfl
    · rw [List.getElem?_set_ne (by omega), List.getElem?_set_ne (by omega), List.getElem?_set_ne (by omega), List.getElem?_set_ne (by omega), List.getElem?_set_ne (by omega), List.getElem?_set_ne (by omega), List.getElem?_set_self (by first | omega | (simp only [List.length_set]; omega))]; rfl
    · rw [List.getElem?_set_ne (by omega), List.getElem?_set_ne (by omega), List.getElem?_set_ne (by omega), List.getElem?_set_ne (by omega), List.getElem?_set_ne (by omega), List.getElem?_set_self (by first | omega | (simp only [List.length_set]; omega))]; rfl
    · rw [List.getElem?_set_ne (by omega), List.getElem?_set_ne (by omega), List.getElem?_set_ne (by omega), List.getElem?_set_ne (by omega), List.getElem?_set_self (by first | omega | (simp only [List.length_set]; omega))]; rfl
    · rw [List.getElem?_set_ne (by omega), List.getElem?_set_ne (by omega), List.getElem?_set_ne (by omega), List.getElem?_set_self (by first | omega | (simp only [List.length_set]; omega))]; rfl
    · rw [List.getElem?_set_ne (by omega), List.getElem?_set_ne (by omega), List.getElem?_set_self (by first | omega | (simp only [List.length_set]; omega))]; rfl
    · rw [List.getElem?_set_ne (by omega), List.getElem?_set_self (by first | omega | (simp only [List.length_set]; omega))]; rfl
    · rw [List.getElem?_set_self (by first | omega | (simp only [List.length_set]; omega))]; rfl

/-- The same in memory. -/
theorem own11 {w : World} {g N k : Nat} {t : TypeId} {fl : List Value} (h : w.ownsRow g t 11 (.slice (some ⟨g, 0, none⟩) N N) N fl) (c0 c1 c2 c3 c4 c5 c6 c7 c8 c9 c10 : Value) :
    (((((((((((w.setCell ⟨g, k * 11, none⟩ (c0)).setCell ⟨g, k * 11 + 1, none⟩ (c1)).setCell ⟨g, k * 11 + 2, none⟩ (c2)).setCell ⟨g, k * 11 + 3, none⟩ (c3)).setCell ⟨g, k * 11 + 4, none⟩ (c4)).setCell ⟨g, k * 11 + 5, none⟩ (c5)).setCell ⟨g, k * 11 + 6, none⟩ (c6)).setCell ⟨g, k * 11 + 7, none⟩ (c7)).setCell ⟨g, k * 11 + 8, none⟩ (c8)).setCell ⟨g, k * 11 + 9, none⟩ (c9)).setCell ⟨g, k * 11 + 10, none⟩ (c10)).ownsRow g t 11 (.slice (some ⟨g, 0, none⟩) N N) N (((((((((((fl.set (k * 11) (c0)).set (k * 11 + 1) (c1)).set (k * 11 + 2) (c2)).set (k * 11 + 3) (c3)).set (k * 11 + 4) (c4)).set (k * 11 + 5) (c5)).set (k * 11 + 6) (c6)).set (k * 11 + 7) (c7)).set (k * 11 + 8) (c8)).set (k * 11 + 9) (c9)).set (k * 11 + 10) (c10)) ∧ Kept w (((((((((((w.setCell ⟨g, k * 11, none⟩ (c0)).setCell ⟨g, k * 11 + 1, none⟩ (c1)).setCell ⟨g, k * 11 + 2, none⟩ (c2)).setCell ⟨g, k * 11 + 3, none⟩ (c3)).setCell ⟨g, k * 11 + 4, none⟩ (c4)).setCell ⟨g, k * 11 + 5, none⟩ (c5)).setCell ⟨g, k * 11 + 6, none⟩ (c6)).setCell ⟨g, k * 11 + 7, none⟩ (c7)).setCell ⟨g, k * 11 + 8, none⟩ (c8)).setCell ⟨g, k * 11 + 9, none⟩ (c9)).setCell ⟨g, k * 11 + 10, none⟩ (c10)) (fun q => q = g) := by
  refine ⟨?_, ?_⟩
  · exact (((((((((((h.stored (k * 11) c0).1.stored (k * 11 + 1) c1).1.stored (k * 11 + 2) c2).1.stored (k * 11 + 3) c3).1.stored (k * 11 + 4) c4).1.stored (k * 11 + 5) c5).1.stored (k * 11 + 6) c6).1.stored (k * 11 + 7) c7).1.stored (k * 11 + 8) c8).1.stored (k * 11 + 9) c9).1.stored (k * 11 + 10) c10).1
  · exact (((((((((((Kept.refl w (fun q => q = g)).setCell ⟨g, k * 11, none⟩ c0 (fun _ => rfl)).setCell ⟨g, k * 11 + 1, none⟩ c1 (fun _ => rfl)).setCell ⟨g, k * 11 + 2, none⟩ c2 (fun _ => rfl)).setCell ⟨g, k * 11 + 3, none⟩ c3 (fun _ => rfl)).setCell ⟨g, k * 11 + 4, none⟩ c4 (fun _ => rfl)).setCell ⟨g, k * 11 + 5, none⟩ c5 (fun _ => rfl)).setCell ⟨g, k * 11 + 6, none⟩ c6 (fun _ => rfl)).setCell ⟨g, k * 11 + 7, none⟩ c7 (fun _ => rfl)).setCell ⟨g, k * 11 + 8, none⟩ c8 (fun _ => rfl)).setCell ⟨g, k * 11 + 9, none⟩ c9 (fun _ => rfl)).setCell ⟨g, k * 11 + 10, none⟩ c10 (fun _ => rfl)

/-- What stands after k rounds. -/
def WrI (w wr : World) (g n : Nat) (ops : Fin n → Rq) (k : Nat) : Prop :=
  Below g w wr ∧ ∃ (fl : List Value) (E : Nat → List Value), wr.ownsRow g 33 11 (.slice (some ⟨g, 0, none⟩) (n + 64) (n + 64)) (n + 64) fl ∧ (∀ i, i < k → i < n + 64 → ∀ j, j < 11 → fl[i * 11 + j]? = some ((E i).getD j (.bool false))) ∧
    (∀ i (hi : i < n), i < k → WidQ wr (fun q => g < q ∧ q < wr.heap.size) (E i) (ops ⟨i, hi⟩)) ∧ ∀ i, n ≤ i → i < k → E i = rqMark i

/-- A round: the next element is laid. -/
theorem WrI_step {w wr w5 : World} {g n k : Nat} {ops : Fin n → Rq} {c0 c1 c2 c3 c4 c5 c6 c7 c8 c9 c10 : Value} (hg : g < wr.heap.size) (h : WrI w wr g n ops k) (hk : k < n + 64) (b5 : Below wr.heap.size wr w5)
    (hq : ∀ hi : k < n, WidQ w5 (fun q => wr.heap.size ≤ q ∧ q < w5.heap.size) [c0, c1, c2, c3, c4, c5, c6, c7, c8, c9, c10] (ops ⟨k, hi⟩)) (hm : n ≤ k → [c0, c1, c2, c3, c4, c5, c6, c7, c8, c9, c10] = rqMark k) :
    WrI w (((((((((((w5.setCell ⟨g, k * 11, none⟩ (c0)).setCell ⟨g, k * 11 + 1, none⟩ (c1)).setCell ⟨g, k * 11 + 2, none⟩ (c2)).setCell ⟨g, k * 11 + 3, none⟩ (c3)).setCell ⟨g, k * 11 + 4, none⟩ (c4)).setCell ⟨g, k * 11 + 5, none⟩ (c5)).setCell ⟨g, k * 11 + 6, none⟩ (c6)).setCell ⟨g, k * 11 + 7, none⟩ (c7)).setCell ⟨g, k * 11 + 8, none⟩ (c8)).setCell ⟨g, k * 11 + 9, none⟩ (c9)).setCell ⟨g, k * 11 + 10, none⟩ (c10)) g n ops (k + 1) := by
  obtain ⟨hb, fl, E, h1, h2, h3, h4⟩ := h
  have h1' := ownsRow_kept h1 (Below.kept b5) (fun q hq e => by cases hq; exact absurd (show wr.heap.size ≤ g from e) (by omega))
  obtain ⟨o1, o2⟩ := own11 (k := k) h1' c0 c1 c2 c3 c4 c5 c6 c7 c8 c9 c10
  have hfl : fl.length = (n + 64) * 11 := h1.1
  obtain ⟨s1, s2⟩ := set11 fl k (by omega) c0 c1 c2 c3 c4 c5 c6 c7 c8 c9 c10
  have hs5 := b5.size
  have hs6 := o2.size
  refine ⟨(hb.trans (b5.mono (Nat.le_of_lt hg))).trans (o2.below (Nat.le_trans (Nat.le_of_lt hg) b5.size) (fun q e => by omega)), _, fun i => if i = k then [c0, c1, c2, c3, c4, c5, c6, c7, c8, c9, c10] else E i, o1, fun i hi hn j hj => ?_, fun i hi hk' => ?_, fun i hi hk' => ?_⟩
  · dsimp only
    by_cases e : i = k
    · subst e
      rw [if_pos rfl]
      exact s2 j hj
    · rw [if_neg e, s1 i j e hj]
      exact h2 i (by omega) hn j hj
  · dsimp only
    by_cases e : i = k
    · subst e
      rw [if_pos rfl]
      exact WidQ.kept o2 (fun q hq => ⟨fun e => by omega, by omega, by omega⟩) (hq hi)
    · rw [if_neg e]
      exact WidQ.kept o2 (fun q hq => ⟨fun e => by omega, hq⟩) (WidQ.kept (Below.kept b5) (fun q hq => ⟨fun e => by omega, hq.1, (by omega : q < _)⟩) (h3 i hi (by omega)))
  · dsimp only
    by_cases e : i = k
    · subst e
      rw [if_pos rfl]
      exact hm hi
    · rw [if_neg e]
      exact h4 i hi (by omega)

end Go.Proofs.YtoeialngbbfoeaaGreatDoor
