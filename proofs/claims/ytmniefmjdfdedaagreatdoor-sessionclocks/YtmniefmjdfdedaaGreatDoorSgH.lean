/- The statements' Bag that holds lists of sessions alone, which lie apart: AddSessions, Apart. -/
import Derived.Test.YtmniefmjdfdedaaGreatDoorSgG
import Derived.Test.YtmniefmjdfdedaaGreatDoorApartNil
import Derived.Test.YtmniefmjdfdedaaGreatDoorApartNil2
namespace Go.Proofs.YtmniefmjdfdedaaGreatDoor
open Go.RowKit Go.Shelf
set_option maxRecDepth 8000

abbrev nilB : Value := .slice none 0 0
/-- The cells of a Bag that holds lists of sessions alone. -/
abbrev bagSe (tv : Value) : Array Value := #[nilB, nilB, nilB, nilB, nilB, nilB, nilB, nilB, nilB, nilB, tv, nilB, nilB, nilB, nilB, nilB, nilB, nilB, nilB, nilB, nilB]

structure BagSe (w : World) (g : Nat) (tv : Value) (ps : List Value) (B : Nat) : Prop where
  row : w.heap[g]? = some (.cells (bagSe tv) 83 (0, 0))
  ts : w.ownsRow B 49 1 tv ps.length ps

theorem row_not {w : World} {g B : Nat} {v : Value} {n z : Nat} {xs : List Value} {T E : TypeId} {cs : Array Value} {fr : Nat × Nat} (h : w.ownsRow B E z v n xs) (hr : w.heap[g]? = some (.cells cs T fr)) (hTE : T ≠ E) : v.ownBlock ≠ some g := by
  intro e
  obtain ⟨cs', e'⟩ := row_type h e
  rw [hr] at e'
  simp at e'
  exact hTE e'.2.1

theorem seesL_own {w : World} {B : Nat} {T1 : TypeId} {lv : Value} {rs : List Rw} (h : w.ownsRow B T1 1 lv (rs.map Rw.v).length (rs.map Rw.v)) : SeesL w T1 lv rs := by
  obtain ⟨hl, ⟨rfl, h0⟩ | ⟨g, cap, cur, rfl, a2, a3, a4, a5, a6, a7⟩⟩ := h
  · have e : rs = [] := by
      rw [List.length_map] at h0
      exact List.length_eq_zero_iff.mp h0
    subst e
    exact ⟨none, 0, rfl, Nat.le_refl _, fun h => absurd rfl h⟩
  · rw [List.length_map] at a4 a7 ⊢
    refine ⟨some ⟨g, 0, none⟩, cap, rfl, a4, fun _ => ⟨g, 0, rfl, ⟨cur, (0, 0), a3⟩, fun j hj => ?_⟩⟩
    rw [cell_of_row w g _ _ _ _ a3, Nat.zero_add, ← Array.getElem?_toList]
    have e : (cur.toList.take (rs.length * 1))[j]? = some rs[j].v := by rw [a7]; simp [hj]
    rw [List.getElem?_take] at e
    split at e
    · exact e
    · cases e

theorem blkR_type {w : World} {T : TypeId} {z : Nat} {rs : List Rw} {Xs : Nat → List Value} (h : RowsR w T z rs Xs) {k : Nat} (hk : BlkR rs k) : ∃ cs, w.heap[k]? = some (.cells cs T (0, 0)) := by
  obtain ⟨j, hj, e⟩ := hk
  exact row_type (h j hj) e

theorem blkR_not {w : World} {T E : TypeId} {z : Nat} {rs : List Rw} {Xs : Nat → List Value} (h : RowsR w T z rs Xs) {k : Nat} {cs : Array Value} {fr : Nat × Nat} (hr : w.heap[k]? = some (.cells cs E fr)) (hTE : E ≠ T) : ¬ BlkR rs k := fun hk => by
  obtain ⟨cs', e⟩ := blkR_type h hk
  rw [hr] at e
  simp at e
  exact hTE e.2.1

theorem bagSe_c10 {w : World} {g : Nat} {tv : Value} (h : w.heap[g]? = some (.cells (bagSe tv) 83 (0, 0))) : w.cell? ⟨g, 10, none⟩ = some tv := by rw [cell_of_row w g 10 _ _ _ h]; rfl
theorem bagSe_cells {w : World} {g : Nat} {tv : Value} (h : w.heap[g]? = some (.cells (bagSe tv) 83 (0, 0))) : ∀ j, j < 21 → w.cell? ⟨g, j, none⟩ = (bagSe tv)[j]? := fun j _ => cell_of_row w g j _ _ _ h

set_option maxHeartbeats 400000 in
theorem addSessions_any (g : Nat) (iv : Value) (ps : List Value) (B : Nat) (pa : Option Addr) (pn pc : Nat) (w : World) (h : BagSe w g iv ps B) (hn : ps.length < 600) (hB : B ≤ w.heap.size) :
    Calls Tryz.prog 25 #[.pointer (some ⟨g, 0, none⟩), .slice pa pn pc] w fun e w' => e = .returned (.tuple #[]) ∧ ∃ v', BagSe w' g v' (ps ++ [.slice pa pn pc]) B ∧ Kept w w' (fun k => k = g ∨ iv.ownBlock = some k) ∧ NewRow w iv v' := by
  obtain ⟨i1, gi, gz0, gz1, gz2⟩ := info3B Tryz.infoZL
  have c0 := bagSe_c10 h.row
  have f0 := frozen_of_row w g 10 _ _ h.row
  have H : Hid (BagSe w g iv ps B) := h
  obtain ⟨ao, n, cap, hv⟩ : ∃ ao n cap, iv = .slice ao n cap ∧ n = ps.length := by
    rcases h.ts.2 with ⟨rfl, h0⟩ | ⟨g', c, cur, rfl, _⟩
    · exact ⟨none, 0, 0, rfl, h0.symm⟩
    · exact ⟨_, _, _, rfl, rfl⟩
  obtain ⟨rfl, rfl⟩ := hv
  have hgw : g < w.heap.size := lt_of_block h.row
  have hna := row_not h.ts h.row (by decide)
  have hk0 : Kept w (w.alloc (.cells #[.slice pa pn pc] 49)) (fun _ => False) := (Kept.refl w _).alloc _
  obtain ⟨v', w1, hr, hown, hgrow, hcase⟩ := app_row (P := Tryz.prog) B 71 71 49 i1 (.slice none 0 0) 1 24 Tryz.underlying71 gi gz0 gz1 gz2 rfl (by decide) _ _ _ (row_kept h.ts hk0 (fun _ _ h => h)) w.heap.size [.slice pa pn pc] rfl (heap_alloc_new _ _) (by simp [Value.oneCell']) (by omega) (by decide) (Nat.le_trans hB hk0.size)
  have hk1 : Kept w w1 (fun k => (Value.slice ao ps.length cap).ownBlock = some k) := (hk0.mono (fun _ _ h => h.elim)).trans ⟨hgrow.os, hgrow.tape, hgrow.output, hgrow.size, fun k hk hne => hgrow.block k hk (fun e => hne e.symm)⟩ (fun _ _ h => h)
  have hrow1 := hk1.heap h.row hna
  have hnew : NewRow w (.slice ao ps.length cap) v' := by
    rcases hcase with ⟨g2, cp, e1, rfl⟩ | ⟨e, _⟩
    · simp only [Value.slice.injEq] at e1
      exact .inl (by rw [e1.1]; rfl)
    · exact .inr ⟨_, e, by simp⟩
  have c1 := bagSe_c10 hrow1
  have f1 := frozen_of_row w1 g 10 _ _ hrow1
  obtain ⟨ao', n', cap', rfl⟩ := row_form hown
  have HR : Hid (BagSe (w1.setCell ⟨g, 10, none⟩ (.slice ao' n' cap')) g (.slice ao' n' cap') (ps ++ [.slice pa pn pc]) B ∧ Kept w (w1.setCell ⟨g, 10, none⟩ (.slice ao' n' cap')) (fun k => k = g ∨ (Value.slice ao ps.length cap).ownBlock = some k) ∧ NewRow w (.slice ao ps.length cap) (.slice ao' n' cap')) := by
    have hks : Kept w1 (w1.setCell ⟨g, 10, none⟩ (.slice ao' n' cap')) (fun k => k = g) := (Kept.refl w1 _).setCell _ _ (fun _ => rfl)
    have hmine : (w1.setCell ⟨g, 10, none⟩ (.slice ao' n' cap')).ownsRow B 49 1 (.slice ao' n' cap') (ps ++ [Value.slice pa pn pc]).length (ps ++ [.slice pa pn pc]) := by
      rw [List.length_append]
      exact row_kept hown hks (fun k hv e => by subst e; exact row_not hown hrow1 (by decide) hv)
    refine ⟨⟨?_, hmine⟩, (hk1.mono (fun _ _ h => .inr h)).trans hks (fun _ _ h => .inl h), hnew⟩
    rw [setCell_eq_setRow w1 g 10 _ _ _ _ hrow1, setRow_heap w1 g _ _ _ _ hrow1]; rfl
  clear h hna hk0 hown hgrow hcase hk1 hrow1 hnew
  go_enter Tryz.func25, Tryz.ntmps25
  go_wp2_with (at_builtin; refine Lib.wpList_append_run_sl _ rfl _ _ 71 rfl _ _ rfl rfl hr ?_)
  go_end0
  exact ⟨rfl, _, HR.out⟩

set_option maxHeartbeats 2000000 in
theorem bagApart_se (g B : Nat) (tv : Value) (ps : List Rw) (Xp : Nat → List Value) (w : World) (h : BagSe w g tv (ps.map Rw.v) B) (hrp : RowsR w 93 2 ps Xp) (hap : ApartR ps) (hnp : ps.length ≤ 600) (hbp : ∀ j (hj : j < ps.length), ps[j].n ≤ 1100000000) :
    Calls Tryz.prog 26 #[.pointer (some ⟨g, 0, none⟩)] w fun e w' => e = .returned (.bool true) ∧ Kept w w' (BlkR ps) ∧ ∃ Xs, RowsR w' 93 2 ps Xs := by
  have cs := bagSe_cells h.row
  have H1 : Hid (SeesL w 49 tv ps) := seesL_own h.ts
  have H2 : Hid (∀ w1, Kept w w1 (BlkR ps) → w1.heap[g]? = some (.cells (bagSe tv) 83 (0, 0))) := fun w1 hk => hk.heap h.row (blkR_not hrp h.row (by decide))
  have H3 : Hid (RowsR w 93 2 ps Xp ∧ ApartR ps ∧ (∀ j (hj : j < ps.length), ps[j].n ≤ 1100000000)) := ⟨hrp, hap, hbp⟩
  have c0 : w.cell? ⟨g, 0, none⟩ = some nilB := cs 0 (by omega)
  have c1 : w.cell? ⟨g, 1, none⟩ = some nilB := cs 1 (by omega)
  have c2 : w.cell? ⟨g, 2, none⟩ = some nilB := cs 2 (by omega)
  have c3 : w.cell? ⟨g, 3, none⟩ = some nilB := cs 3 (by omega)
  have c4 : w.cell? ⟨g, 4, none⟩ = some nilB := cs 4 (by omega)
  have c5 : w.cell? ⟨g, 5, none⟩ = some nilB := cs 5 (by omega)
  have c6 : w.cell? ⟨g, 6, none⟩ = some nilB := cs 6 (by omega)
  have c7 : w.cell? ⟨g, 7, none⟩ = some nilB := cs 7 (by omega)
  have c8 : w.cell? ⟨g, 8, none⟩ = some nilB := cs 8 (by omega)
  have c9 : w.cell? ⟨g, 9, none⟩ = some nilB := cs 9 (by omega)
  have c10 : w.cell? ⟨g, 10, none⟩ = some tv := cs 10 (by omega)
  have hgl := lt_of_block h.row
  clear h cs hrp hap hbp
  go_enter Tryz.func26, Tryz.ntmps26
  go_wp2_with fail
  refine (apartBytes_nil _).mono ?_
  rintro e w0 ⟨rfl, rfl⟩
  go_wp2_with fail
  refine (apartInts_nil _).mono ?_
  rintro e w0 ⟨rfl, rfl⟩
  go_wp2_with fail
  refine (apartTexts_nil _).mono ?_
  rintro e w0 ⟨rfl, rfl⟩
  go_wp2_with fail
  refine (apartPieces_nil _).mono ?_
  rintro e w0 ⟨rfl, rfl⟩
  go_wp2_with fail
  refine (apartIds_nil _).mono ?_
  rintro e w0 ⟨rfl, rfl⟩
  go_wp2_with fail
  refine (apartAcl_nil _).mono ?_
  rintro e w0 ⟨rfl, rfl⟩
  go_wp2_with fail
  refine (apartRequests_nil _).mono ?_
  rintro e w0 ⟨rfl, rfl⟩
  go_wp2_with fail
  refine (apartTxns_nil _).mono ?_
  rintro e w0 ⟨rfl, rfl⟩
  go_wp2_with fail
  refine (apartResults_nil _).mono ?_
  rintro e w0 ⟨rfl, rfl⟩
  go_wp2_with fail
  refine (apartNodes_nil _).mono ?_
  rintro e w0 ⟨rfl, rfl⟩
  go_wp2_with fail
  refine (apartSessions_any tv ps Xp _ H1.out H3.out.1 H3.out.2.1 hnp H3.out.2.2).mono ?_
  rintro e w2 ⟨rfl, hk2, hr2⟩
  have HE : Hid (Kept w0 w2 (BlkR ps) ∧ ∃ Xs, RowsR w2 93 2 ps Xs) := ⟨hk2, hr2⟩
  have hrow2 := H2.out w2 hk2
  have cs := bagSe_cells hrow2
  have c11 : w2.cell? ⟨g, 11, none⟩ = some nilB := cs 11 (by omega)
  have c12 : w2.cell? ⟨g, 12, none⟩ = some nilB := cs 12 (by omega)
  have c13 : w2.cell? ⟨g, 13, none⟩ = some nilB := cs 13 (by omega)
  have c14 : w2.cell? ⟨g, 14, none⟩ = some nilB := cs 14 (by omega)
  have c15 : w2.cell? ⟨g, 15, none⟩ = some nilB := cs 15 (by omega)
  have c16 : w2.cell? ⟨g, 16, none⟩ = some nilB := cs 16 (by omega)
  have c17 : w2.cell? ⟨g, 17, none⟩ = some nilB := cs 17 (by omega)
  have c18 : w2.cell? ⟨g, 18, none⟩ = some nilB := cs 18 (by omega)
  have c19 : w2.cell? ⟨g, 19, none⟩ = some nilB := cs 19 (by omega)
  have c20 : w2.cell? ⟨g, 20, none⟩ = some nilB := cs 20 (by omega)
  have hgl2 := lt_of_block hrow2
  clear cs hk2 hr2 hrow2 hgl c0 c1 c2 c3 c4 c5 c6 c7 c8 c9 c10
  go_wp2_with fail
  refine (apartChanges_nil _).mono ?_
  rintro e w3 ⟨rfl, rfl⟩
  go_wp2_with fail
  refine (apartFiles_nil _).mono ?_
  rintro e w3 ⟨rfl, rfl⟩
  go_wp2_with fail
  refine (apartPackets_nil _).mono ?_
  rintro e w3 ⟨rfl, rfl⟩
  go_wp2_with fail
  refine (apartMessages_nil _).mono ?_
  rintro e w3 ⟨rfl, rfl⟩
  go_wp2_with fail
  refine (apartWatches_nil _).mono ?_
  rintro e w3 ⟨rfl, rfl⟩
  go_wp2_with fail
  refine (apartFired_nil _).mono ?_
  rintro e w3 ⟨rfl, rfl⟩
  go_wp2_with fail
  refine (apartFacts_nil _).mono ?_
  rintro e w3 ⟨rfl, rfl⟩
  go_wp2_with fail
  refine (apartSends_nil _).mono ?_
  rintro e w3 ⟨rfl, rfl⟩
  go_wp2_with fail
  refine (apartEvents_nil _).mono ?_
  rintro e w3 ⟨rfl, rfl⟩
  go_wp2_with fail
  refine (apartFactss_nil _).mono ?_
  rintro e w3 ⟨rfl, rfl⟩
  go_wp2
  go_ret
  exact ⟨rfl, HE.out⟩

end Go.Proofs.YtmniefmjdfdedaaGreatDoor
