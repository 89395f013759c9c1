/- The statements' Bag with lists of ids and of entries, which lie apart: Apart says so. -/
import Derived.Test.YtgoiefhhbgollaaGreatDoorBgGJ
import Derived.Test.YtgoiefhhbgollaaGreatDoorApartNilJ
import Derived.Test.YtgoiefhhbgollaaGreatDoorApartNil2J
namespace Go.Proofs.YtgoiefhhbgollaaGreatDoor
open Go.RowKit Go.Shelf
set_option maxRecDepth 8000

theorem seesL_own {w : World} {B : Nat} {T1 : TypeId} {lv : Value} {rs : List Rw} (h : w.ownsRow B T1 1 lv (rs.map Rw.v).length (rs.map Rw.v)) : SeesL w T1 lv rs := by
  obtain ⟨hl, ⟨rfl, h0⟩ | ⟨g, cap, cur, rfl, a2, a3, a4, a5, a6, a7⟩⟩ := h
  · have e : rs = [] := by
      rw [List.length_map] at h0
      exact List.length_eq_zero_iff.mp h0
    subst e
    exact ⟨none, 0, rfl, Nat.le_refl _, fun h => absurd rfl h⟩
  · rw [List.length_map] at a4 a7 ⊢
    refine ⟨some ⟨g, 0, none⟩, cap, rfl, a4, fun _ => ⟨g, 0, rfl, ⟨cur, (0, 0), a3⟩, fun j hj => ?_⟩⟩
    rw [cell_of_row w g _ _ _ _ a3, Nat.zero_add, ← Array.getElem?_toList]
    have e : (cur.toList.take (rs.length * 1))[j]? = some rs[j].v := by rw [a7]; simp [hj]
    rw [List.getElem?_take] at e
    split at e
    · exact e
    · cases e

theorem bagIA_cells {w : World} {g : Nat} {iv av : Value} (h : w.heap[g]? = some (.cells (bagIA iv av) 63 (0, 0))) : ∀ j, j < 21 → w.cell? ⟨g, j, none⟩ = (bagIA iv av)[j]? := fun j _ => cell_of_row w g j _ _ _ h

theorem blkR_type {w : World} {T : TypeId} {z : Nat} {rs : List Rw} {Xs : Nat → List Value} (h : RowsR w T z rs Xs) {k : Nat} (hk : BlkR rs k) : ∃ cs, w.heap[k]? = some (.cells cs T (0, 0)) := by
  obtain ⟨j, hj, e⟩ := hk
  exact row_type (h j hj) e

theorem blkR_not {w : World} {T E : TypeId} {z : Nat} {rs : List Rw} {Xs : Nat → List Value} (h : RowsR w T z rs Xs) {k : Nat} {cs : Array Value} {fr : Nat × Nat} (hr : w.heap[k]? = some (.cells cs E fr)) (hTE : E ≠ T) : ¬ BlkR rs k := fun hk => by
  obtain ⟨cs', e⟩ := blkR_type h hk
  rw [hr] at e
  simp at e
  exact hTE e.2.1

set_option maxHeartbeats 2000000 in
theorem bagApart_ia (g B : Nat) (iv av : Value) (ps qs : List Rw) (Xp Xq : Nat → List Value) (w : World) (h : BagIA w g iv av (ps.map Rw.v) (qs.map Rw.v) B) (hrp : RowsR w 37 2 ps Xp) (hrq : RowsR w 39 3 qs Xq) (hap : ApartR ps) (haq : ApartR qs)
    (hnp : ps.length ≤ 600) (hnq : qs.length ≤ 600) (hbp : ∀ j (hj : j < ps.length), ps[j].n ≤ 1100000000) (hbq : ∀ j (hj : j < qs.length), qs[j].n ≤ 1100000000)
    (ht : Tab w) (hg0 : 0 < w.heap.size) (hgp : ¬ BlkR ps 0) (hgq : ¬ BlkR qs 0) :
    Calls Tryz.prog 17 #[.pointer (some ⟨g, 0, none⟩)] w fun e w' => e = .returned (.bool true) ∧ Kept w w' (fun k => BlkR ps k ∨ BlkR qs k) := by
  have cs := bagIA_cells h.row
  have H1 : Hid (SeesL w 23 iv ps) := seesL_own h.ids
  have H2 : Hid (∀ w1, Kept w w1 (BlkR ps) → w1.heap[g]? = some (.cells (bagIA iv av) 63 (0, 0)) ∧ SeesL w1 22 av qs ∧ RowsR w1 39 3 qs Xq ∧ Tab w1 ∧ 0 < w1.heap.size) := fun w1 hk => by
    refine ⟨hk.heap h.row (blkR_not hrp h.row (by decide)), seesL_own (row_kept h.acl hk (fun k e hb => ?_)), fun j hj => row_kept (hrq j hj) hk (fun k e hb => ?_), tab_same ht (hk.block _ hg0 hgp), Nat.lt_of_lt_of_le hg0 hk.size⟩
    · obtain ⟨cs', e'⟩ := row_type h.acl e
      exact blkR_not hrp e' (by decide) hb
    · obtain ⟨cs', e'⟩ := row_type (hrq j hj) e
      exact blkR_not hrp e' (by decide) hb
  have H3 : Hid (RowsR w 37 2 ps Xp ∧ ApartR ps ∧ ApartR qs ∧ (∀ j (hj : j < ps.length), ps[j].n ≤ 1100000000) ∧ (∀ j (hj : j < qs.length), qs[j].n ≤ 1100000000) ∧ ¬ BlkR ps 0 ∧ ¬ BlkR qs 0 ∧ Tab w) := ⟨hrp, hap, haq, hbp, hbq, hgp, hgq, ht⟩
  have c0 : w.cell? ⟨g, 0, none⟩ = some nilB := cs 0 (by omega)
  have c1 : w.cell? ⟨g, 1, none⟩ = some nilB := cs 1 (by omega)
  have c2 : w.cell? ⟨g, 2, none⟩ = some nilB := cs 2 (by omega)
  have c3 : w.cell? ⟨g, 3, none⟩ = some nilB := cs 3 (by omega)
  have c4 : w.cell? ⟨g, 4, none⟩ = some iv := cs 4 (by omega)
  clear h cs hrp hrq hap haq hbp hbq hgp hgq ht
  go_enter Tryz.func17, Tryz.ntmps17
  go_wp2_with fail
  refine (apartBytes_nil _).mono ?_
  rintro e w0 ⟨rfl, rfl⟩
  go_wp2_with fail
  refine (apartInts_nil _).mono ?_
  rintro e w0 ⟨rfl, rfl⟩
  go_wp2_with fail
  refine (apartTexts_nil _).mono ?_
  rintro e w0 ⟨rfl, rfl⟩
  go_wp2_with fail
  refine (apartPieces_nil _).mono ?_
  rintro e w0 ⟨rfl, rfl⟩
  go_wp2_with fail
  refine (apartIds_any iv ps Xp _ H1.out H3.out.1 H3.out.2.1 hnp H3.out.2.2.2.1 H3.out.2.2.2.2.2.2.2 hg0 H3.out.2.2.2.2.2.1).mono ?_
  rintro e w1 ⟨rfl, hk1⟩
  obtain ⟨hrow1, hs1, hr1, ht1, hz1⟩ := H2.out w1 hk1
  have H4 : Hid (SeesL w1 22 av qs ∧ RowsR w1 39 3 qs Xq ∧ Tab w1) := ⟨hs1, hr1, ht1⟩
  have HK1 : Hid (Kept w1 w1 (fun _ => False) ∧ w1.heap[g]? = some (.cells (bagIA iv av) 63 (0, 0))) := ⟨Kept.refl _ _, hrow1⟩
  have HK : Hid (∀ w2, Kept w1 w2 (BlkR qs) → Kept w0 w2 (fun k => BlkR ps k ∨ BlkR qs k)) := fun w2 hk2 => (hk1.mono (fun _ _ h => .inl h)).trans hk2 (fun _ _ h => .inr h)
  have c5 := bagIA_c5 hrow1
  clear hrow1 hs1 hr1 ht1 hk1 c0 c1 c2 c3 c4
  go_wp2_with fail
  refine (apartAcl_any av qs Xq _ H4.out.1 H4.out.2.1 H3.out.2.2.1 hnq H3.out.2.2.2.2.1 H4.out.2.2 hz1 H3.out.2.2.2.2.2.2.1).mono ?_
  rintro e w2 ⟨rfl, hk2⟩
  have HE : Hid (Kept _ w2 (fun k => BlkR ps k ∨ BlkR qs k)) := HK.out w2 hk2
  have cs := bagIA_cells (hk2.heap HK1.out.2 (blkR_not H4.out.2.1 HK1.out.2 (by decide)))
  have c6 : w2.cell? ⟨g, 6, none⟩ = some nilB := cs 6 (by omega)
  have c7 : w2.cell? ⟨g, 7, none⟩ = some nilB := cs 7 (by omega)
  have c8 : w2.cell? ⟨g, 8, none⟩ = some nilB := cs 8 (by omega)
  have c9 : w2.cell? ⟨g, 9, none⟩ = some nilB := cs 9 (by omega)
  have c10 : w2.cell? ⟨g, 10, none⟩ = some nilB := cs 10 (by omega)
  have c11 : w2.cell? ⟨g, 11, none⟩ = some nilB := cs 11 (by omega)
  have c12 : w2.cell? ⟨g, 12, none⟩ = some nilB := cs 12 (by omega)
  have c13 : w2.cell? ⟨g, 13, none⟩ = some nilB := cs 13 (by omega)
  have c14 : w2.cell? ⟨g, 14, none⟩ = some nilB := cs 14 (by omega)
  have c15 : w2.cell? ⟨g, 15, none⟩ = some nilB := cs 15 (by omega)
  have c16 : w2.cell? ⟨g, 16, none⟩ = some nilB := cs 16 (by omega)
  have c17 : w2.cell? ⟨g, 17, none⟩ = some nilB := cs 17 (by omega)
  have c18 : w2.cell? ⟨g, 18, none⟩ = some nilB := cs 18 (by omega)
  have c19 : w2.cell? ⟨g, 19, none⟩ = some nilB := cs 19 (by omega)
  have c20 : w2.cell? ⟨g, 20, none⟩ = some nilB := cs 20 (by omega)
  clear cs hk2 c5
  go_wp2_with fail
  refine (apartRequests_nil _).mono ?_
  rintro e w3 ⟨rfl, rfl⟩
  go_wp2_with fail
  refine (apartTxns_nil _).mono ?_
  rintro e w3 ⟨rfl, rfl⟩
  go_wp2_with fail
  refine (apartResults_nil _).mono ?_
  rintro e w3 ⟨rfl, rfl⟩
  go_wp2_with fail
  refine (apartNodes_nil _).mono ?_
  rintro e w3 ⟨rfl, rfl⟩
  go_wp2_with fail
  refine (apartSessions_nil _).mono ?_
  rintro e w3 ⟨rfl, rfl⟩
  go_wp2_with fail
  refine (apartChanges_nil _).mono ?_
  rintro e w3 ⟨rfl, rfl⟩
  go_wp2_with fail
  refine (apartFiles_nil _).mono ?_
  rintro e w3 ⟨rfl, rfl⟩
  go_wp2_with fail
  refine (apartPackets_nil _).mono ?_
  rintro e w3 ⟨rfl, rfl⟩
  go_wp2_with fail
  refine (apartMessages_nil _).mono ?_
  rintro e w3 ⟨rfl, rfl⟩
  go_wp2_with fail
  refine (apartWatches_nil _).mono ?_
  rintro e w3 ⟨rfl, rfl⟩
  go_wp2_with fail
  refine (apartFired_nil _).mono ?_
  rintro e w3 ⟨rfl, rfl⟩
  go_wp2_with fail
  refine (apartFacts_nil _).mono ?_
  rintro e w3 ⟨rfl, rfl⟩
  go_wp2_with fail
  refine (apartSends_nil _).mono ?_
  rintro e w3 ⟨rfl, rfl⟩
  go_wp2_with fail
  refine (apartEvents_nil _).mono ?_
  rintro e w3 ⟨rfl, rfl⟩
  go_wp2_with fail
  refine (apartFactss_nil _).mono ?_
  rintro e w3 ⟨rfl, rfl⟩
  go_wp2
  go_ret
  exact ⟨rfl, HE.out⟩

end Go.Proofs.YtgoiefhhbgollaaGreatDoor
