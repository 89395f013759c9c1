/- The statements' Bag that holds lists of watches and of fired ones alone: AddWatches, AddFired, Apart. -/
import Derived.Test.YtkcapiblicfboaaGreatDoorBgXJ
import Derived.Test.YtkcapiblicfboaaGreatDoorApartNilJ
import Derived.Test.YtkcapiblicfboaaGreatDoorApartNil2J
namespace Go.Proofs.YtkcapiblicfboaaGreatDoor
open Go.RowKit Go.Shelf
set_option maxRecDepth 8000

abbrev nilB : Value := .slice none 0 0
/-- The cells of a Bag that holds lists of watches and of fired ones alone. -/
abbrev bagWF (wv fv : Value) : Array Value := #[nilB, nilB, nilB, nilB, nilB, nilB, nilB, nilB, nilB, nilB, nilB, nilB, nilB, nilB, nilB, wv, fv, nilB, nilB, nilB, nilB]

structure BagWF (w : World) (g : Nat) (wv fv : Value) (ps qs : List Value) (B : Nat) : Prop where
  row : w.heap[g]? = some (.cells (bagWF wv fv) 54 (0, 0))
  wa : w.ownsRow B 64 1 wv ps.length ps
  fi : w.ownsRow B 63 1 fv qs.length qs

/-- A block of another kind is not this row's. -/
theorem row_not {w : World} {g B : Nat} {v : Value} {n z : Nat} {xs : List Value} {T E : TypeId} {cs : Array Value} {fr : Nat × Nat} (h : w.ownsRow B E z v n xs) (hr : w.heap[g]? = some (.cells cs T fr)) (hTE : T ≠ E) : v.ownBlock ≠ some g := by
  intro e
  obtain ⟨cs', e'⟩ := row_type h e
  rw [hr] at e'
  simp at e'
  exact hTE e'.2.1

theorem bagWF_cells {w : World} {g : Nat} {wv fv : Value} (h : w.heap[g]? = some (.cells (bagWF wv fv) 54 (0, 0))) : ∀ j, j < 21 → w.cell? ⟨g, j, none⟩ = (bagWF wv fv)[j]? := fun j _ => cell_of_row w g j _ _ _ h
theorem bagWF_c15 {w : World} {g : Nat} {wv fv : Value} (h : w.heap[g]? = some (.cells (bagWF wv fv) 54 (0, 0))) : w.cell? ⟨g, 15, none⟩ = some wv := by rw [cell_of_row w g 15 _ _ _ h]; rfl
theorem bagWF_c16 {w : World} {g : Nat} {wv fv : Value} (h : w.heap[g]? = some (.cells (bagWF wv fv) 54 (0, 0))) : w.cell? ⟨g, 16, none⟩ = some fv := by rw [cell_of_row w g 16 _ _ _ h]; rfl

set_option maxHeartbeats 400000 in
theorem addWatches_any (g : Nat) (wv fv : Value) (ps qs : List Value) (B : Nat) (pa : Option Addr) (pn pc : Nat) (w : World) (h : BagWF w g wv fv ps qs B) (hn : ps.length < 600) (hB : B ≤ w.heap.size) :
    Calls Tryz.prog 12 #[.pointer (some ⟨g, 0, none⟩), .slice pa pn pc] w fun e w' => e = .returned (.tuple #[]) ∧ ∃ v', BagWF w' g v' fv (ps ++ [.slice pa pn pc]) qs B ∧ Kept w w' (fun k => k = g ∨ wv.ownBlock = some k) ∧ NewRow w wv v' := by
  obtain ⟨i1, gi, gz0, gz1, gz2⟩ := info3B Tryz.infoWL
  have c0 := bagWF_c15 h.row
  have f0 := frozen_of_row w g 15 _ _ h.row
  have H : Hid (BagWF w g wv fv ps qs B) := h
  obtain ⟨ao, n, cap, hv⟩ : ∃ ao n cap, wv = .slice ao n cap ∧ n = ps.length := by
    rcases h.wa.2 with ⟨rfl, h0⟩ | ⟨g', c, cur, rfl, _⟩
    · exact ⟨none, 0, 0, rfl, h0.symm⟩
    · exact ⟨_, _, _, rfl, rfl⟩
  obtain ⟨rfl, rfl⟩ := hv
  have hgw : g < w.heap.size := lt_of_block h.row
  have hna := row_not h.wa h.row (by decide)
  have hd : decide ((ps.length : Int) < 600) = true := by simp; omega
  have hk0 : Kept w (w.alloc (.cells #[.slice pa pn pc] 64)) (fun _ => False) := (Kept.refl w _).alloc _
  obtain ⟨v', w1, hr, hown, hgrow, hcase⟩ := app_row (P := Tryz.prog) B 47 47 64 i1 (.slice none 0 0) 1 24 Tryz.underlying47 gi gz0 gz1 gz2 rfl (by decide) _ _ _ (row_kept h.wa hk0 (fun _ _ h => h)) w.heap.size [.slice pa pn pc] rfl (heap_alloc_new _ _) (by simp [Value.oneCell']) (by omega) (by decide) (Nat.le_trans hB hk0.size)
  have hk1 : Kept w w1 (fun k => (Value.slice ao ps.length cap).ownBlock = some k) := (hk0.mono (fun _ _ h => h.elim)).trans ⟨hgrow.os, hgrow.tape, hgrow.output, hgrow.size, fun k hk hne => hgrow.block k hk (fun e => hne e.symm)⟩ (fun _ _ h => h)
  have hrow1 := hk1.heap h.row hna
  have hnew : NewRow w (.slice ao ps.length cap) v' := by
    rcases hcase with ⟨g2, cp, e1, rfl⟩ | ⟨e, _⟩
    · simp only [Value.slice.injEq] at e1
      exact .inl (by rw [e1.1]; rfl)
    · exact .inr ⟨_, e, by simp⟩
  have c1 := bagWF_c15 hrow1
  have f1 := frozen_of_row w1 g 15 _ _ hrow1
  obtain ⟨ao', n', cap', rfl⟩ := row_form hown
  have HR : Hid (BagWF (w1.setCell ⟨g, 15, none⟩ (.slice ao' n' cap')) g (.slice ao' n' cap') fv (ps ++ [.slice pa pn pc]) qs B ∧ Kept w (w1.setCell ⟨g, 15, none⟩ (.slice ao' n' cap')) (fun k => k = g ∨ (Value.slice ao ps.length cap).ownBlock = some k) ∧ NewRow w (.slice ao ps.length cap) (.slice ao' n' cap')) := by
    have hks : Kept w1 (w1.setCell ⟨g, 15, none⟩ (.slice ao' n' cap')) (fun k => k = g) := (Kept.refl w1 _).setCell _ _ (fun _ => rfl)
    have hmine : (w1.setCell ⟨g, 15, none⟩ (.slice ao' n' cap')).ownsRow B 64 1 (.slice ao' n' cap') (ps ++ [Value.slice pa pn pc]).length (ps ++ [.slice pa pn pc]) := by
      rw [List.length_append]
      exact row_kept hown hks (fun k hv e => by subst e; exact row_not hown hrow1 (by decide) hv)
    have hother := row_kept (row_kept h.fi hk1 (type_ne (by decide) h.fi h.wa)) hks (fun k hv e => by subst e; exact row_not h.fi h.row (by decide) hv)
    refine ⟨⟨?_, hmine, hother⟩, (hk1.mono (fun _ _ h => .inr h)).trans hks (fun _ _ h => .inl h), hnew⟩
    rw [setCell_eq_setRow w1 g 15 _ _ _ _ hrow1, setRow_heap w1 g _ _ _ _ hrow1]; rfl
  clear h hna hk0 hown hgrow hcase hk1 hrow1 hnew
  go_enter Tryz.func12, Tryz.ntmps12
  go_wp2_with (at_builtin; refine Lib.wpList_append_run_sl _ rfl _ _ 47 rfl _ _ rfl rfl hr ?_)
  go_end0
  exact ⟨rfl, _, HR.out⟩

theorem addWatches_full (g : Nat) (wv fv : Value) (ps qs : List Value) (B : Nat) (pa : Option Addr) (pn pc : Nat) (w : World) (h : BagWF w g wv fv ps qs B) (hn : 600 ≤ ps.length) :
    Calls Tryz.prog 12 #[.pointer (some ⟨g, 0, none⟩), .slice pa pn pc] w fun e w' => e = .returned (.tuple #[]) ∧ w' = w := by
  have c0 := bagWF_c15 h.row
  obtain ⟨ao, n, cap, hv⟩ : ∃ ao n cap, wv = .slice ao n cap ∧ n = ps.length := by
    rcases h.wa.2 with ⟨rfl, h0⟩ | ⟨g', c, cur, rfl, _⟩
    · exact ⟨none, 0, 0, rfl, h0.symm⟩
    · exact ⟨_, _, _, rfl, rfl⟩
  obtain ⟨rfl, rfl⟩ := hv
  have hgw : g < w.heap.size := lt_of_block h.row
  have hd : decide ((ps.length : Int) < 600) = false := by simp; omega
  clear h
  go_enter Tryz.func12, Tryz.ntmps12
  go_wp2
  go_end0
  exact ⟨rfl, rfl⟩

set_option maxHeartbeats 400000 in
theorem addFired_any (g : Nat) (wv fv : Value) (ps qs : List Value) (B : Nat) (pa : Option Addr) (pn pc : Nat) (w : World) (h : BagWF w g wv fv ps qs B) (hn : qs.length < 600) (hB : B ≤ w.heap.size) :
    Calls Tryz.prog 11 #[.pointer (some ⟨g, 0, none⟩), .slice pa pn pc] w fun e w' => e = .returned (.tuple #[]) ∧ ∃ v', BagWF w' g wv v' ps (qs ++ [.slice pa pn pc]) B ∧ Kept w w' (fun k => k = g ∨ fv.ownBlock = some k) ∧ NewRow w fv v' := by
  obtain ⟨i1, gi, gz0, gz1, gz2⟩ := info3B Tryz.infoFL
  have c0 := bagWF_c16 h.row
  have f0 := frozen_of_row w g 16 _ _ h.row
  have H : Hid (BagWF w g wv fv ps qs B) := h
  obtain ⟨ao, n, cap, hv⟩ : ∃ ao n cap, fv = .slice ao n cap ∧ n = qs.length := by
    rcases h.fi.2 with ⟨rfl, h0⟩ | ⟨g', c, cur, rfl, _⟩
    · exact ⟨none, 0, 0, rfl, h0.symm⟩
    · exact ⟨_, _, _, rfl, rfl⟩
  obtain ⟨rfl, rfl⟩ := hv
  have hgw : g < w.heap.size := lt_of_block h.row
  have hna := row_not h.fi h.row (by decide)
  have hd : decide ((qs.length : Int) < 600) = true := by simp; omega
  have hk0 : Kept w (w.alloc (.cells #[.slice pa pn pc] 63)) (fun _ => False) := (Kept.refl w _).alloc _
  obtain ⟨v', w1, hr, hown, hgrow, hcase⟩ := app_row (P := Tryz.prog) B 48 48 63 i1 (.slice none 0 0) 1 24 Tryz.underlying48 gi gz0 gz1 gz2 rfl (by decide) _ _ _ (row_kept h.fi hk0 (fun _ _ h => h)) w.heap.size [.slice pa pn pc] rfl (heap_alloc_new _ _) (by simp [Value.oneCell']) (by omega) (by decide) (Nat.le_trans hB hk0.size)
  have hk1 : Kept w w1 (fun k => (Value.slice ao qs.length cap).ownBlock = some k) := (hk0.mono (fun _ _ h => h.elim)).trans ⟨hgrow.os, hgrow.tape, hgrow.output, hgrow.size, fun k hk hne => hgrow.block k hk (fun e => hne e.symm)⟩ (fun _ _ h => h)
  have hrow1 := hk1.heap h.row hna
  have hnew : NewRow w (.slice ao qs.length cap) v' := by
    rcases hcase with ⟨g2, cp, e1, rfl⟩ | ⟨e, _⟩
    · simp only [Value.slice.injEq] at e1
      exact .inl (by rw [e1.1]; rfl)
    · exact .inr ⟨_, e, by simp⟩
  have c1 := bagWF_c16 hrow1
  have f1 := frozen_of_row w1 g 16 _ _ hrow1
  obtain ⟨ao', n', cap', rfl⟩ := row_form hown
  have HR : Hid (BagWF (w1.setCell ⟨g, 16, none⟩ (.slice ao' n' cap')) g wv (.slice ao' n' cap') ps (qs ++ [.slice pa pn pc]) B ∧ Kept w (w1.setCell ⟨g, 16, none⟩ (.slice ao' n' cap')) (fun k => k = g ∨ (Value.slice ao qs.length cap).ownBlock = some k) ∧ NewRow w (.slice ao qs.length cap) (.slice ao' n' cap')) := by
    have hks : Kept w1 (w1.setCell ⟨g, 16, none⟩ (.slice ao' n' cap')) (fun k => k = g) := (Kept.refl w1 _).setCell _ _ (fun _ => rfl)
    have hmine : (w1.setCell ⟨g, 16, none⟩ (.slice ao' n' cap')).ownsRow B 63 1 (.slice ao' n' cap') (qs ++ [Value.slice pa pn pc]).length (qs ++ [.slice pa pn pc]) := by
      rw [List.length_append]
      exact row_kept hown hks (fun k hv e => by subst e; exact row_not hown hrow1 (by decide) hv)
    have hother := row_kept (row_kept h.wa hk1 (type_ne (by decide) h.wa h.fi)) hks (fun k hv e => by subst e; exact row_not h.wa h.row (by decide) hv)
    refine ⟨⟨?_, hother, hmine⟩, (hk1.mono (fun _ _ h => .inr h)).trans hks (fun _ _ h => .inl h), hnew⟩
    rw [setCell_eq_setRow w1 g 16 _ _ _ _ hrow1, setRow_heap w1 g _ _ _ _ hrow1]; rfl
  clear h hna hk0 hown hgrow hcase hk1 hrow1 hnew
  go_enter Tryz.func11, Tryz.ntmps11
  go_wp2_with (at_builtin; refine Lib.wpList_append_run_sl _ rfl _ _ 48 rfl _ _ rfl rfl hr ?_)
  go_end0
  exact ⟨rfl, _, HR.out⟩

theorem addFired_full (g : Nat) (wv fv : Value) (ps qs : List Value) (B : Nat) (pa : Option Addr) (pn pc : Nat) (w : World) (h : BagWF w g wv fv ps qs B) (hn : 600 ≤ qs.length) :
    Calls Tryz.prog 11 #[.pointer (some ⟨g, 0, none⟩), .slice pa pn pc] w fun e w' => e = .returned (.tuple #[]) ∧ w' = w := by
  have c0 := bagWF_c16 h.row
  obtain ⟨ao, n, cap, hv⟩ : ∃ ao n cap, fv = .slice ao n cap ∧ n = qs.length := by
    rcases h.fi.2 with ⟨rfl, h0⟩ | ⟨g', c, cur, rfl, _⟩
    · exact ⟨none, 0, 0, rfl, h0.symm⟩
    · exact ⟨_, _, _, rfl, rfl⟩
  obtain ⟨rfl, rfl⟩ := hv
  have hgw : g < w.heap.size := lt_of_block h.row
  have hd : decide ((qs.length : Int) < 600) = false := by simp; omega
  clear h
  go_enter Tryz.func11, Tryz.ntmps11
  go_wp2
  go_end0
  exact ⟨rfl, rfl⟩

theorem seesL_own {w : World} {B : Nat} {T1 : TypeId} {lv : Value} {rs : List Rw} (h : w.ownsRow B T1 1 lv (rs.map Rw.v).length (rs.map Rw.v)) : SeesL w T1 lv rs := by
  obtain ⟨hl, ⟨rfl, h0⟩ | ⟨g, cap, cur, rfl, a2, a3, a4, a5, a6, a7⟩⟩ := h
  · have e : rs = [] := by
      rw [List.length_map] at h0
      exact List.length_eq_zero_iff.mp h0
    subst e
    exact ⟨none, 0, rfl, Nat.le_refl _, fun h => absurd rfl h⟩
  · rw [List.length_map] at a4 a7 ⊢
    refine ⟨some ⟨g, 0, none⟩, cap, rfl, a4, fun _ => ⟨g, 0, rfl, ⟨cur, (0, 0), a3⟩, fun j hj => ?_⟩⟩
    rw [cell_of_row w g _ _ _ _ a3, Nat.zero_add, ← Array.getElem?_toList]
    have e : (cur.toList.take (rs.length * 1))[j]? = some rs[j].v := by rw [a7]; simp [hj]
    rw [List.getElem?_take] at e
    split at e
    · exact e
    · cases e
theorem blkR_not {w : World} {T E : TypeId} {z : Nat} {rs : List Rw} {Xs : Nat → List Value} (h : RowsR w T z rs Xs) {k : Nat} {cs : Array Value} {fr : Nat × Nat} (hr : w.heap[k]? = some (.cells cs E fr)) (hTE : E ≠ T) : ¬ BlkR rs k := fun hk => by
  obtain ⟨j, hj, e⟩ := hk
  obtain ⟨cs', e'⟩ := row_type (h j hj) e
  rw [hr] at e'
  simp at e'
  exact hTE e'.2.1

set_option maxHeartbeats 2000000 in
theorem bagApart_wf (g B : Nat) (wv fv : Value) (ps qs : List Rw) (Xp Xq : Nat → List Value) (w : World) (h : BagWF w g wv fv (ps.map Rw.v) (qs.map Rw.v) B) (hrp : RowsR w 57 3 ps Xp) (hrq : RowsR w 77 5 qs Xq) (hap : ApartR ps) (haq : ApartR qs)
    (hnp : ps.length ≤ 600) (hnq : qs.length ≤ 600) (hbp : ∀ j (hj : j < ps.length), ps[j].n ≤ 1100000000) (hbq : ∀ j (hj : j < qs.length), qs[j].n ≤ 1100000000) :
    Calls Tryz.prog 16 #[.pointer (some ⟨g, 0, none⟩)] w fun e w' => e = .returned (.bool true) ∧ Kept w w' (fun k => BlkR ps k ∨ BlkR qs k) := by
  have cs := bagWF_cells h.row
  have H1 : Hid (SeesL w 64 wv ps) := seesL_own h.wa
  have H2 : Hid (∀ w1, Kept w w1 (BlkR ps) → w1.heap[g]? = some (.cells (bagWF wv fv) 54 (0, 0)) ∧ SeesL w1 63 fv qs ∧ RowsR w1 77 5 qs Xq) := fun w1 hk => by
    refine ⟨hk.heap h.row (blkR_not hrp h.row (by decide)), seesL_own (row_kept h.fi hk (fun k e hb => ?_)), fun j hj => row_kept (hrq j hj) hk (fun k e hb => ?_)⟩
    · obtain ⟨cs', e'⟩ := row_type h.fi e
      exact blkR_not hrp e' (by decide) hb
    · obtain ⟨cs', e'⟩ := row_type (hrq j hj) e
      exact blkR_not hrp e' (by decide) hb
  have H3 : Hid (RowsR w 57 3 ps Xp ∧ ApartR ps ∧ ApartR qs ∧ (∀ j (hj : j < ps.length), ps[j].n ≤ 1100000000) ∧ (∀ j (hj : j < qs.length), qs[j].n ≤ 1100000000)) := ⟨hrp, hap, haq, hbp, hbq⟩
  have c0 : w.cell? ⟨g, 0, none⟩ = some nilB := cs 0 (by omega)
  have c1 : w.cell? ⟨g, 1, none⟩ = some nilB := cs 1 (by omega)
  have c2 : w.cell? ⟨g, 2, none⟩ = some nilB := cs 2 (by omega)
  have c3 : w.cell? ⟨g, 3, none⟩ = some nilB := cs 3 (by omega)
  have c4 : w.cell? ⟨g, 4, none⟩ = some nilB := cs 4 (by omega)
  have c5 : w.cell? ⟨g, 5, none⟩ = some nilB := cs 5 (by omega)
  have c6 : w.cell? ⟨g, 6, none⟩ = some nilB := cs 6 (by omega)
  have c7 : w.cell? ⟨g, 7, none⟩ = some nilB := cs 7 (by omega)
  have c8 : w.cell? ⟨g, 8, none⟩ = some nilB := cs 8 (by omega)
  have c9 : w.cell? ⟨g, 9, none⟩ = some nilB := cs 9 (by omega)
  have c10 : w.cell? ⟨g, 10, none⟩ = some nilB := cs 10 (by omega)
  have c11 : w.cell? ⟨g, 11, none⟩ = some nilB := cs 11 (by omega)
  have c12 : w.cell? ⟨g, 12, none⟩ = some nilB := cs 12 (by omega)
  have c13 : w.cell? ⟨g, 13, none⟩ = some nilB := cs 13 (by omega)
  have c14 : w.cell? ⟨g, 14, none⟩ = some nilB := cs 14 (by omega)
  have c15 : w.cell? ⟨g, 15, none⟩ = some wv := cs 15 (by omega)
  have hgl := lt_of_block h.row
  clear h cs hrp hrq hap haq hbp hbq
  go_enter Tryz.func16, Tryz.ntmps16
  go_wp2_with fail
  refine (apartBytes_nil _).mono ?_
  rintro e w0 ⟨rfl, rfl⟩
  go_wp2_with fail
  refine (apartInts_nil _).mono ?_
  rintro e w0 ⟨rfl, rfl⟩
  go_wp2_with fail
  refine (apartTexts_nil _).mono ?_
  rintro e w0 ⟨rfl, rfl⟩
  go_wp2_with fail
  refine (apartPieces_nil _).mono ?_
  rintro e w0 ⟨rfl, rfl⟩
  go_wp2_with fail
  refine (apartIds_nil _).mono ?_
  rintro e w0 ⟨rfl, rfl⟩
  go_wp2_with fail
  refine (apartAcl_nil _).mono ?_
  rintro e w0 ⟨rfl, rfl⟩
  go_wp2_with fail
  refine (apartRequests_nil _).mono ?_
  rintro e w0 ⟨rfl, rfl⟩
  go_wp2_with fail
  refine (apartTxns_nil _).mono ?_
  rintro e w0 ⟨rfl, rfl⟩
  go_wp2_with fail
  refine (apartResults_nil _).mono ?_
  rintro e w0 ⟨rfl, rfl⟩
  go_wp2_with fail
  refine (apartNodes_nil _).mono ?_
  rintro e w0 ⟨rfl, rfl⟩
  go_wp2_with fail
  refine (apartSessions_nil _).mono ?_
  rintro e w0 ⟨rfl, rfl⟩
  go_wp2_with fail
  refine (apartChanges_nil _).mono ?_
  rintro e w0 ⟨rfl, rfl⟩
  go_wp2_with fail
  refine (apartFiles_nil _).mono ?_
  rintro e w0 ⟨rfl, rfl⟩
  go_wp2_with fail
  refine (apartPackets_nil _).mono ?_
  rintro e w0 ⟨rfl, rfl⟩
  go_wp2_with fail
  refine (apartMessages_nil _).mono ?_
  rintro e w0 ⟨rfl, rfl⟩
  go_wp2_with fail
  refine (apartWatches_any wv ps Xp _ H1.out H3.out.1 H3.out.2.1 hnp H3.out.2.2.2.1).mono ?_
  rintro e w1 ⟨rfl, hk1⟩
  obtain ⟨hrow1, hs1, hr1⟩ := H2.out w1 hk1
  have H4 : Hid (SeesL w1 63 fv qs ∧ RowsR w1 77 5 qs Xq ∧ w1.heap[g]? = some (.cells (bagWF wv fv) 54 (0, 0))) := ⟨hs1, hr1, hrow1⟩
  have HK : Hid (∀ w2, Kept w1 w2 (BlkR qs) → Kept w0 w2 (fun k => BlkR ps k ∨ BlkR qs k)) := fun w2 hk2 => (hk1.mono (fun _ _ h => .inl h)).trans hk2 (fun _ _ h => .inr h)
  have c16 := bagWF_c16 hrow1
  have hgl1 := lt_of_block hrow1
  clear hrow1 hs1 hr1 hk1 c0 c1 c2 c3 c4 c5 c6 c7 c8 c9 c10 c11 c12 c13 c14 c15
  go_wp2_with fail
  refine (apartFired_any fv qs Xq _ H4.out.1 H4.out.2.1 H3.out.2.2.1 hnq H3.out.2.2.2.2).mono ?_
  rintro e w2 ⟨rfl, hk2⟩
  have HE : Hid (Kept _ w2 (fun k => BlkR ps k ∨ BlkR qs k)) := HK.out w2 hk2
  have hrow2 := hk2.heap H4.out.2.2 (blkR_not H4.out.2.1 H4.out.2.2 (by decide))
  have cs := bagWF_cells hrow2
  have c17 : w2.cell? ⟨g, 17, none⟩ = some nilB := cs 17 (by omega)
  have c18 : w2.cell? ⟨g, 18, none⟩ = some nilB := cs 18 (by omega)
  have c19 : w2.cell? ⟨g, 19, none⟩ = some nilB := cs 19 (by omega)
  have c20 : w2.cell? ⟨g, 20, none⟩ = some nilB := cs 20 (by omega)
  have hgl2 := lt_of_block hrow2
  clear cs hk2 c16 hrow2
  go_wp2_with fail
  refine (apartFacts_nil _).mono ?_
  rintro e w3 ⟨rfl, rfl⟩
  go_wp2_with fail
  refine (apartSends_nil _).mono ?_
  rintro e w3 ⟨rfl, rfl⟩
  go_wp2_with fail
  refine (apartEvents_nil _).mono ?_
  rintro e w3 ⟨rfl, rfl⟩
  go_wp2_with fail
  refine (apartFactss_nil _).mono ?_
  rintro e w3 ⟨rfl, rfl⟩
  go_wp2
  go_ret
  exact ⟨rfl, HE.out⟩

end Go.Proofs.YtkcapiblicfboaaGreatDoor
