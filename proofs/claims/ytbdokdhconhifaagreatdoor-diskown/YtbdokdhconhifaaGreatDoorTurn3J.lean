/- The statements' lists of bytes and of pieces where there is none: they are apart. -/
import Derived.Test.YtbdokdhconhifaaGreatDoorProg
import Derived.Test.YtbdokdhconhifaaGreatDoorTurnJ
import Derived.Test.YtbdokdhconhifaaGreatDoorApartNilJ
namespace Go.Proofs.YtbdokdhconhifaaGreatDoor
open Go.RowKit
set_option maxRecDepth 8000

theorem grownBytes_nil (d more : Int) (w : World) : Calls Tryz.prog 73 #[.slice none 0 0, .int .i64 d, .int .i64 more] w fun e w' => e = .returned (.bool true) ∧ w' = w := by
  go_enter Tryz.func73, Tryz.ntmps73
  go_wp2
  go_loopw [8] (fun i wr => i = .int .i64 0 ∧ wr = w) (fun _ _ => 0)
  case atStart => exact ⟨rfl, rfl⟩
  case round =>
    obtain ⟨rfl, rfl⟩ := hrel
    go_wp2
    go_loopw [11] (fun i wx => i = .int .i64 0 ∧ wx = wr) (fun _ _ => 0)
    case atStart => exact ⟨rfl, rfl⟩
    case round =>
      obtain ⟨rfl, rfl⟩ := hrel
      go_wp2
      go_ret
      exact ⟨rfl, rfl⟩

theorem grownPieces_nil (more : Int) (w : World) : Calls Tryz.prog 77 #[.slice none 0 0, .int .i64 more] w fun e w' => e = .returned (.bool true) ∧ w' = w := by
  go_enter Tryz.func77, Tryz.ntmps77
  go_wp2
  go_loopw [6] (fun i wr => i = .int .i64 0 ∧ wr = w) (fun _ _ => 0)
  case atStart => exact ⟨rfl, rfl⟩
  case round =>
    obtain ⟨rfl, rfl⟩ := hrel
    go_wp2
    go_loopw [9] (fun i wx => i = .int .i64 0 ∧ wx = wr) (fun _ _ => 0)
    case atStart => exact ⟨rfl, rfl⟩
    case round =>
      obtain ⟨rfl, rfl⟩ := hrel
      go_wp2
      go_ret
      exact ⟨rfl, rfl⟩

theorem apartPieces_nil (w : World) : Calls Tryz.prog 41 #[.slice none 0 0] w fun e w' => e = .returned (.bool true) ∧ w' = w := by
  go_enter Tryz.func41, Tryz.ntmps41
  go_wp2
  go_loopw [3] (fun i wr => i = .int .i64 0 ∧ wr = w) (fun _ _ => 0)
  case atStart => exact ⟨rfl, rfl⟩
  case round =>
    obtain ⟨rfl, rfl⟩ := hrel
    go_wp2_with fail
    refine (grownPieces_nil 1 _).mono ?_
    rintro e w1 ⟨rfl, rfl⟩
    go_wp2_with fail
    refine (grownPieces_nil 24 _).mono ?_
    rintro e w1 ⟨rfl, rfl⟩
    go_wp2
    go_ret
    exact ⟨rfl, rfl⟩

theorem apartBytes_nil (w : World) : Calls Tryz.prog 38 #[.slice none 0 0] w fun e w' => e = .returned (.bool true) ∧ w' = w := by
  go_enter Tryz.func38, Tryz.ntmps38
  go_wp2
  go_loopw [3] (fun dv wr => (dv = .int .i64 1 ∨ dv = .int .i64 100) ∧ wr = w) (fun dv _ => 200 - (intOf dv).toNat)
  case atStart => exact ⟨.inl rfl, rfl⟩
  case round =>
    obtain ⟨rfl | rfl, rfl⟩ := hrel
    · go_wp2
      go_loopw [4] (fun i wx => i = .int .i64 0 ∧ wx = wr) (fun _ _ => 0)
      case atStart => exact ⟨rfl, rfl⟩
      case round =>
        obtain ⟨rfl, rfl⟩ := hrel
        go_wp2_with fail
        refine (grownBytes_nil 1 1 _).mono ?_
        rintro e w1 ⟨rfl, rfl⟩
        go_wp2_with fail
        refine (grownBytes_nil 1 64 _).mono ?_
        rintro e w1 ⟨rfl, rfl⟩
        go_wp2
        go_roundw
        case rel => exact ⟨.inr (by go_num), trivial⟩
        case measure => simp [intOf]
    · go_wp2
      go_ret
      exact ⟨rfl, rfl⟩

end Go.Proofs.YtbdokdhconhifaaGreatDoor

/- The statements' Bag that holds lists of texts alone, which lie apart: AddTexts, Apart. -/
namespace Go.Proofs.YtbdokdhconhifaaGreatDoor
open Go.RowKit Go.Shelf
set_option maxRecDepth 8000

abbrev nilB : Value := .slice none 0 0
/-- The cells of a Bag that holds lists of texts alone. -/
abbrev bagTx (tv : Value) : Array Value := #[nilB, nilB, tv, nilB, nilB, nilB, nilB, nilB, nilB, nilB, nilB, nilB, nilB, nilB, nilB, nilB, nilB, nilB, nilB, nilB, nilB]

structure BagTx (w : World) (g : Nat) (tv : Value) (ps : List Value) (B : Nat) : Prop where
  row : w.heap[g]? = some (.cells (bagTx tv) 55 (0, 0))
  ts : w.ownsRow B 56 1 tv ps.length ps

theorem row_not {w : World} {g B : Nat} {v : Value} {n z : Nat} {xs : List Value} {T E : TypeId} {cs : Array Value} {fr : Nat × Nat} (h : w.ownsRow B E z v n xs) (hr : w.heap[g]? = some (.cells cs T fr)) (hTE : T ≠ E) : v.ownBlock ≠ some g := by
  intro e
  obtain ⟨cs', e'⟩ := row_type h e
  rw [hr] at e'
  simp at e'
  exact hTE e'.2.1

theorem seesL_own {w : World} {B : Nat} {T1 : TypeId} {lv : Value} {rs : List Rw} (h : w.ownsRow B T1 1 lv (rs.map Rw.v).length (rs.map Rw.v)) : SeesL w T1 lv rs := by
  obtain ⟨hl, ⟨rfl, h0⟩ | ⟨g, cap, cur, rfl, a2, a3, a4, a5, a6, a7⟩⟩ := h
  · have e : rs = [] := by
      rw [List.length_map] at h0
      exact List.length_eq_zero_iff.mp h0
    subst e
    exact ⟨none, 0, rfl, Nat.le_refl _, fun h => absurd rfl h⟩
  · rw [List.length_map] at a4 a7 ⊢
    refine ⟨some ⟨g, 0, none⟩, cap, rfl, a4, fun _ => ⟨g, 0, rfl, ⟨cur, (0, 0), a3⟩, fun j hj => ?_⟩⟩
    rw [cell_of_row w g _ _ _ _ a3, Nat.zero_add, ← Array.getElem?_toList]
    have e : (cur.toList.take (rs.length * 1))[j]? = some rs[j].v := by rw [a7]; simp [hj]
    rw [List.getElem?_take] at e
    split at e
    · exact e
    · cases e

theorem blkR_type {w : World} {T : TypeId} {z : Nat} {rs : List Rw} {Xs : Nat → List Value} (h : RowsR w T z rs Xs) {k : Nat} (hk : BlkR rs k) : ∃ cs, w.heap[k]? = some (.cells cs T (0, 0)) := by
  obtain ⟨j, hj, e⟩ := hk
  exact row_type (h j hj) e

theorem blkR_not {w : World} {T E : TypeId} {z : Nat} {rs : List Rw} {Xs : Nat → List Value} (h : RowsR w T z rs Xs) {k : Nat} {cs : Array Value} {fr : Nat × Nat} (hr : w.heap[k]? = some (.cells cs E fr)) (hTE : E ≠ T) : ¬ BlkR rs k := fun hk => by
  obtain ⟨cs', e⟩ := blkR_type h hk
  rw [hr] at e
  simp at e
  exact hTE e.2.1

theorem bagTx_c2 {w : World} {g : Nat} {tv : Value} (h : w.heap[g]? = some (.cells (bagTx tv) 55 (0, 0))) : w.cell? ⟨g, 2, none⟩ = some tv := by rw [cell_of_row w g 2 _ _ _ h]; rfl
theorem bagTx_cells {w : World} {g : Nat} {tv : Value} (h : w.heap[g]? = some (.cells (bagTx tv) 55 (0, 0))) : ∀ j, j < 21 → w.cell? ⟨g, j, none⟩ = (bagTx tv)[j]? := fun j _ => cell_of_row w g j _ _ _ h

set_option maxHeartbeats 400000 in
theorem addTexts_any (g : Nat) (iv : Value) (ps : List Value) (B : Nat) (pa : Option Addr) (pn pc : Nat) (w : World) (h : BagTx w g iv ps B) (hn : ps.length < 600) (hB : B ≤ w.heap.size) :
    Calls Tryz.prog 11 #[.pointer (some ⟨g, 0, none⟩), .slice pa pn pc] w fun e w' => e = .returned (.tuple #[]) ∧ ∃ v', BagTx w' g v' (ps ++ [.slice pa pn pc]) B ∧ Kept w w' (fun k => k = g ∨ iv.ownBlock = some k) ∧ NewRow w iv v' := by
  obtain ⟨i1, gi, gz0, gz1, gz2⟩ := info3B Tryz.infoSL
  have c0 := bagTx_c2 h.row
  have f0 := frozen_of_row w g 2 _ _ h.row
  have H : Hid (BagTx w g iv ps B) := h
  obtain ⟨ao, n, cap, hv⟩ : ∃ ao n cap, iv = .slice ao n cap ∧ n = ps.length := by
    rcases h.ts.2 with ⟨rfl, h0⟩ | ⟨g', c, cur, rfl, _⟩
    · exact ⟨none, 0, 0, rfl, h0.symm⟩
    · exact ⟨_, _, _, rfl, rfl⟩
  obtain ⟨rfl, rfl⟩ := hv
  have hgw : g < w.heap.size := lt_of_block h.row
  have hna := row_not h.ts h.row (by decide)
  have hk0 : Kept w (w.alloc (.cells #[.slice pa pn pc] 56)) (fun _ => False) := (Kept.refl w _).alloc _
  obtain ⟨v', w1, hr, hown, hgrow, hcase⟩ := app_row (P := Tryz.prog) B 35 35 56 i1 (.slice none 0 0) 1 24 Tryz.underlying35 gi gz0 gz1 gz2 rfl (by decide) _ _ _ (row_kept h.ts hk0 (fun _ _ h => h)) w.heap.size [.slice pa pn pc] rfl (heap_alloc_new _ _) (by simp [Value.oneCell']) (by omega) (by decide) (Nat.le_trans hB hk0.size)
  have hk1 : Kept w w1 (fun k => (Value.slice ao ps.length cap).ownBlock = some k) := (hk0.mono (fun _ _ h => h.elim)).trans ⟨hgrow.os, hgrow.tape, hgrow.output, hgrow.size, fun k hk hne => hgrow.block k hk (fun e => hne e.symm)⟩ (fun _ _ h => h)
  have hrow1 := hk1.heap h.row hna
  have hnew : NewRow w (.slice ao ps.length cap) v' := by
    rcases hcase with ⟨g2, cp, e1, rfl⟩ | ⟨e, _⟩
    · simp only [Value.slice.injEq] at e1
      exact .inl (by rw [e1.1]; rfl)
    · exact .inr ⟨_, e, by simp⟩
  have c1 := bagTx_c2 hrow1
  have f1 := frozen_of_row w1 g 2 _ _ hrow1
  obtain ⟨ao', n', cap', rfl⟩ := row_form hown
  have HR : Hid (BagTx (w1.setCell ⟨g, 2, none⟩ (.slice ao' n' cap')) g (.slice ao' n' cap') (ps ++ [.slice pa pn pc]) B ∧ Kept w (w1.setCell ⟨g, 2, none⟩ (.slice ao' n' cap')) (fun k => k = g ∨ (Value.slice ao ps.length cap).ownBlock = some k) ∧ NewRow w (.slice ao ps.length cap) (.slice ao' n' cap')) := by
    have hks : Kept w1 (w1.setCell ⟨g, 2, none⟩ (.slice ao' n' cap')) (fun k => k = g) := (Kept.refl w1 _).setCell _ _ (fun _ => rfl)
    have hmine : (w1.setCell ⟨g, 2, none⟩ (.slice ao' n' cap')).ownsRow B 56 1 (.slice ao' n' cap') (ps ++ [Value.slice pa pn pc]).length (ps ++ [.slice pa pn pc]) := by
      rw [List.length_append]
      exact row_kept hown hks (fun k hv e => by subst e; exact row_not hown hrow1 (by decide) hv)
    refine ⟨⟨?_, hmine⟩, (hk1.mono (fun _ _ h => .inr h)).trans hks (fun _ _ h => .inl h), hnew⟩
    rw [setCell_eq_setRow w1 g 2 _ _ _ _ hrow1, setRow_heap w1 g _ _ _ _ hrow1]; rfl
  clear h hna hk0 hown hgrow hcase hk1 hrow1 hnew
  go_enter Tryz.func11, Tryz.ntmps11
  go_wp2_with (at_builtin; refine Lib.wpList_append_run_sl _ rfl _ _ 35 rfl _ _ rfl rfl hr ?_)
  go_end0
  exact ⟨rfl, _, HR.out⟩

set_option maxHeartbeats 2000000 in
theorem bagApart_tx (g B : Nat) (tv : Value) (ps : List Rw) (Xp : Nat → List Value) (w : World) (h : BagTx w g tv (ps.map Rw.v) B) (hrp : RowsR w 9 1 ps Xp) (hap : ApartR ps) (hnp : ps.length ≤ 600) (hbp : ∀ j (hj : j < ps.length), ps[j].n ≤ 1100000000)
    (ht : Tab w) (hg0 : 1 < w.heap.size) (hgp : ¬ BlkR ps 1) :
    Calls Tryz.prog 15 #[.pointer (some ⟨g, 0, none⟩)] w fun e w' => e = .returned (.bool true) ∧ Kept w w' (BlkR ps) ∧ ∃ Xs, RowsR w' 9 1 ps Xs := by
  have cs := bagTx_cells h.row
  have H1 : Hid (SeesL w 56 tv ps) := seesL_own h.ts
  have H2 : Hid (∀ w1, Kept w w1 (BlkR ps) → w1.heap[g]? = some (.cells (bagTx tv) 55 (0, 0))) := fun w1 hk => hk.heap h.row (blkR_not hrp h.row (by decide))
  have H3 : Hid (RowsR w 9 1 ps Xp ∧ ApartR ps ∧ (∀ j (hj : j < ps.length), ps[j].n ≤ 1100000000) ∧ ¬ BlkR ps 1 ∧ Tab w) := ⟨hrp, hap, hbp, hgp, ht⟩
  have c0 : w.cell? ⟨g, 0, none⟩ = some nilB := cs 0 (by omega)
  have c1 : w.cell? ⟨g, 1, none⟩ = some nilB := cs 1 (by omega)
  have c2 : w.cell? ⟨g, 2, none⟩ = some tv := cs 2 (by omega)
  clear h cs hrp hap hbp hgp ht
  go_enter Tryz.func15, Tryz.ntmps15
  go_wp2_with fail
  refine (apartBytes_nil _).mono ?_
  rintro e w0 ⟨rfl, rfl⟩
  go_wp2_with fail
  refine (apartInts_nil _).mono ?_
  rintro e w0 ⟨rfl, rfl⟩
  go_wp2_with fail
  refine (apartTexts_any tv ps Xp _ H1.out H3.out.1 H3.out.2.1 hnp H3.out.2.2.1 H3.out.2.2.2.2 hg0 H3.out.2.2.2.1).mono ?_
  rintro e w2 ⟨rfl, hk2, hr2⟩
  have HE : Hid (Kept w0 w2 (BlkR ps) ∧ ∃ Xs, RowsR w2 9 1 ps Xs) := ⟨hk2, hr2⟩
  have cs := bagTx_cells (H2.out w2 hk2)
  have c3 : w2.cell? ⟨g, 3, none⟩ = some nilB := cs 3 (by omega)
  have c4 : w2.cell? ⟨g, 4, none⟩ = some nilB := cs 4 (by omega)
  have c5 : w2.cell? ⟨g, 5, none⟩ = some nilB := cs 5 (by omega)
  have c6 : w2.cell? ⟨g, 6, none⟩ = some nilB := cs 6 (by omega)
  have c7 : w2.cell? ⟨g, 7, none⟩ = some nilB := cs 7 (by omega)
  have c8 : w2.cell? ⟨g, 8, none⟩ = some nilB := cs 8 (by omega)
  have c9 : w2.cell? ⟨g, 9, none⟩ = some nilB := cs 9 (by omega)
  have c10 : w2.cell? ⟨g, 10, none⟩ = some nilB := cs 10 (by omega)
  have c11 : w2.cell? ⟨g, 11, none⟩ = some nilB := cs 11 (by omega)
  have c12 : w2.cell? ⟨g, 12, none⟩ = some nilB := cs 12 (by omega)
  have c13 : w2.cell? ⟨g, 13, none⟩ = some nilB := cs 13 (by omega)
  have c14 : w2.cell? ⟨g, 14, none⟩ = some nilB := cs 14 (by omega)
  have c15 : w2.cell? ⟨g, 15, none⟩ = some nilB := cs 15 (by omega)
  have c16 : w2.cell? ⟨g, 16, none⟩ = some nilB := cs 16 (by omega)
  have c17 : w2.cell? ⟨g, 17, none⟩ = some nilB := cs 17 (by omega)
  have c18 : w2.cell? ⟨g, 18, none⟩ = some nilB := cs 18 (by omega)
  have c19 : w2.cell? ⟨g, 19, none⟩ = some nilB := cs 19 (by omega)
  have c20 : w2.cell? ⟨g, 20, none⟩ = some nilB := cs 20 (by omega)
  clear cs hk2 hr2 c0 c1 c2
  go_wp2_with fail
  refine (apartPieces_nil _).mono ?_
  rintro e w3 ⟨rfl, rfl⟩
  go_wp2_with fail
  refine (apartIds_nil _).mono ?_
  rintro e w3 ⟨rfl, rfl⟩
  go_wp2_with fail
  refine (apartAcl_nil _).mono ?_
  rintro e w3 ⟨rfl, rfl⟩
  go_wp2_with fail
  refine (apartRequests_nil _).mono ?_
  rintro e w3 ⟨rfl, rfl⟩
  go_wp2_with fail
  refine (apartTxns_nil _).mono ?_
  rintro e w3 ⟨rfl, rfl⟩
  go_wp2_with fail
  refine (apartResults_nil _).mono ?_
  rintro e w3 ⟨rfl, rfl⟩
  go_wp2_with fail
  refine (apartNodes_nil _).mono ?_
  rintro e w3 ⟨rfl, rfl⟩
  go_wp2_with fail
  refine (apartSessions_nil _).mono ?_
  rintro e w3 ⟨rfl, rfl⟩
  go_wp2_with fail
  refine (apartChanges_nil _).mono ?_
  rintro e w3 ⟨rfl, rfl⟩
  go_wp2_with fail
  refine (apartFiles_nil _).mono ?_
  rintro e w3 ⟨rfl, rfl⟩
  go_wp2_with fail
  refine (apartPackets_nil _).mono ?_
  rintro e w3 ⟨rfl, rfl⟩
  go_wp2_with fail
  refine (apartMessages_nil _).mono ?_
  rintro e w3 ⟨rfl, rfl⟩
  go_wp2_with fail
  refine (apartWatches_nil _).mono ?_
  rintro e w3 ⟨rfl, rfl⟩
  go_wp2_with fail
  refine (apartFired_nil _).mono ?_
  rintro e w3 ⟨rfl, rfl⟩
  go_wp2_with fail
  refine (apartFacts_nil _).mono ?_
  rintro e w3 ⟨rfl, rfl⟩
  go_wp2_with fail
  refine (apartSends_nil _).mono ?_
  rintro e w3 ⟨rfl, rfl⟩
  go_wp2_with fail
  refine (apartEvents_nil _).mono ?_
  rintro e w3 ⟨rfl, rfl⟩
  go_wp2_with fail
  refine (apartFactss_nil _).mono ?_
  rintro e w3 ⟨rfl, rfl⟩
  go_wp2
  go_ret
  exact ⟨rfl, HE.out⟩

end Go.Proofs.YtbdokdhconhifaaGreatDoor

/- An append to a list that is grown, in its own room or in a new row: one law for the walk; no Go function is walked here. -/
namespace Go.Proofs.YtbdokdhconhifaaGreatDoor
open Go.RowKit
set_option maxRecDepth 8000

theorem ownsRow_mono {w : World} {b b' : Nat} {E : TypeId} {v : Value} {n : Nat} {xs : List Value} (h : w.ownsRow b E 1 v n xs) (hb : b' ≤ b) : w.ownsRow b' E 1 v n xs := by
  refine ⟨h.1, ?_⟩
  rcases h.2 with h | ⟨g, cap, cur, e, h1, h2⟩
  · exact .inl h
  · exact .inr ⟨g, cap, cur, e, by omega, h2⟩

theorem kept_grown {w w' : World} {row : Option Nat} {S : Nat → Prop} (h : w.grownBy w' row) (hr : ∀ k, row = some k → S k) : Kept w w' S :=
  ⟨h.os, h.tape, h.output, h.size, fun k hk hn => h.block k hk (fun e => hn (hr k e.symm))⟩

theorem has_more {w : World} {ao : Option Addr} {cap k off : Nat} {cs : Array Value} {E : TypeId} {xs : List Value} {y : Value} (h : (⟨ao, xs.length, cap⟩ : Pc).Has w xs) (ha : ao = some ⟨k, off, none⟩) (hr : w.heap[k]? = some (.cells cs E (0, 0))) (hsz : off + xs.length < cs.size) :
    (⟨ao, (xs ++ [y]).length, cap⟩ : Pc).Has (w.setCell ⟨k, off + xs.length, none⟩ y) (xs ++ [y]) := by
  refine ⟨rfl, .inr ⟨k, off, ha, fun i hi => ?_⟩⟩
  have hrow : (w.setCell ⟨k, off + xs.length, none⟩ y).heap[k]? = some (.cells (cs.setIfInBounds (off + xs.length) y) E (0, 0)) := by
    rw [setCell_eq_setRow w k _ cs E (0, 0) y hr]; exact setRow_heap w k cs _ E (0, 0) hr
  rw [cell_of_row _ k (off + i) _ _ _ hrow]
  by_cases e : i = xs.length
  · subst e
    rw [Array.getElem?_setIfInBounds_self_of_lt hsz]
    simp
  · have hi2 : i < xs.length := by rw [List.length_append] at hi; simp at hi; omega
    rw [Array.getElem?_setIfInBounds_ne (by omega), ← cell_of_row w k (off + i) cs E (0, 0) hr]
    rcases h.2 with h0 | ⟨k', off', e', h2⟩
    · rw [h0] at hi2; simp at hi2
    · have e2 : some (⟨k, off, none⟩ : Addr) = some ⟨k', off', none⟩ := ha.symm.trans e'
      simp at e2
      obtain ⟨rfl, rfl⟩ := e2
      rw [h2 i hi2, List.getElem_append_left hi2]

/-- The blocks whose elements are of type E. -/
def OfType (w : World) (E : TypeId) (k : Nat) : Prop := ∃ cs fr, w.heap[k]? = some (.cells cs E fr)

theorem wpList_more2 {P : Program} {wi wr : World} {ops : Array Oper} {rest : List Oper} {o : Oper} {a : Act} {Q : Exit → Act → World → Prop}
    (hgd : o.guard = none) (s x : Operand) (t : TypeId) (hop : o.op = Op.call { callee := Callee.builtin Builtin.append, args := #[s, x], argTypes := #[t, t] })
    (E : TypeId) (i : TypeInfo) (z : Value) (bytes : Nat) (ht : P.underlying t = some (.slice E)) (hi : P.info? E = some i) (hz : i.zero = some z) (hsize : i.size = 1) (hby : i.bytes = bytes) (hzs : z.cells.size = 1)
    (p : Pc) (m : Value) (xs : List Value) (hG : Grown wi wr E p m xs) (hl : Lies wi E p) (hm : a.eval s = m)
    (kx ox c : Nat) (y : Value) (hx : a.eval x = .slice (some ⟨kx, ox, none⟩) 1 c) (hc : wr.cell? ⟨kx, ox, none⟩ = some y) (h1 : y.oneCell' = true) (b1 : xs.length + 1 ≤ maxLen) (b2 : (xs.length + 1) * bytes ≤ 140737488355328)
    (hK : ∀ m' w', Grown wi w' E p m' (xs ++ [y]) → Kept wr w' (OfType wr E) → wpList P ops Q rest (a.put o.dst m') w') : wpList P ops Q (o :: rest) a wr := by
  have hlen : (xs ++ [y]).length = xs.length + 1 := by simp
  have hnews : ∀ j u, [y][j]? = some u → wr.cell? ((⟨kx, ox, none⟩ : Addr).add j) = some u := by
    intro j u hj
    cases j with
    | zero => simp at hj; subst hj; rw [Addr.add_lit]; exact hc
    | succ j => simp at hj
  have hone : ∀ u ∈ [y], u.oneCell' = true := by intro u hu; simp at hu; subst hu; exact h1
  obtain ⟨hT, hn, hcase⟩ := hG
  have hl' := hl.turned hT
  rcases hcase with ⟨rfl, hle, hhas⟩ | hown
  · by_cases hroom : xs.length + 1 ≤ p.cap
    · obtain ⟨k, off, cs, ha, hr, hsz⟩ := hl'.at' (by omega)
      have hk0 : ∀ j u, xs[j]? = some u → wr.cell? ⟨k, off + j, none⟩ = some u := by
        intro j u hj
        obtain ⟨hj1, hj2⟩ := List.getElem?_eq_some_iff.1 hj
        rcases hhas.2 with h0 | ⟨k', off', e', h2⟩
        · rw [h0] at hj1; simp at hj1
        · have e2 : some (⟨k, off, none⟩ : Addr) = some ⟨k', off', none⟩ := ha.symm.trans e'
          simp at e2
          obtain ⟨rfl, rfl⟩ := e2
          rw [h2 j hj1, hj2]
      refine wpList_append_arg wr hgd s x t hop E i z 1 bytes ht hi hz hsize hby hzs (by decide) k off xs.length p.cap xs (by rw [hm]; unfold Pc.val; rw [ha]) (by simp) hk0 ⟨kx, ox, none⟩ 1 c [y] hx (by simp) hnews hone (fun _ j hj => ?_) b1 b2 (fun _ => ?_) (fun hcap => by omega)
      · have hj0 : j = 0 := by simp at hj; omega
        subst hj0
        refine ⟨?_, frozen_of_row wr k _ cs E hr⟩
        rw [cell_of_row wr k _ cs E (0, 0) hr]
        simp only [Nat.mul_one, Nat.add_zero]
        rw [Array.getElem?_eq_getElem (by omega)]
        rfl
      · have e1 : (Value.slice (some ⟨k, off, none⟩) (xs.length + 1) p.cap) = (⟨p.ao, (xs ++ [y]).length, p.cap⟩ : Pc).val := by unfold Pc.val; rw [hlen, ha]
        have e2 : wr.setCells k (off + xs.length * 1) [y] = wr.setCell ⟨k, off + xs.length, none⟩ y := by rw [Nat.mul_one]; rfl
        rw [e1, e2]
        refine hK _ _ ⟨hT.setCell y (fun _ => ⟨off, ha, by omega, by omega⟩), by omega, .inl ⟨rfl, by omega, has_more hhas ha hr (by omega)⟩⟩ ((Kept.refl wr _).setCell _ _ (fun _ => ⟨cs, _, hr⟩))
    · refine wpList_append_grows wr hgd s x t hop E i z 1 bytes ht hi hz hsize hby hzs (by decide) p.ao xs.length p.cap xs (by rw [hm]; rfl) (fun e => ?_) (by simp) (fun b hb j u hj => ?_) ⟨kx, ox, none⟩ 1 c [y] hx (by simp) hnews hone (by omega) b1 b2 (fun v' w' h1 h2 => ?_)
      · have := hl.nil e; omega
      · obtain ⟨hj1, hj2⟩ := List.getElem?_eq_some_iff.1 hj
        rcases hhas.2 with h0 | ⟨k', off', e', h2⟩
        · rw [h0] at hj1; simp at hj1
        · have e2 : some b = some ⟨k', off', none⟩ := hb.symm.trans e'
          simp at e2
          subst e2
          rw [Addr.add_lit, h2 j hj1, hj2]
      · refine hK _ _ ⟨hT.new (kept_grown h2 (fun k e => by simp at e)), by omega, .inr ?_⟩ ?_
        · rw [hlen]
          exact ownsRow_mono h1 hT.size
        · exact kept_grown h2 (fun k e => by simp at e)
  · refine wpList_append_own_at wr hgd s x t hop wi.heap.size E i z 1 bytes ht hi hz hsize hby hzs (by decide) m xs.length xs hm hown ⟨kx, ox, none⟩ 1 c [y] hx (by simp) hnews hone b1 b2 hT.size (fun v' w' h1 h2 _ _ => ?_)
    refine hK _ _ ⟨hT.own (B := wi.heap.size) (Nat.le_refl _) (kept_grown h2 (fun k e => ?_)), by omega, .inr ?_⟩ ?_
    · rcases hown.2 with ⟨rfl, _⟩ | ⟨g, cap, cur, rfl, hb, _⟩
      · simp [Value.ownBlock] at e
      · simp [Value.ownBlock] at e; omega
    · rw [hlen]; exact h1
    · refine kept_grown h2 (fun k e => ?_)
      rcases hown.2 with ⟨rfl, _⟩ | ⟨g, cap, cur, rfl, hb, hg, _⟩
      · simp [Value.ownBlock] at e
      · simp [Value.ownBlock] at e
        subst e
        exact ⟨cur, _, hg⟩

theorem wpList_more {P : Program} {wi wr : World} {ops : Array Oper} {rest : List Oper} {o : Oper} {a : Act} {Q : Exit → Act → World → Prop}
    (hgd : o.guard = none) (s x : Operand) (t : TypeId) (hop : o.op = Op.call { callee := Callee.builtin Builtin.append, args := #[s, x], argTypes := #[t, t] })
    (E : TypeId) (i : TypeInfo) (z : Value) (bytes : Nat) (ht : P.underlying t = some (.slice E)) (hi : P.info? E = some i) (hz : i.zero = some z) (hsize : i.size = 1) (hby : i.bytes = bytes) (hzs : z.cells.size = 1)
    (p : Pc) (m : Value) (xs : List Value) (hG : Grown wi wr E p m xs) (hl : Lies wi E p) (hm : a.eval s = m)
    (kx ox c : Nat) (y : Value) (hx : a.eval x = .slice (some ⟨kx, ox, none⟩) 1 c) (hc : wr.cell? ⟨kx, ox, none⟩ = some y) (h1 : y.oneCell' = true) (b1 : xs.length + 1 ≤ maxLen) (b2 : (xs.length + 1) * bytes ≤ 140737488355328)
    (hK : ∀ m' w', Grown wi w' E p m' (xs ++ [y]) → wpList P ops Q rest (a.put o.dst m') w') : wpList P ops Q (o :: rest) a wr :=
  wpList_more2 hgd s x t hop E i z bytes ht hi hz hsize hby hzs p m xs hG hl hm kx ox c y hx hc h1 b1 b2 (fun m' w' h _ => hK m' w' h)

end Go.Proofs.YtbdokdhconhifaaGreatDoor

/- A list of lists that are grown one by one; no Go function is walked here. -/
namespace Go.Proofs.YtbdokdhconhifaaGreatDoor
open Go.RowKit
set_option maxRecDepth 8000

/-- A list of lists: its row is of type T. -/
def SeesPcs (w : World) (T : TypeId) (v : Value) (ps : List Pc) : Prop :=
  ∃ ao cap, v = .slice ao ps.length cap ∧ ps.length ≤ cap ∧ cap ≤ maxLen ∧ (ps = [] ∨ ∃ b off, ao = some ⟨b, off, none⟩ ∧ (∃ cs fr, w.heap[b]? = some (.cells cs T fr)) ∧ ∀ i (h : i < ps.length), w.cell? ⟨b, off + i, none⟩ = some ps[i].val)

/-- No two of the lists have room in common. -/
def ApartPcs (ps : List Pc) : Prop := ∀ i j (hi : i < ps.length) (hj : j < ps.length), i ≠ j → ∀ k x, ps[i].foot k x → ¬ ps[j].foot k x

/-- The room of all of them; their spare room. -/
def feet (ps : List Pc) (k x : Nat) : Prop := ∃ p ∈ ps, p.foot k x
def spares (ps : List Pc) (k x : Nat) : Prop := ∃ p ∈ ps, p.spare k x

theorem SeesPcs.turned {w w' : World} {T E : TypeId} {v : Value} {ps qs : List Pc} {S : Nat → Nat → Prop} (h : SeesPcs w T v ps) (ht : Turned w w' S) (hS : ∀ k x, S k x → feet qs k x) (hl : ∀ p ∈ qs, Lies w E p) (hTE : T ≠ E) : SeesPcs w' T v ps := by
  obtain ⟨ao, cap, rfl, h1, h2, h3⟩ := h
  refine ⟨ao, cap, rfl, h1, h2, ?_⟩
  rcases h3 with h3 | ⟨b, off, rfl, ⟨cs, fr, hr⟩, h4⟩
  · exact .inl h3
  · obtain ⟨cs', k1, _, _⟩ := ht.row b cs T fr hr
    refine .inr ⟨b, off, rfl, ⟨cs', fr, k1⟩, fun i hi => ht.cell (h4 i hi) (fun hs => ?_)⟩
    obtain ⟨p, hp, hf⟩ := hS _ _ hs
    obtain ⟨_, cs2, hr2⟩ := (hl p hp).foot_lt hf
    rw [hr] at hr2
    simp at hr2
    exact hTE hr2.2.1

/-- Behind i rounds: the lists qs, grown by so many, lie in the list mv. -/
structure Built (w wr : World) (E T : TypeId) (ps : List Pc) (m M : Nat → Value) (more : Nat) (i : Nat) (mv : Value) (qs : List Pc) : Prop where
  le : i ≤ ps.length
  len : qs.length = i
  own : wr.ownsRow w.heap.size T 1 mv i (qs.map Pc.val)
  turned : Turned w wr (spares ps)
  has : ∀ j (hq : j < qs.length) (hp : j < ps.length), qs[j].Has wr (List.replicate ps[j].n (m j) ++ List.replicate more (M j))
  lies : ∀ j (hq : j < qs.length), Lies wr E qs[j]
  place : ∀ j (hq : j < qs.length) (hp : j < ps.length) k x, qs[j].foot k x → ps[j].foot k x ∨ w.heap.size ≤ k

theorem Built.start (w : World) (E T : TypeId) (ps : List Pc) (m M : Nat → Value) (more : Nat) : Built w w E T ps m M more 0 (.slice none 0 0) [] :=
  ⟨Nat.zero_le _, rfl, World.ownsRow_nil _ _ _ _, Turned.refl _ _, fun j hq => by simp at hq, fun j hq => by simp at hq, fun j hq => by simp at hq⟩

/-- What a grown list is in the end. -/
theorem Grown.pc {wi wr : World} {E : TypeId} {p : Pc} {v : Value} {xs : List Value} (h : Grown wi wr E p v xs) (hl : Lies wi E p) : ∃ q : Pc, v = q.val ∧ q.Has wr xs ∧ Lies wr E q ∧ ∀ k x, q.foot k x → p.foot k x ∨ wi.heap.size ≤ k := by
  obtain ⟨hT, hn, h | h⟩ := h
  · obtain ⟨rfl, hle, hhas⟩ := h
    have hl' := hl.turned hT
    exact ⟨⟨p.ao, xs.length, p.cap⟩, rfl, hhas, ⟨hle, hl'.most, hl'.nil, hl'.at'⟩, fun k x hf => .inl hf⟩
  · obtain ⟨q, h1, h2, h3, h4, h5⟩ := own_has h
    exact ⟨q, h1, h3, h4, fun k x hf => .inr (h5 k x hf)⟩

theorem ownsRow_same {w w' : World} {base : Nat} {T : TypeId} {v : Value} {n : Nat} {xs : List Value} (h : w.ownsRow base T 1 v n xs) (hk : ∀ g o, w.heap[g]? = some o → base ≤ g → v.ownBlock = some g → w'.heap[g]? = w.heap[g]?) : w'.ownsRow base T 1 v n xs := by
  refine ⟨h.1, ?_⟩
  rcases h.2 with h | ⟨g, cap, cur, e, h1, h2, h3⟩
  · exact .inl h
  · exact .inr ⟨g, cap, cur, e, h1, by rw [hk g _ h2 h1 (by rw [e]; rfl)]; exact h2, h3⟩

section
variable {w wr w1 w2 w3 : World} {E T : TypeId} {ps qs : List Pc} {m M : Nat → Value} {more i : Nat} {mv v mv' : Value}

/-- Lists that lay apart from what the i-th round turns. -/
theorem Built.mid (h : Built w wr E T ps m M more i mv qs) (hl : ∀ p ∈ ps, Lies w E p) (hap : ApartPcs ps) (hi : i < ps.length) (ht : Turned wr w1 ps[i].spare) :
    Built w w1 E T ps m M more i mv qs := by
  have hsp : ∀ k x, ps[i].spare k x → k < w.heap.size := fun k x hs => ((hl ps[i] (List.getElem_mem hi)).foot_lt (Pc.spare_foot hs)).1
  refine ⟨h.le, h.len, ownsRow_same h.own (fun g o hg hb _ => ?_), h.turned.trans ht (fun k x _ hs => ⟨ps[i], List.getElem_mem hi, hs⟩), fun j hq hp => ?_, fun j hq => (h.lies j hq).turned ht, h.place⟩
  · exact ht.same g (lt_of_block hg) (fun x hs => by have := hsp g x hs; omega)
  · refine (h.has j hq hp).turned ht (fun k x hf => .inr fun hs => ?_) (h.lies j hq).le
    rcases h.place j hq hp k x hf with hf' | hk
    · exact hap j i hp hi (by have := h.len; omega) k x hf' (Pc.spare_foot hs)
    · have := hsp k x hs; omega

/-- A list that lies apart from a row of another type. -/
theorem has_far {q : Pc} {xs : List Value} {g : Nat} {cs : Array Value} {fr : Nat × Nat} (h : q.Has w1 xs) (hl : Lies w1 E q) (hk : Kept w1 w2 (fun k => k = g)) (hr : g < w1.heap.size → w1.heap[g]? = some (.cells cs T fr)) (hTE : T ≠ E) : q.Has w2 xs ∧ Lies w2 E q := by
  have hne : ∀ k o, w1.heap[k]? = some o → (∃ cs, o = .cells cs E (0, 0)) → k ≠ g := by
    intro k o ho hE e
    subst e
    have := hr (lt_of_block ho)
    obtain ⟨cs', rfl⟩ := hE
    rw [this] at ho
    simp at ho
    exact hTE ho.2.1
  refine ⟨⟨h.1, ?_⟩, hl.le, hl.most, hl.nil, fun h0 => ?_⟩
  · rcases h.2 with h0 | ⟨k, off, h1, h2⟩
    · exact .inl h0
    · refine .inr ⟨k, off, h1, fun j hj => hk.cell (h2 j hj) (fun e => ?_)⟩
      have hlen := h.1
      have := hl.le
      obtain ⟨k', off', cs', e1, e2, _⟩ := hl.at' (by omega)
      rw [h1] at e1
      simp at e1
      obtain ⟨rfl, rfl⟩ := e1
      exact hne k _ e2 ⟨_, rfl⟩ e
  · obtain ⟨k, off, cs', e1, e2, e3⟩ := hl.at' h0
    exact ⟨k, off, cs', e1, hk.heap e2 (hne k _ e2 ⟨_, rfl⟩), e3⟩

theorem Built.kept (h : Built w wr E T ps m M more i mv qs) (hk : Kept wr w1 (fun _ => False)) : Built w w1 E T ps m M more i mv qs :=
  ⟨h.le, h.len, ownsRow_same h.own (fun g _ hg _ _ => hk.block g (lt_of_block hg) (fun h => h)), h.turned.new hk, fun j hq hp => (h.has j hq hp).kept hk, fun j hq => (h.lies j hq).turned (Turned.of_kept hk (fun _ _ => False)), h.place⟩

theorem Built.step (h : Built w w1 E T ps m M more i mv qs) (hTE : T ≠ E) (hi : i < ps.length) {q : Pc} (hq : q.Has w1 (List.replicate ps[i].n (m i) ++ List.replicate more (M i))) (hlq : Lies w1 E q) (hpl : ∀ k x, q.foot k x → ps[i].foot k x ∨ w.heap.size ≤ k)
    (hown : w2.ownsRow w.heap.size T 1 mv' (i + 1) (qs.map Pc.val ++ [q.val])) (hg : w1.grownBy w2 mv.ownBlock) : Built w w2 E T ps m M more (i + 1) mv' (qs ++ [q]) := by
  have hfar : ∀ (r : Pc) (xs : List Value), r.Has w1 xs → Lies w1 E r → r.Has w2 xs ∧ Lies w2 E r := by
    intro r xs h1 h2
    cases hmv : mv.ownBlock with
    | none =>
      have hk : Kept w1 w2 (fun _ => False) := kept_grown hg (fun k e => by rw [hmv] at e; simp at e)
      exact ⟨h1.kept hk, h2.turned (Turned.of_kept hk (fun _ _ => False))⟩
    | some g =>
      rcases h.own.2 with ⟨e, _⟩ | ⟨g', cap, cur, e, hb, hr, _⟩
      · rw [e] at hmv; simp [Value.ownBlock] at hmv
      · rw [e] at hmv
        simp [Value.ownBlock] at hmv
        subst hmv
        refine has_far (g := g') h1 h2 (kept_grown hg (fun k e' => ?_)) (fun _ => hr) hTE
        rw [e] at e'
        simp [Value.ownBlock] at e'
        exact e'.symm
  refine ⟨hi, by simp [h.len], by rw [List.map_append]; exact hown, ?_, fun j hj hp => ?_, fun j hj => ?_, fun j hj hp k x hf => ?_⟩
  · refine h.turned.own (B := w.heap.size) (Nat.le_refl _) (kept_grown hg (fun k e => ?_))
    rcases h.own.2 with ⟨e', _⟩ | ⟨g', cap, cur, e', hb, _⟩
    · rw [e'] at e; simp [Value.ownBlock] at e
    · rw [e'] at e; simp [Value.ownBlock] at e; omega
  · by_cases hj' : j < qs.length
    · rw [List.getElem_append_left hj']
      exact (hfar _ _ (h.has j hj' hp) (h.lies j hj')).1
    · have e : j = i := by rw [List.length_append] at hj; have := h.len; simp at hj; omega
      subst e
      rw [List.getElem_append_right (by omega)]
      simp only [h.len, Nat.sub_self, List.getElem_cons_zero]
      exact (hfar _ _ hq hlq).1
  · by_cases hj' : j < qs.length
    · rw [List.getElem_append_left hj']
      by_cases hp : j < ps.length
      · exact (hfar _ _ (h.has j hj' hp) (h.lies j hj')).2
      · have := h.len; have := h.le; omega
    · have e : j = i := by rw [List.length_append] at hj; have := h.len; simp at hj; omega
      subst e
      rw [List.getElem_append_right (by omega)]
      simp only [h.len, Nat.sub_self, List.getElem_cons_zero]
      exact (hfar _ _ hq hlq).2
  · by_cases hj' : j < qs.length
    · rw [List.getElem_append_left hj'] at hf
      exact h.place j hj' hp k x hf
    · have e : j = i := by rw [List.length_append] at hj; have := h.len; simp at hj; omega
      subst e
      rw [List.getElem_append_right (by omega)] at hf
      simp only [h.len, Nat.sub_self, List.getElem_cons_zero] at hf
      exact hpl k x hf

end
end Go.Proofs.YtbdokdhconhifaaGreatDoor
