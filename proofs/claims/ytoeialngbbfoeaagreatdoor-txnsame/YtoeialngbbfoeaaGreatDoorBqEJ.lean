/- The statements' Bag: Apart, where it holds lists of bytes, ids, entries, requests and transactions. -/
import Derived.Test.YtoeialngbbfoeaaGreatDoorBqCJ
import Derived.Test.YtoeialngbbfoeaaGreatDoorBgFrJ
import Derived.Test.YtoeialngbbfoeaaGreatDoorApartJ
import Derived.Test.YtoeialngbbfoeaaGreatDoorApartNilJ
import Derived.Test.YtoeialngbbfoeaaGreatDoorApartNil2J
namespace Go.Proofs.YtoeialngbbfoeaaGreatDoor
open Go.RowKit Go.Shelf
set_option maxRecDepth 8000
set_option linter.unusedVariables false
set_option linter.unusedSimpArgs false

theorem seesL_ownQ {w : World} {B : Nat} {T1 : TypeId} {lv : Value} {vs : List Value} (h : w.ownsRow B T1 1 lv vs.length vs) : SeesL w T1 lv (vs.map rwQ) := by
  obtain ⟨hl, ⟨rfl, h0⟩ | ⟨g, cap, cur, rfl, a2, a3, a4, a5, a6, a7⟩⟩ := h
  · have e : vs = [] := List.length_eq_zero_iff.mp h0
    subst e
    exact ⟨none, 0, rfl, Nat.le_refl _, fun h => absurd rfl h⟩
  · refine ⟨some ⟨g, 0, none⟩, cap, by rw [List.length_map], by rw [List.length_map]; exact a4, fun _ => ⟨g, 0, rfl, ⟨cur, (0, 0), a3⟩, fun j hj => ?_⟩⟩
    rw [List.length_map] at hj
    rw [cell_of_row w g _ _ _ _ a3, Nat.zero_add, ← Array.getElem?_toList, List.getElem_map, rwQ_v]
    have e : (cur.toList.take (vs.length * 1))[j]? = some vs[j] := by rw [a7]; simp [hj]
    rw [List.getElem?_take] at e
    split at e
    · exact e
    · cases e

theorem sees_ownQ {w : World} {B : Nat} {T : TypeId} {v : Value} {vs : List Value} {ps : List Pc} (h : w.ownsRow B T 1 v vs.length vs) (hp : ps.map Pc.val = vs) : SeesPcs w T v ps := by
  subst hp
  rw [List.length_map] at h
  rcases h.2 with ⟨rfl, h0⟩ | ⟨g, cap, cur, rfl, _, hr, h1, h2, h3, h4⟩
  · have e : ps = [] := List.eq_nil_of_length_eq_zero h0
    subst e
    exact ⟨none, 0, rfl, Nat.le_refl _, Nat.zero_le _, .inl rfl⟩
  · refine ⟨_, cap, rfl, h1, h2, .inr ⟨g, 0, rfl, ⟨cur, _, hr⟩, fun i hi => ?_⟩⟩
    rw [Nat.zero_add, cell_of_row w g i cur _ _ hr, ← Array.getElem?_toList]
    have e2 : (cur.toList.take (ps.length * 1))[i]? = some (Pc.val ps[i]) := by rw [h4, List.getElem?_map, List.getElem?_eq_getElem hi]; rfl
    rw [List.getElem?_take, if_pos (by omega)] at e2
    exact e2

/-- What stands while Apart runs. -/
structure StQ (w W : World) (g B lo hi : Nat) (V : QV) (L : QL) : Prop where
  bag : BagQ W g V L B
  lies : LiesQ W lo hi L
  tab : Tab W
  pow : 1 < W.heap.size
  kept : Kept w W (fun k => lo ≤ k ∧ k < hi)

theorem StQ.row_ne {W : World} {E T : TypeId} {g : Nat} {cs : Array Value} {k : Nat} {cs' : Array Value} {fr fr' : Nat × Nat} (h : W.heap[g]? = some (.cells cs T fr)) (hk : W.heap[k]? = some (.cells cs' E fr')) (hTE : T ≠ E) : k ≠ g := fun e => by
  subst e
  rw [h] at hk
  simp at hk
  exact hTE hk.2.1

theorem StQ.turn_b {w W W' : World} {g B lo hi : Nat} {V : QV} {L : QL} {S : Nat → Prop} (h : StQ w W g B lo hi V L) (hlo : 1 < lo) (hk : Kept W W' S) (hS : ∀ k, S k → lo ≤ k ∧ k < hi ∧ ∃ cs, W.heap[k]? = some (.cells cs 5 (0, 0))) (hr : RowsIn W' lo hi 5 1 L.b) : StQ w W' g B lo hi V L := by
  have hty : ∀ k, k < W.heap.size → S k → ∃ cs, W.heap[k]? = some (.cells cs 5 (0, 0)) := fun k _ e => (hS k e).2.2
  refine ⟨h.bag.kept hk (fun e => ?_) (fun k e e' => ?_), ⟨hr, h.lies.i.other hk hty (by decide), h.lies.a.other hk hty (by decide), h.lies.r.other hk hty (by decide), h.lies.t.other hk hty (by decide)⟩, tab_same h.tab (hk.block _ h.pow (fun e => ?_)), Nat.lt_of_lt_of_le h.pow hk.size, h.kept.trans hk (fun k _ e => ⟨(hS k e).1, (hS k e).2.1⟩)⟩
  · obtain ⟨cs, e2⟩ := (hS g e).2.2
    exact StQ.row_ne h.bag.row e2 (by decide) rfl
  · obtain ⟨cs, e2⟩ := (hS k e').2.2
    rcases e with e | e | e | e | e
    · obtain ⟨cs2, e3⟩ := row_type h.bag.b e
      exact StQ.row_ne e3 e2 (by decide) rfl
    · obtain ⟨cs2, e3⟩ := row_type h.bag.i e
      exact StQ.row_ne e3 e2 (by decide) rfl
    · obtain ⟨cs2, e3⟩ := row_type h.bag.a e
      exact StQ.row_ne e3 e2 (by decide) rfl
    · obtain ⟨cs2, e3⟩ := row_type h.bag.r e
      exact StQ.row_ne e3 e2 (by decide) rfl
    · obtain ⟨cs2, e3⟩ := row_type h.bag.t e
      exact StQ.row_ne e3 e2 (by decide) rfl
  · have := (hS _ e).1; omega

theorem StQ.turn_i {w W W' : World} {g B lo hi : Nat} {V : QV} {L : QL} {S : Nat → Prop} (h : StQ w W g B lo hi V L) (hlo : 1 < lo) (hk : Kept W W' S) (hS : ∀ k, S k → lo ≤ k ∧ k < hi ∧ ∃ cs, W.heap[k]? = some (.cells cs 103 (0, 0))) (hr : RowsIn W' lo hi 103 2 L.i) : StQ w W' g B lo hi V L := by
  have hty : ∀ k, k < W.heap.size → S k → ∃ cs, W.heap[k]? = some (.cells cs 103 (0, 0)) := fun k _ e => (hS k e).2.2
  refine ⟨h.bag.kept hk (fun e => ?_) (fun k e e' => ?_), ⟨h.lies.b.other hk hty (by decide), hr, h.lies.a.other hk hty (by decide), h.lies.r.other hk hty (by decide), h.lies.t.other hk hty (by decide)⟩, tab_same h.tab (hk.block _ h.pow (fun e => ?_)), Nat.lt_of_lt_of_le h.pow hk.size, h.kept.trans hk (fun k _ e => ⟨(hS k e).1, (hS k e).2.1⟩)⟩
  · obtain ⟨cs, e2⟩ := (hS g e).2.2
    exact StQ.row_ne h.bag.row e2 (by decide) rfl
  · obtain ⟨cs, e2⟩ := (hS k e').2.2
    rcases e with e | e | e | e | e
    · obtain ⟨cs2, e3⟩ := row_type h.bag.b e
      exact StQ.row_ne e3 e2 (by decide) rfl
    · obtain ⟨cs2, e3⟩ := row_type h.bag.i e
      exact StQ.row_ne e3 e2 (by decide) rfl
    · obtain ⟨cs2, e3⟩ := row_type h.bag.a e
      exact StQ.row_ne e3 e2 (by decide) rfl
    · obtain ⟨cs2, e3⟩ := row_type h.bag.r e
      exact StQ.row_ne e3 e2 (by decide) rfl
    · obtain ⟨cs2, e3⟩ := row_type h.bag.t e
      exact StQ.row_ne e3 e2 (by decide) rfl
  · have := (hS _ e).1; omega

theorem StQ.turn_a {w W W' : World} {g B lo hi : Nat} {V : QV} {L : QL} {S : Nat → Prop} (h : StQ w W g B lo hi V L) (hlo : 1 < lo) (hk : Kept W W' S) (hS : ∀ k, S k → lo ≤ k ∧ k < hi ∧ ∃ cs, W.heap[k]? = some (.cells cs 105 (0, 0))) (hr : RowsIn W' lo hi 105 3 L.a) : StQ w W' g B lo hi V L := by
  have hty : ∀ k, k < W.heap.size → S k → ∃ cs, W.heap[k]? = some (.cells cs 105 (0, 0)) := fun k _ e => (hS k e).2.2
  refine ⟨h.bag.kept hk (fun e => ?_) (fun k e e' => ?_), ⟨h.lies.b.other hk hty (by decide), h.lies.i.other hk hty (by decide), hr, h.lies.r.other hk hty (by decide), h.lies.t.other hk hty (by decide)⟩, tab_same h.tab (hk.block _ h.pow (fun e => ?_)), Nat.lt_of_lt_of_le h.pow hk.size, h.kept.trans hk (fun k _ e => ⟨(hS k e).1, (hS k e).2.1⟩)⟩
  · obtain ⟨cs, e2⟩ := (hS g e).2.2
    exact StQ.row_ne h.bag.row e2 (by decide) rfl
  · obtain ⟨cs, e2⟩ := (hS k e').2.2
    rcases e with e | e | e | e | e
    · obtain ⟨cs2, e3⟩ := row_type h.bag.b e
      exact StQ.row_ne e3 e2 (by decide) rfl
    · obtain ⟨cs2, e3⟩ := row_type h.bag.i e
      exact StQ.row_ne e3 e2 (by decide) rfl
    · obtain ⟨cs2, e3⟩ := row_type h.bag.a e
      exact StQ.row_ne e3 e2 (by decide) rfl
    · obtain ⟨cs2, e3⟩ := row_type h.bag.r e
      exact StQ.row_ne e3 e2 (by decide) rfl
    · obtain ⟨cs2, e3⟩ := row_type h.bag.t e
      exact StQ.row_ne e3 e2 (by decide) rfl
  · have := (hS _ e).1; omega

theorem StQ.turn_r {w W W' : World} {g B lo hi : Nat} {V : QV} {L : QL} {S : Nat → Prop} (h : StQ w W g B lo hi V L) (hlo : 1 < lo) (hk : Kept W W' S) (hS : ∀ k, S k → lo ≤ k ∧ k < hi ∧ ∃ cs, W.heap[k]? = some (.cells cs 33 (0, 0))) (hr : RowsIn W' lo hi 33 11 L.r) : StQ w W' g B lo hi V L := by
  have hty : ∀ k, k < W.heap.size → S k → ∃ cs, W.heap[k]? = some (.cells cs 33 (0, 0)) := fun k _ e => (hS k e).2.2
  refine ⟨h.bag.kept hk (fun e => ?_) (fun k e e' => ?_), ⟨h.lies.b.other hk hty (by decide), h.lies.i.other hk hty (by decide), h.lies.a.other hk hty (by decide), hr, h.lies.t.other hk hty (by decide)⟩, tab_same h.tab (hk.block _ h.pow (fun e => ?_)), Nat.lt_of_lt_of_le h.pow hk.size, h.kept.trans hk (fun k _ e => ⟨(hS k e).1, (hS k e).2.1⟩)⟩
  · obtain ⟨cs, e2⟩ := (hS g e).2.2
    exact StQ.row_ne h.bag.row e2 (by decide) rfl
  · obtain ⟨cs, e2⟩ := (hS k e').2.2
    rcases e with e | e | e | e | e
    · obtain ⟨cs2, e3⟩ := row_type h.bag.b e
      exact StQ.row_ne e3 e2 (by decide) rfl
    · obtain ⟨cs2, e3⟩ := row_type h.bag.i e
      exact StQ.row_ne e3 e2 (by decide) rfl
    · obtain ⟨cs2, e3⟩ := row_type h.bag.a e
      exact StQ.row_ne e3 e2 (by decide) rfl
    · obtain ⟨cs2, e3⟩ := row_type h.bag.r e
      exact StQ.row_ne e3 e2 (by decide) rfl
    · obtain ⟨cs2, e3⟩ := row_type h.bag.t e
      exact StQ.row_ne e3 e2 (by decide) rfl
  · have := (hS _ e).1; omega

theorem StQ.turn_t {w W W' : World} {g B lo hi : Nat} {V : QV} {L : QL} {S : Nat → Prop} (h : StQ w W g B lo hi V L) (hlo : 1 < lo) (hk : Kept W W' S) (hS : ∀ k, S k → lo ≤ k ∧ k < hi ∧ ∃ cs, W.heap[k]? = some (.cells cs 35 (0, 0))) (hr : RowsIn W' lo hi 35 16 L.t) : StQ w W' g B lo hi V L := by
  have hty : ∀ k, k < W.heap.size → S k → ∃ cs, W.heap[k]? = some (.cells cs 35 (0, 0)) := fun k _ e => (hS k e).2.2
  refine ⟨h.bag.kept hk (fun e => ?_) (fun k e e' => ?_), ⟨h.lies.b.other hk hty (by decide), h.lies.i.other hk hty (by decide), h.lies.a.other hk hty (by decide), h.lies.r.other hk hty (by decide), hr⟩, tab_same h.tab (hk.block _ h.pow (fun e => ?_)), Nat.lt_of_lt_of_le h.pow hk.size, h.kept.trans hk (fun k _ e => ⟨(hS k e).1, (hS k e).2.1⟩)⟩
  · obtain ⟨cs, e2⟩ := (hS g e).2.2
    exact StQ.row_ne h.bag.row e2 (by decide) rfl
  · obtain ⟨cs, e2⟩ := (hS k e').2.2
    rcases e with e | e | e | e | e
    · obtain ⟨cs2, e3⟩ := row_type h.bag.b e
      exact StQ.row_ne e3 e2 (by decide) rfl
    · obtain ⟨cs2, e3⟩ := row_type h.bag.i e
      exact StQ.row_ne e3 e2 (by decide) rfl
    · obtain ⟨cs2, e3⟩ := row_type h.bag.a e
      exact StQ.row_ne e3 e2 (by decide) rfl
    · obtain ⟨cs2, e3⟩ := row_type h.bag.r e
      exact StQ.row_ne e3 e2 (by decide) rfl
    · obtain ⟨cs2, e3⟩ := row_type h.bag.t e
      exact StQ.row_ne e3 e2 (by decide) rfl
  · have := (hS _ e).1; omega

set_option maxHeartbeats 2000000 in
theorem bagApart_q (g B lo hi : Nat) (V : QV) (L : QL) (w : World) (h : BagQ w g V L B) (hl : LiesQ w lo hi L) (hb : L.b.length ≤ 600) (hi' : L.i.length ≤ 600) (ha : L.a.length ≤ 600) (hr : L.r.length ≤ 600) (ht : L.t.length ≤ 600)
    (htab : Tab w) (hg0 : 1 < w.heap.size) (hlo : 1 < lo) :
    Calls Tryz.prog 12 #[.pointer (some ⟨g, 0, none⟩)] w fun e w' => e = .returned (.bool true) ∧ StQ w w' g B lo hi V L := by
  have H0 : Hid (StQ w w g B lo hi V L) := ⟨h, hl, htab, hg0, Kept.refl _ _⟩
  have HL : Hid (1 < lo) := hlo
  clear h hl htab hg0 hlo
  obtain ⟨vb, vi, va, vr, vt⟩ := V
  have hfm : ∀ {l : List Value}, l.length ≤ 600 → (l.map rwQ).length ≤ 600 := fun h => by rw [List.length_map]; exact h
  have hfp : (L.b.map pcQ).length ≤ 600 := by rw [List.length_map]; exact hb
  have csw := bagQ_cells H0.out.bag.row
  have c0 : w.cell? ⟨g, 0, none⟩ = some vb := by rw [csw 0 (by omega)]; rfl
  have hglw := lt_of_block H0.out.bag.row
  clear csw
  go_enter Tryz.func12, Tryz.ntmps12
  go_wp2_with fail
  refine (apartBytes_any vb (L.b.map pcQ) _ (sees_ownQ H0.out.bag.b (pcQ_map H0.out.lies.b)) H0.out.lies.b.lies H0.out.lies.b.pcsApart hfp H0.out.lies.b.pcsShort).mono ?_
  rintro e w1 ⟨rfl, hT1⟩
  have H1 : Hid (StQ w w1 g B lo hi ⟨vb, vi, va, vr, vt⟩ L) := H0.out.turn_b HL.out (turned_keptQ hT1) (fun k ⟨x, hf⟩ => by
    obtain ⟨e1, e2, _, e3⟩ := H0.out.lies.b.feet hf
    exact ⟨e1, e2, e3⟩) (H0.out.lies.b.turned hT1)
  clear hT1 c0 hglw H0
  have csw1 := bagQ_cells H1.out.bag.row
  have c1 : w1.cell? ⟨g, 1, none⟩ = some nilQ := by rw [csw1 1 (by omega)]; rfl
  have c2 : w1.cell? ⟨g, 2, none⟩ = some nilQ := by rw [csw1 2 (by omega)]; rfl
  have c3 : w1.cell? ⟨g, 3, none⟩ = some nilQ := by rw [csw1 3 (by omega)]; rfl
  have c4 : w1.cell? ⟨g, 4, none⟩ = some vi := by rw [csw1 4 (by omega)]; rfl
  have hglw1 := lt_of_block H1.out.bag.row
  clear csw1
  go_wp2_with fail
  refine (apartInts_nil _).mono ?_
  rintro e w9 ⟨rfl, rfl⟩
  go_wp2_with fail
  refine (apartTexts_nil _).mono ?_
  rintro e w9 ⟨rfl, rfl⟩
  go_wp2_with fail
  refine (apartPieces_nil _).mono ?_
  rintro e w9 ⟨rfl, rfl⟩
  go_wp2_with fail
  obtain ⟨Xs, hXs⟩ := H1.out.lies.i.rows
  refine (apartIds_rows vi (L.i.map rwQ) Xs _ (seesL_ownQ H1.out.bag.i) hXs H1.out.lies.i.apart (hfm hi') H1.out.lies.i.short H1.out.tab H1.out.pow (fun e => by have := (H1.out.lies.i.blkR e).1; have := HL.out; omega)).mono ?_
  rintro e w2 ⟨rfl, hk2, Ys, hY⟩
  have H2 : Hid (StQ w w2 g B lo hi ⟨vb, vi, va, vr, vt⟩ L) := H1.out.turn_i HL.out hk2 (fun k e => by
    obtain ⟨e1, e2, _, e3⟩ := H1.out.lies.i.blkR e
    exact ⟨e1, e2, e3⟩) (H1.out.lies.i.again hY)
  clear hk2 hY hXs c1 c2 c3 c4 hglw1 H1
  have csw2 := bagQ_cells H2.out.bag.row
  have c5 : w2.cell? ⟨g, 5, none⟩ = some va := by rw [csw2 5 (by omega)]; rfl
  have hglw2 := lt_of_block H2.out.bag.row
  clear csw2
  go_wp2_with fail
  obtain ⟨Xs, hXs⟩ := H2.out.lies.a.rows
  refine (apartAcl_rows va (L.a.map rwQ) Xs _ (seesL_ownQ H2.out.bag.a) hXs H2.out.lies.a.apart (hfm ha) H2.out.lies.a.short H2.out.tab H2.out.pow (fun e => by have := (H2.out.lies.a.blkR e).1; have := HL.out; omega)).mono ?_
  rintro e w3 ⟨rfl, hk3, Ys, hY⟩
  have H3 : Hid (StQ w w3 g B lo hi ⟨vb, vi, va, vr, vt⟩ L) := H2.out.turn_a HL.out hk3 (fun k e => by
    obtain ⟨e1, e2, _, e3⟩ := H2.out.lies.a.blkR e
    exact ⟨e1, e2, e3⟩) (H2.out.lies.a.again hY)
  clear hk3 hY hXs c5 hglw2 H2
  have csw3 := bagQ_cells H3.out.bag.row
  have c6 : w3.cell? ⟨g, 6, none⟩ = some vr := by rw [csw3 6 (by omega)]; rfl
  have hglw3 := lt_of_block H3.out.bag.row
  clear csw3
  go_wp2_with fail
  obtain ⟨Xs, hXs⟩ := H3.out.lies.r.rows
  refine (apartRequests_any vr (L.r.map rwQ) Xs _ (seesL_ownQ H3.out.bag.r) hXs H3.out.lies.r.apart (hfm hr) H3.out.lies.r.short).mono ?_
  rintro e w4 ⟨rfl, hk4, Ys, hY⟩
  have H4 : Hid (StQ w w4 g B lo hi ⟨vb, vi, va, vr, vt⟩ L) := H3.out.turn_r HL.out hk4 (fun k e => by
    obtain ⟨e1, e2, _, e3⟩ := H3.out.lies.r.blkR e
    exact ⟨e1, e2, e3⟩) (H3.out.lies.r.again hY)
  clear hk4 hY hXs c6 hglw3 H3
  have csw4 := bagQ_cells H4.out.bag.row
  have c7 : w4.cell? ⟨g, 7, none⟩ = some vt := by rw [csw4 7 (by omega)]; rfl
  have hglw4 := lt_of_block H4.out.bag.row
  clear csw4
  go_wp2_with fail
  obtain ⟨Xs, hXs⟩ := H4.out.lies.t.rows
  refine (apartTxns_any vt (L.t.map rwQ) Xs _ (seesL_ownQ H4.out.bag.t) hXs H4.out.lies.t.apart (hfm ht) H4.out.lies.t.short).mono ?_
  rintro e w5 ⟨rfl, hk5, Ys, hY⟩
  have H5 : Hid (StQ w w5 g B lo hi ⟨vb, vi, va, vr, vt⟩ L) := H4.out.turn_t HL.out hk5 (fun k e => by
    obtain ⟨e1, e2, _, e3⟩ := H4.out.lies.t.blkR e
    exact ⟨e1, e2, e3⟩) (H4.out.lies.t.again hY)
  clear hk5 hY hXs c7 hglw4 H4
  have csw5 := bagQ_cells H5.out.bag.row
  have c8 : w5.cell? ⟨g, 8, none⟩ = some nilQ := by rw [csw5 8 (by omega)]; rfl
  have c9 : w5.cell? ⟨g, 9, none⟩ = some nilQ := by rw [csw5 9 (by omega)]; rfl
  have c10 : w5.cell? ⟨g, 10, none⟩ = some nilQ := by rw [csw5 10 (by omega)]; rfl
  have c11 : w5.cell? ⟨g, 11, none⟩ = some nilQ := by rw [csw5 11 (by omega)]; rfl
  have c12 : w5.cell? ⟨g, 12, none⟩ = some nilQ := by rw [csw5 12 (by omega)]; rfl
  have c13 : w5.cell? ⟨g, 13, none⟩ = some nilQ := by rw [csw5 13 (by omega)]; rfl
  have c14 : w5.cell? ⟨g, 14, none⟩ = some nilQ := by rw [csw5 14 (by omega)]; rfl
  have c15 : w5.cell? ⟨g, 15, none⟩ = some nilQ := by rw [csw5 15 (by omega)]; rfl
  have c16 : w5.cell? ⟨g, 16, none⟩ = some nilQ := by rw [csw5 16 (by omega)]; rfl
  have c17 : w5.cell? ⟨g, 17, none⟩ = some nilQ := by rw [csw5 17 (by omega)]; rfl
  have c18 : w5.cell? ⟨g, 18, none⟩ = some nilQ := by rw [csw5 18 (by omega)]; rfl
  have c19 : w5.cell? ⟨g, 19, none⟩ = some nilQ := by rw [csw5 19 (by omega)]; rfl
  have c20 : w5.cell? ⟨g, 20, none⟩ = some nilQ := by rw [csw5 20 (by omega)]; rfl
  have hglw5 := lt_of_block H5.out.bag.row
  clear csw5
  go_wp2_with fail
  refine (apartResults_nil _).mono ?_
  rintro e w9 ⟨rfl, rfl⟩
  go_wp2_with fail
  refine (apartNodes_nil _).mono ?_
  rintro e w9 ⟨rfl, rfl⟩
  go_wp2_with fail
  refine (apartSessions_nil _).mono ?_
  rintro e w9 ⟨rfl, rfl⟩
  go_wp2_with fail
  refine (apartChanges_nil _).mono ?_
  rintro e w9 ⟨rfl, rfl⟩
  go_wp2_with fail
  refine (apartFiles_nil _).mono ?_
  rintro e w9 ⟨rfl, rfl⟩
  go_wp2_with fail
  refine (apartPackets_nil _).mono ?_
  rintro e w9 ⟨rfl, rfl⟩
  go_wp2_with fail
  refine (apartMessages_nil _).mono ?_
  rintro e w9 ⟨rfl, rfl⟩
  go_wp2_with fail
  refine (apartWatches_nil _).mono ?_
  rintro e w9 ⟨rfl, rfl⟩
  go_wp2_with fail
  refine (apartFired_nil _).mono ?_
  rintro e w9 ⟨rfl, rfl⟩
  go_wp2_with fail
  refine (apartFacts_nil _).mono ?_
  rintro e w9 ⟨rfl, rfl⟩
  go_wp2_with fail
  refine (apartSends_nil _).mono ?_
  rintro e w9 ⟨rfl, rfl⟩
  go_wp2_with fail
  refine (apartEvents_nil _).mono ?_
  rintro e w9 ⟨rfl, rfl⟩
  go_wp2_with fail
  refine (apartFactss_nil _).mono ?_
  rintro e w9 ⟨rfl, rfl⟩
  go_wp2
  go_ret
  exact ⟨rfl, H5.out⟩

end Go.Proofs.YtoeialngbbfoeaaGreatDoor
