/- The statements' Bag: one list of lists of bytes is put in, and each of its lists; all are apart. -/
import Derived.Test.YtiakjeomedijkaaGreatDoorApartPJ
import Derived.Test.YtiakjeomedijkaaGreatDoorApartNilJ
import Derived.Test.YtiakjeomedijkaaGreatDoorProg
import Derived.Test.YtiakjeomedijkaaGreatDoorTurnJ
namespace Go.Proofs.YtiakjeomedijkaaGreatDoor
open Go.RowKit
set_option maxRecDepth 8000

abbrev nilS : Value := .slice none 0 0
/-- The cells of a Bag that holds lists of bytes and lists of these alone. -/
abbrev bagCells (bv pv : Value) : Array Value := #[bv, nilS, nilS, pv, nilS, nilS, nilS, nilS, nilS, nilS, nilS, nilS, nilS, nilS, nilS, nilS, nilS, nilS, nilS, nilS, nilS]

structure BagIs (w : World) (g : Nat) (bv pv : Value) (ps qs : List Pc) (B : Nat) : Prop where
  row : w.heap[g]? = some (.cells (bagCells bv pv) 54 (0, 0))
  bs : w.ownsRow B 26 1 bv ps.length (ps.map Pc.val)
  pc : w.ownsRow B 32 1 pv qs.length (qs.map Pc.val)

theorem own_not {w : World} {g B : Nat} {v : Value} {n : Nat} {xs : List Value} {T E : TypeId} {cs : Array Value} {fr : Nat × Nat} (h : w.ownsRow B E 1 v n xs) (hr : w.heap[g]? = some (.cells cs T fr)) (hTE : T ≠ E) : v.ownBlock ≠ some g := by
  intro e
  rcases h.2 with ⟨rfl, _⟩ | ⟨g', cap, cur, rfl, _, h2, _⟩
  · simp [Value.ownBlock] at e
  · simp [Value.ownBlock] at e
    subst e
    rw [hr] at h2
    simp at h2
    exact hTE h2.2.1

theorem own_apart {w : World} {B B' : Nat} {v v' : Value} {n n' : Nat} {xs xs' : List Value} {T E : TypeId} (h : w.ownsRow B T 1 v n xs) (h' : w.ownsRow B' E 1 v' n' xs') (hTE : T ≠ E) : ∀ k, v.ownBlock = some k → v'.ownBlock ≠ some k := by
  intro k e
  rcases h.2 with ⟨rfl, _⟩ | ⟨g', cap, cur, rfl, _, h2, _⟩
  · simp [Value.ownBlock] at e
  · simp [Value.ownBlock] at e
    subst e
    exact own_not h' h2 hTE

theorem ownsRow_same' {w w' : World} {base : Nat} {T : TypeId} {v : Value} {n : Nat} {xs : List Value} {S : Nat → Prop} (h : w.ownsRow base T 1 v n xs) (hk : Kept w w' S) (hn : ∀ k, v.ownBlock = some k → ¬ S k) : w'.ownsRow base T 1 v n xs :=
  ownsRow_same h (fun g _ hg _ hv => hk.block g (lt_of_block hg) (hn g hv))

theorem bag_c0 {w : World} {g : Nat} {bv pv : Value} (h : w.heap[g]? = some (.cells (bagCells bv pv) 54 (0, 0))) : w.cell? ⟨g, 0, none⟩ = some bv := by rw [cell_of_row w g 0 _ _ _ h]; rfl
theorem bag_c3 {w : World} {g : Nat} {bv pv : Value} (h : w.heap[g]? = some (.cells (bagCells bv pv) 54 (0, 0))) : w.cell? ⟨g, 3, none⟩ = some pv := by rw [cell_of_row w g 3 _ _ _ h]; rfl

set_option maxRecDepth 8000 in
set_option maxHeartbeats 400000 in
theorem addBytes_any (g : Nat) (bv pv : Value) (ps qs : List Pc) (B : Nat) (p : Pc) (w : World) (h : BagIs w g bv pv ps qs B) (hn : ps.length < 600) (hB : B ≤ w.heap.size) :
    Calls Tryz.prog 8 #[.pointer (some ⟨g, 0, none⟩), p.val] w fun e w' => e = .returned (.tuple #[]) ∧ ∃ bv', BagIs w' g bv' pv (ps ++ [p]) qs B ∧ Kept w w' (fun k => k = g ∨ bv.ownBlock = some k) ∧ NewRow w bv bv' := by
  obtain ⟨i1, gi, gz0, gz1, gz2⟩ := info_parts Tryz.infoBytes
  have c0 := bag_c0 h.row
  have f0 := frozen_of_row w g 0 _ _ h.row
  have H : Hid (BagIs w g bv pv ps qs B) := h
  obtain ⟨pa, pn, pc⟩ := p
  obtain ⟨ao, n, cap, hbv⟩ : ∃ ao n cap, bv = .slice ao n cap ∧ n = ps.length := by
    rcases h.bs.2 with ⟨rfl, h0⟩ | ⟨g', c, cur, rfl, _⟩
    · exact ⟨none, 0, 0, rfl, h0.symm⟩
    · exact ⟨_, _, _, rfl, rfl⟩
  obtain ⟨rfl, rfl⟩ := hbv
  have hgw : g < w.heap.size := lt_of_block h.row
  have hna := own_not h.bs h.row (by decide)
  have HNA : Hid ((Value.slice ao ps.length cap).ownBlock ≠ some g) := hna
  clear h hna
  unfold Pc.val
  simp only
  go_enter Tryz.func8, Tryz.ntmps8
  go_wp2_with (at_builtin; refine wpList_append_own_at _ rfl (.tmp 14) (.tmp 16) 32 rfl B 26 i1 _ 1 24 Tryz.underlying32 gi gz0 gz1 gz2 rfl (by decide) (.slice ao ps.length cap) ps.length (ps.map Pc.val) rfl (ownsRow_same' H.out.bs ((Kept.refl w (fun _ => False)).alloc _) (fun _ _ h => h)) ⟨w.heap.size, 0, none⟩ 1 1 [.slice pa pn pc] rfl rfl (new_cell1 _ _ _) ?one (by unfold maxLen; omega) (by omega) (by simp; omega) ?_)
  case one => intro u hu; simp at hu; subst hu; rfl
  intro v' w1 hown hgrow _ hat
  have hk1 : Kept w w1 (fun k => (Value.slice ao ps.length cap).ownBlock = some k) := ((Kept.refl w _).alloc _).trans (kept_grown hgrow (fun k e => e)) (fun _ _ h => h)
  have hrow1 := hk1.heap H.out.row HNA.out
  have hnew : NewRow w (.slice ao ps.length cap) v' := by
    rcases hat with e | e
    · exact .inl e
    · exact .inr ⟨_, e, by simp⟩
  have c1 := bag_c0 hrow1
  have f1 := frozen_of_row w1 g 0 _ _ hrow1
  obtain ⟨ao', n', cap', rfl⟩ : ∃ a n c, v' = .slice a n c := by
    rcases hown.2 with ⟨rfl, _⟩ | ⟨g', c, cur, rfl, _⟩
    · exact ⟨_, _, _, rfl⟩
    · exact ⟨_, _, _, rfl⟩
  have HR : Hid (BagIs (w1.setCell ⟨g, 0, none⟩ (.slice ao' n' cap')) g (.slice ao' n' cap') pv (ps ++ [⟨pa, pn, pc⟩]) qs B ∧ Kept w (w1.setCell ⟨g, 0, none⟩ (.slice ao' n' cap')) (fun k => k = g ∨ (Value.slice ao ps.length cap).ownBlock = some k) ∧ NewRow w (.slice ao ps.length cap) (.slice ao' n' cap')) := by
    have hks : Kept w1 (w1.setCell ⟨g, 0, none⟩ (.slice ao' n' cap')) (fun k => k = g) := (Kept.refl w1 _).setCell _ _ (fun _ => rfl)
    refine ⟨⟨?_, ?_, ?_⟩, (hk1.mono (fun _ _ h => .inr h)).trans hks (fun _ _ h => .inl h), hnew⟩
    · rw [setCell_eq_setRow w1 g 0 _ _ _ _ hrow1, setRow_heap w1 g _ _ _ _ hrow1]; rfl
    · have e : (ps ++ [(⟨pa, pn, pc⟩ : Pc)]).map Pc.val = ps.map Pc.val ++ [.slice pa pn pc] := by rw [List.map_append]; rfl
      rw [e, List.length_append]
      exact ownsRow_same' hown hks (fun k hv e => by subst e; exact own_not hown hrow1 (by decide) hv)
    · exact ownsRow_same' (ownsRow_same' H.out.pc hk1 (own_apart H.out.pc H.out.bs (by decide))) hks (fun k hv e => by subst e; exact own_not H.out.pc H.out.row (by decide) hv)
  clear hown hgrow hat hk1 hrow1 hnew
  go_wp2
  go_end0
  exact ⟨rfl, _, HR.out⟩

end Go.Proofs.YtiakjeomedijkaaGreatDoor

/- The statements' Bag, filled with one list of lists of bytes, and its Apart. -/
namespace Go.Proofs.YtiakjeomedijkaaGreatDoor
open Go.RowKit
set_option maxRecDepth 8000

theorem sees_own {w : World} {B : Nat} {T : TypeId} {v : Value} {ps : List Pc} (h : w.ownsRow B T 1 v ps.length (ps.map Pc.val)) : SeesPcs w T v ps := by
  rcases h.2 with ⟨rfl, h0⟩ | ⟨g, cap, cur, rfl, _, hr, h1, h2, h3, h4⟩
  · have e : ps = [] := List.eq_nil_of_length_eq_zero h0
    subst e
    exact ⟨none, 0, rfl, Nat.le_refl _, Nat.zero_le _, .inl rfl⟩
  · refine ⟨_, cap, rfl, h1, h2, .inr ⟨g, 0, rfl, ⟨cur, _, hr⟩, fun i hi => ?_⟩⟩
    rw [Nat.zero_add, cell_of_row w g i cur _ _ hr, ← Array.getElem?_toList]
    have e2 : (cur.toList.take (ps.length * 1))[i]? = some (Pc.val ps[i]) := by rw [h4, List.getElem?_map, List.getElem?_eq_getElem hi]; rfl
    rw [List.getElem?_take, if_pos (by omega)] at e2
    exact e2

end Go.Proofs.YtiakjeomedijkaaGreatDoor

/- The statements' Bag with one list of lists of bytes, and its lists: they are apart. -/
namespace Go.Proofs.YtiakjeomedijkaaGreatDoor
open Go.RowKit
set_option maxRecDepth 8000

theorem bag_cells {w : World} {g : Nat} {bv pv : Value} (h : w.heap[g]? = some (.cells (bagCells bv pv) 54 (0, 0))) : ∀ j, j < 21 → w.cell? ⟨g, j, none⟩ = (bagCells bv pv)[j]? := fun j _ => cell_of_row w g j _ _ _ h

set_option maxRecDepth 8000 in
set_option maxHeartbeats 2000000 in
theorem bagApart_one (g B : Nat) (bv pv : Value) (ps : List Pc) (p : Pc) (w : World) (h : BagIs w g bv pv ps [p] B) (hl : ∀ q ∈ ps, Lies w 5 q) (hap : ApartPcs ps) (hn : ps.length ≤ 600) (hb : ∀ q ∈ ps, q.n ≤ 70000000000000) (hlp : Lies w 26 p) (hbp : p.n ≤ 1000000000)
    (ht : Tab w) (hg0 : 0 < B) (hBw : B ≤ w.heap.size) (hfB : ∀ k x, feet ps k x → B ≤ k) (hpB : ∀ k x, p.foot k x → B ≤ k) :
    Calls Tryz.prog 9 #[.pointer (some ⟨g, 0, none⟩)] w fun e w' => e = .returned (.bool true) ∧ Below B w w' := by
  have cs := bag_cells h.row
  have H : Hid (BagIs w g bv pv ps [p] B ∧ (∀ q ∈ ps, Lies w 5 q) ∧ ApartPcs ps ∧ (∀ q ∈ ps, q.n ≤ 70000000000000) ∧ Lies w 26 p ∧ Tab w ∧ (∀ k x, feet ps k x → B ≤ k) ∧ (∀ k x, p.foot k x → B ≤ k)) := ⟨h, hl, hap, hb, hlp, ht, hfB, hpB⟩
  have c0 : w.cell? ⟨g, 0, none⟩ = some bv := cs 0 (by omega)
  clear h hl hap hb hlp ht hfB hpB cs
  go_enter Tryz.func9, Tryz.ntmps9
  go_wp2_with fail
  refine (apartBytes_any bv ps _ (sees_own H.out.1.bs) H.out.2.1 H.out.2.2.1 hn H.out.2.2.2.1).mono ?_
  rintro e w1 ⟨rfl, hT1⟩
  have hrow1 : w1.heap[g]? = some (.cells (bagCells bv pv) 54 (0, 0)) := by
    rw [hT1.same g (lt_of_block H.out.1.row) (fun x hs => ?_)]
    · exact H.out.1.row
    · obtain ⟨q, hq, hf⟩ := hs
      obtain ⟨_, cs2, hr2⟩ := (H.out.2.1 q hq).foot_lt hf
      rw [H.out.1.row] at hr2
      simp at hr2
  have hsp : SeesPcs w1 32 pv [p] := (sees_own (ps := [p]) H.out.1.pc).turned hT1 (fun _ _ h => h) H.out.2.1 (by decide)
  have H1 : Hid (w1.heap[g]? = some (.cells (bagCells bv pv) 54 (0, 0)) ∧ SeesPcs w1 32 pv [p] ∧ Lies w1 26 p ∧ Tab w1 ∧ Below B w w1) :=
    ⟨hrow1, hsp, H.out.2.2.2.2.1.turned hT1, Tab.same H.out.2.2.2.2.2.1 (hT1.same _ (by omega) (fun x hs => by have := H.out.2.2.2.2.2.2.1 _ _ hs; omega)), hT1.below hBw H.out.2.2.2.2.2.2.1⟩
  have cs := bag_cells hrow1
  have c1 : w1.cell? ⟨g, 1, none⟩ = some nilS := cs 1 (by omega)
  have c2 : w1.cell? ⟨g, 2, none⟩ = some nilS := cs 2 (by omega)
  have c3 : w1.cell? ⟨g, 3, none⟩ = some pv := cs 3 (by omega)
  have hz1 := hT1.size
  clear hT1 hrow1 hsp cs c0
  go_wp2_with fail
  refine (apartInts_nil _).mono ?_
  rintro e w2 ⟨rfl, rfl⟩
  go_wp2_with fail
  refine (apartTexts_nil _).mono ?_
  rintro e w2 ⟨rfl, rfl⟩
  go_wp2_with fail
  refine (apartPieces_one pv p _ H1.out.2.1 H1.out.2.2.1 hbp H1.out.2.2.2.1 (by omega) (fun x hs => by have := H.out.2.2.2.2.2.2.2 _ _ hs; omega)).mono ?_
  rintro e w3 ⟨rfl, hT3⟩
  have hrow3 : w3.heap[g]? = some (.cells (bagCells bv pv) 54 (0, 0)) := by
    rw [hT3.same g (lt_of_block H1.out.1) (fun x hs => ?_)]
    · exact H1.out.1
    · obtain ⟨_, cs2, hr2⟩ := H1.out.2.2.1.foot_lt hs
      rw [H1.out.1] at hr2
      simp at hr2
  have HE : Hid (Below B w w3) := H1.out.2.2.2.2.trans (hT3.below (by omega) H.out.2.2.2.2.2.2.2)
  have cs := bag_cells hrow3
  have c4 : w3.cell? ⟨g, 4, none⟩ = some nilS := cs 4 (by omega)
  have c5 : w3.cell? ⟨g, 5, none⟩ = some nilS := cs 5 (by omega)
  have c6 : w3.cell? ⟨g, 6, none⟩ = some nilS := cs 6 (by omega)
  have c7 : w3.cell? ⟨g, 7, none⟩ = some nilS := cs 7 (by omega)
  have c8 : w3.cell? ⟨g, 8, none⟩ = some nilS := cs 8 (by omega)
  have c9 : w3.cell? ⟨g, 9, none⟩ = some nilS := cs 9 (by omega)
  have c10 : w3.cell? ⟨g, 10, none⟩ = some nilS := cs 10 (by omega)
  have c11 : w3.cell? ⟨g, 11, none⟩ = some nilS := cs 11 (by omega)
  have c12 : w3.cell? ⟨g, 12, none⟩ = some nilS := cs 12 (by omega)
  have c13 : w3.cell? ⟨g, 13, none⟩ = some nilS := cs 13 (by omega)
  have c14 : w3.cell? ⟨g, 14, none⟩ = some nilS := cs 14 (by omega)
  have c15 : w3.cell? ⟨g, 15, none⟩ = some nilS := cs 15 (by omega)
  have c16 : w3.cell? ⟨g, 16, none⟩ = some nilS := cs 16 (by omega)
  have c17 : w3.cell? ⟨g, 17, none⟩ = some nilS := cs 17 (by omega)
  have c18 : w3.cell? ⟨g, 18, none⟩ = some nilS := cs 18 (by omega)
  have c19 : w3.cell? ⟨g, 19, none⟩ = some nilS := cs 19 (by omega)
  have c20 : w3.cell? ⟨g, 20, none⟩ = some nilS := cs 20 (by omega)
  clear hT3 hrow3 cs c1 c2 c3
  go_wp2_with fail
  refine (apartIds_nil _).mono ?_
  rintro e w4 ⟨rfl, rfl⟩
  go_wp2_with fail
  refine (apartAcl_nil _).mono ?_
  rintro e w4 ⟨rfl, rfl⟩
  go_wp2_with fail
  refine (apartRequests_nil _).mono ?_
  rintro e w4 ⟨rfl, rfl⟩
  go_wp2_with fail
  refine (apartTxns_nil _).mono ?_
  rintro e w4 ⟨rfl, rfl⟩
  go_wp2_with fail
  refine (apartResults_nil _).mono ?_
  rintro e w4 ⟨rfl, rfl⟩
  go_wp2_with fail
  refine (apartNodes_nil _).mono ?_
  rintro e w4 ⟨rfl, rfl⟩
  go_wp2_with fail
  refine (apartSessions_nil _).mono ?_
  rintro e w4 ⟨rfl, rfl⟩
  go_wp2_with fail
  refine (apartChanges_nil _).mono ?_
  rintro e w4 ⟨rfl, rfl⟩
  go_wp2_with fail
  refine (apartFiles_nil _).mono ?_
  rintro e w4 ⟨rfl, rfl⟩
  go_wp2_with fail
  refine (apartPackets_nil _).mono ?_
  rintro e w4 ⟨rfl, rfl⟩
  go_wp2_with fail
  refine (apartMessages_nil _).mono ?_
  rintro e w4 ⟨rfl, rfl⟩
  go_wp2_with fail
  refine (apartWatches_nil _).mono ?_
  rintro e w4 ⟨rfl, rfl⟩
  go_wp2_with fail
  refine (apartFired_nil _).mono ?_
  rintro e w4 ⟨rfl, rfl⟩
  go_wp2_with fail
  refine (apartFacts_nil _).mono ?_
  rintro e w4 ⟨rfl, rfl⟩
  go_wp2_with fail
  refine (apartSends_nil _).mono ?_
  rintro e w4 ⟨rfl, rfl⟩
  go_wp2_with fail
  refine (apartEvents_nil _).mono ?_
  rintro e w4 ⟨rfl, rfl⟩
  go_wp2_with fail
  refine (apartFactss_nil _).mono ?_
  rintro e w4 ⟨rfl, rfl⟩
  go_wp2
  go_ret
  exact ⟨rfl, HE.out⟩

end Go.Proofs.YtiakjeomedijkaaGreatDoor

/- The statements' lists of bytes and of pieces where there is none: they are apart. -/
namespace Go.Proofs.YtiakjeomedijkaaGreatDoor
open Go.RowKit
set_option maxRecDepth 8000

theorem grownBytes_nil (d more : Int) (w : World) : Calls Tryz.prog 63 #[.slice none 0 0, .int .i64 d, .int .i64 more] w fun e w' => e = .returned (.bool true) ∧ w' = w := by
  go_enter Tryz.func63, Tryz.ntmps63
  go_wp2
  go_loopw [8] (fun i wr => i = .int .i64 0 ∧ wr = w) (fun _ _ => 0)
  case atStart => exact ⟨rfl, rfl⟩
  case round =>
    obtain ⟨rfl, rfl⟩ := hrel
    go_wp2
    go_loopw [11] (fun i wx => i = .int .i64 0 ∧ wx = wr) (fun _ _ => 0)
    case atStart => exact ⟨rfl, rfl⟩
    case round =>
      obtain ⟨rfl, rfl⟩ := hrel
      go_wp2
      go_ret
      exact ⟨rfl, rfl⟩

theorem grownPieces_nil (more : Int) (w : World) : Calls Tryz.prog 67 #[.slice none 0 0, .int .i64 more] w fun e w' => e = .returned (.bool true) ∧ w' = w := by
  go_enter Tryz.func67, Tryz.ntmps67
  go_wp2
  go_loopw [6] (fun i wr => i = .int .i64 0 ∧ wr = w) (fun _ _ => 0)
  case atStart => exact ⟨rfl, rfl⟩
  case round =>
    obtain ⟨rfl, rfl⟩ := hrel
    go_wp2
    go_loopw [9] (fun i wx => i = .int .i64 0 ∧ wx = wr) (fun _ _ => 0)
    case atStart => exact ⟨rfl, rfl⟩
    case round =>
      obtain ⟨rfl, rfl⟩ := hrel
      go_wp2
      go_ret
      exact ⟨rfl, rfl⟩

theorem apartPieces_nil (w : World) : Calls Tryz.prog 23 #[.slice none 0 0] w fun e w' => e = .returned (.bool true) ∧ w' = w := by
  go_enter Tryz.func23, Tryz.ntmps23
  go_wp2
  go_loopw [3] (fun i wr => i = .int .i64 0 ∧ wr = w) (fun _ _ => 0)
  case atStart => exact ⟨rfl, rfl⟩
  case round =>
    obtain ⟨rfl, rfl⟩ := hrel
    go_wp2_with fail
    refine (grownPieces_nil 1 _).mono ?_
    rintro e w1 ⟨rfl, rfl⟩
    go_wp2_with fail
    refine (grownPieces_nil 24 _).mono ?_
    rintro e w1 ⟨rfl, rfl⟩
    go_wp2
    go_ret
    exact ⟨rfl, rfl⟩

theorem apartBytes_nil (w : World) : Calls Tryz.prog 20 #[.slice none 0 0] w fun e w' => e = .returned (.bool true) ∧ w' = w := by
  go_enter Tryz.func20, Tryz.ntmps20
  go_wp2
  go_loopw [3] (fun dv wr => (dv = .int .i64 1 ∨ dv = .int .i64 100) ∧ wr = w) (fun dv _ => 200 - (intOf dv).toNat)
  case atStart => exact ⟨.inl rfl, rfl⟩
  case round =>
    obtain ⟨rfl | rfl, rfl⟩ := hrel
    · go_wp2
      go_loopw [4] (fun i wx => i = .int .i64 0 ∧ wx = wr) (fun _ _ => 0)
      case atStart => exact ⟨rfl, rfl⟩
      case round =>
        obtain ⟨rfl, rfl⟩ := hrel
        go_wp2_with fail
        refine (grownBytes_nil 1 1 _).mono ?_
        rintro e w1 ⟨rfl, rfl⟩
        go_wp2_with fail
        refine (grownBytes_nil 1 64 _).mono ?_
        rintro e w1 ⟨rfl, rfl⟩
        go_wp2
        go_roundw
        case rel => exact ⟨.inr (by go_num), trivial⟩
        case measure => simp [intOf]
    · go_wp2
      go_ret
      exact ⟨rfl, rfl⟩

end Go.Proofs.YtiakjeomedijkaaGreatDoor
