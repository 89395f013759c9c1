/- CopyIds and CopyAcl of lagoonref00: the same elements in a row of their own; a row that is owned, seen. -/
import Derived.Test.YtiakjeomedijkaaGreatDoorEqQJ
import Derived.Test.YtiakjeomedijkaaGreatDoorReaderJ
import Derived.Maps.AppendAt
import Derived.Test.YtiakjeomedijkaaGreatDoorApartNil2J
import Derived.Test.YtiakjeomedijkaaGreatDoorFr2J
import Derived.Test.YtiakjeomedijkaaGreatDoorTurnJ
import Derived.Test.YtiakjeomedijkaaGreatDoorMaMJ
namespace Go.Proofs.YtiakjeomedijkaaGreatDoor
open Go.RowKit
set_option maxRecDepth 8000

theorem flat_at {z : Nat} {cs : List (List Value)} (hz : ∀ c ∈ cs, c.length = z) (k j : Nat) (hk : k < cs.length) (hj : j < z) : cs.flatten[k * z + j]? = some (cs[k].getD j (.bool false)) := by
  induction cs generalizing k with
  | nil => simp at hk
  | cons c r ih =>
    have hc := hz c (by simp)
    rw [List.flatten_cons]
    cases k with
    | zero =>
      rw [List.getElem?_append_left (by omega), Nat.zero_mul, Nat.zero_add]
      simp [List.getD_eq_getElem?_getD, hc, hj]
    | succ k =>
      have e : (k + 1) * z + j - c.length = k * z + j := by rw [hc, Nat.succ_mul]; omega
      rw [List.getElem?_append_right (by rw [hc, Nat.succ_mul]; omega), e, ih (fun c hc => hz c (by simp [hc])) k (by simpa using hk)]
      simp

/-- A row that is owned is seen. -/
theorem seesR_own {w : World} {base : Nat} {t : TypeId} {z : Nat} {v : Value} {cs : List (List Value)} (h : w.ownsRow base t z v cs.length cs.flatten) (hz : ∀ c ∈ cs, c.length = z) : SeesR w v z cs := by
  rcases h.2 with ⟨rfl, h0⟩ | ⟨g, cap, cur, rfl, h1, h2, h3, h4, h5, h6⟩
  · have : cs = [] := List.eq_nil_of_length_eq_zero h0
    subst this
    exact SeesR.nil w z
  · refine ⟨_, cap, rfl, h3, h4, fun e => by simp at e, .inr ⟨g, 0, rfl, fun i hi j hj => ?_⟩⟩
    have hlt : i * z + j < cs.length * z := by
      have : (i + 1) * z ≤ cs.length * z := Nat.mul_le_mul_right z hi
      rw [Nat.succ_mul] at this
      omega
    rw [Nat.zero_add, cell_of_row _ _ _ _ _ _ h2, ← flat_at hz i j hi hj, ← h6]
    rw [List.getElem?_take, if_pos hlt]
    simp

theorem addrAdd (b off n : Nat) : (⟨b, off, none⟩ : Addr).add n = ⟨b, off + n, none⟩ := by
  by_cases h : n = 0
  · subst h; simp [Addr.add]
  · simp [Addr.add, h]

theorem ownsRow_kept {w w' : World} {S : Nat → Prop} {base : Nat} {t : TypeId} {z n : Nat} {v : Value} {xs : List Value} (h : w.ownsRow base t z v n xs) (hk : Kept w w' S) (hn : ∀ k, v.ownBlock = some k → ¬ S k) : w'.ownsRow base t z v n xs := by
  refine ⟨h.1, ?_⟩
  rcases h.2 with h | ⟨g, cap, cur, rfl, h1, h2, h3⟩
  · exact .inl h
  · exact .inr ⟨g, cap, cur, rfl, h1, hk.heap h2 (hn g rfl), h3⟩

theorem Tryz.infoId : (Tryz.prog.info? 126).map (fun i => (i.zero, i.size, i.bytes)) = some (some (.agg #[.string ⟨#[]⟩, .string ⟨#[]⟩]), 2, 32) := by kernel_rfl
theorem Tryz.infoEn : (Tryz.prog.info? 130).map (fun i => (i.zero, i.size, i.bytes)) = some (some (.agg #[.int .i8 0, .string ⟨#[]⟩, .string ⟨#[]⟩]), 3, 40) := by kernel_rfl

end Go.Proofs.YtiakjeomedijkaaGreatDoor

/- A Bag that holds lists of bytes alone; lists of bytes that lie apart (WeF's first part, for seats without layer 4). -/
namespace Go.Proofs.YtiakjeomedijkaaGreatDoor
open Go.RowKit
set_option maxRecDepth 8000

theorem eqBytes_alike (v u : Value) (xs : List Int) (w : World) (h : Sees w v xs) (g : Sees w u xs) : Calls Tryz.prog 7 #[v, u] w fun e w' => e = .returned (.bool true) ∧ Below w.heap.size w w' := by
  refine (eqBytes_any v u xs xs w h g).mono ?_
  rintro e w' ⟨rfl, n, rfl⟩
  exact ⟨by simp, below_drewN (Below.refl _ _) n⟩

set_option maxHeartbeats 2000000 in
theorem bagApart_b (g B : Nat) (bv : Value) (ps : List Pc) (w : World) (h : BagIs w g bv nilS ps [] B) (hl : ∀ q ∈ ps, Lies w 5 q) (hap : ApartPcs ps) (hn : ps.length ≤ 600) (hb : ∀ q ∈ ps, q.n ≤ 70000000000000) :
    Calls Tryz.prog 9 #[.pointer (some ⟨g, 0, none⟩)] w fun e w' => e = .returned (.bool true) ∧ Turned w w' (feet ps) := by
  have cs := bag_cells h.row
  have H : Hid (BagIs w g bv nilS ps [] B ∧ (∀ q ∈ ps, Lies w 5 q) ∧ ApartPcs ps ∧ (∀ q ∈ ps, q.n ≤ 70000000000000)) := ⟨h, hl, hap, hb⟩
  have c0 : w.cell? ⟨g, 0, none⟩ = some bv := cs 0 (by omega)
  clear h hl hap hb cs
  go_enter Tryz.func9, Tryz.ntmps9
  go_wp2_with fail
  refine (apartBytes_any bv ps _ (sees_own H.out.1.bs) H.out.2.1 H.out.2.2.1 hn H.out.2.2.2).mono ?_
  rintro e w1 ⟨rfl, hT1⟩
  have hrow1 : w1.heap[g]? = some (.cells (bagCells bv nilS) 54 (0, 0)) := by
    rw [hT1.same g (lt_of_block H.out.1.row) (fun x hs => ?_)]
    · exact H.out.1.row
    · obtain ⟨q, hq, hf⟩ := hs
      obtain ⟨_, cs2, hr2⟩ := (H.out.2.1 q hq).foot_lt hf
      rw [H.out.1.row] at hr2
      simp at hr2
  have HE : Hid (Turned w w1 (feet ps)) := hT1
  have cs := bag_cells hrow1
  have c1 : w1.cell? ⟨g, 1, none⟩ = some nilS := cs 1 (by omega)
  have c2 : w1.cell? ⟨g, 2, none⟩ = some nilS := cs 2 (by omega)
  have c3 : w1.cell? ⟨g, 3, none⟩ = some nilS := cs 3 (by omega)
  have c4 : w1.cell? ⟨g, 4, none⟩ = some nilS := cs 4 (by omega)
  have c5 : w1.cell? ⟨g, 5, none⟩ = some nilS := cs 5 (by omega)
  have c6 : w1.cell? ⟨g, 6, none⟩ = some nilS := cs 6 (by omega)
  have c7 : w1.cell? ⟨g, 7, none⟩ = some nilS := cs 7 (by omega)
  have c8 : w1.cell? ⟨g, 8, none⟩ = some nilS := cs 8 (by omega)
  have c9 : w1.cell? ⟨g, 9, none⟩ = some nilS := cs 9 (by omega)
  have c10 : w1.cell? ⟨g, 10, none⟩ = some nilS := cs 10 (by omega)
  have c11 : w1.cell? ⟨g, 11, none⟩ = some nilS := cs 11 (by omega)
  have c12 : w1.cell? ⟨g, 12, none⟩ = some nilS := cs 12 (by omega)
  have c13 : w1.cell? ⟨g, 13, none⟩ = some nilS := cs 13 (by omega)
  have c14 : w1.cell? ⟨g, 14, none⟩ = some nilS := cs 14 (by omega)
  have c15 : w1.cell? ⟨g, 15, none⟩ = some nilS := cs 15 (by omega)
  have c16 : w1.cell? ⟨g, 16, none⟩ = some nilS := cs 16 (by omega)
  have c17 : w1.cell? ⟨g, 17, none⟩ = some nilS := cs 17 (by omega)
  have c18 : w1.cell? ⟨g, 18, none⟩ = some nilS := cs 18 (by omega)
  have c19 : w1.cell? ⟨g, 19, none⟩ = some nilS := cs 19 (by omega)
  have c20 : w1.cell? ⟨g, 20, none⟩ = some nilS := cs 20 (by omega)
  clear hT1 hrow1 cs c0
  go_wp2_with fail
  refine (apartInts_nil _).mono ?_
  rintro e w2 ⟨rfl, rfl⟩
  go_wp2_with fail
  refine (apartTexts_nil _).mono ?_
  rintro e w2 ⟨rfl, rfl⟩
  go_wp2_with fail
  refine (apartPieces_nil _).mono ?_
  rintro e w3 ⟨rfl, rfl⟩
  go_wp2_with fail
  refine (apartIds_nil _).mono ?_
  rintro e w4 ⟨rfl, rfl⟩
  go_wp2_with fail
  refine (apartAcl_nil _).mono ?_
  rintro e w4 ⟨rfl, rfl⟩
  go_wp2_with fail
  refine (apartRequests_nil _).mono ?_
  rintro e w4 ⟨rfl, rfl⟩
  go_wp2_with fail
  refine (apartTxns_nil _).mono ?_
  rintro e w4 ⟨rfl, rfl⟩
  go_wp2_with fail
  refine (apartResults_nil _).mono ?_
  rintro e w4 ⟨rfl, rfl⟩
  go_wp2_with fail
  refine (apartNodes_nil _).mono ?_
  rintro e w4 ⟨rfl, rfl⟩
  go_wp2_with fail
  refine (apartSessions_nil _).mono ?_
  rintro e w4 ⟨rfl, rfl⟩
  go_wp2_with fail
  refine (apartChanges_nil _).mono ?_
  rintro e w4 ⟨rfl, rfl⟩
  go_wp2_with fail
  refine (apartFiles_nil _).mono ?_
  rintro e w4 ⟨rfl, rfl⟩
  go_wp2_with fail
  refine (apartPackets_nil _).mono ?_
  rintro e w4 ⟨rfl, rfl⟩
  go_wp2_with fail
  refine (apartMessages_nil _).mono ?_
  rintro e w4 ⟨rfl, rfl⟩
  go_wp2_with fail
  refine (apartWatches_nil _).mono ?_
  rintro e w4 ⟨rfl, rfl⟩
  go_wp2_with fail
  refine (apartFired_nil _).mono ?_
  rintro e w4 ⟨rfl, rfl⟩
  go_wp2_with fail
  refine (apartFacts_nil _).mono ?_
  rintro e w4 ⟨rfl, rfl⟩
  go_wp2_with fail
  refine (apartSends_nil _).mono ?_
  rintro e w4 ⟨rfl, rfl⟩
  go_wp2_with fail
  refine (apartEvents_nil _).mono ?_
  rintro e w4 ⟨rfl, rfl⟩
  go_wp2_with fail
  refine (apartFactss_nil _).mono ?_
  rintro e w4 ⟨rfl, rfl⟩
  go_wp2
  go_ret
  exact ⟨rfl, HE.out⟩

/-- The Bag behind its own look. -/
theorem BagIs.turned {w w' : World} {g B : Nat} {bv : Value} {ps qs : List Pc} (h : BagIs w g bv nilS ps [] B) (ht : Turned w w' (feet qs)) (hl : ∀ q ∈ qs, Lies w 5 q) : BagIs w' g bv nilS ps [] B := by
  have nof : ∀ (k : Nat) (T : TypeId) (cs : Array Value), w.heap[k]? = some (Obj.cells cs T (0, 0)) → T ≠ 5 → w'.heap[k]? = w.heap[k]? := fun k T cs hr hT => ht.same k (lt_of_block hr) (fun x hs => by
    obtain ⟨q, hq, hf⟩ := hs
    obtain ⟨_, cs2, hr2⟩ := (hl q hq).foot_lt hf
    rw [hr] at hr2
    simp at hr2
    exact hT hr2.2)
  refine ⟨by rw [nof g _ _ h.row (by decide)]; exact h.row, ?_, World.ownsRow_nil _ _ _ _⟩
  obtain ⟨h1, h2 | ⟨g', cap, cur, e, a2, a3, a4⟩⟩ := h.bs
  · exact ⟨h1, .inl h2⟩
  · exact ⟨h1, .inr ⟨g', cap, cur, e, a2, by rw [nof g' _ _ a3 (by decide)]; exact a3, a4⟩⟩

theorem BagIs.kept {w w' : World} {S : Nat → Prop} {g B : Nat} {bv : Value} {ps : List Pc} (h : BagIs w g bv nilS ps [] B) (hk : Kept w w' S) (hg : ¬ S g) (hb : ∀ k, bv.ownBlock = some k → ¬ S k) : BagIs w' g bv nilS ps [] B :=
  ⟨hk.heap h.row hg, ownsRow_kept h.bs hk hb, World.ownsRow_nil _ _ _ _⟩

/-- Lists of bytes that lie apart, in blocks from B on. -/
structure Bys (B : Nat) (ps : List Pc) (w : World) : Prop where
  lies : ∀ p ∈ ps, Lies w 5 p
  few : ∀ p ∈ ps, p.n ≤ 70000000000000
  base : ∀ p ∈ ps, ∀ k x, p.foot k x → B ≤ k
  ap : ps.Pairwise (fun p q => ∀ k x, p.foot k x → ¬ q.foot k x)

theorem Bys.apart {B : Nat} {ps : List Pc} {w : World} (h : Bys B ps w) : ApartPcs ps := by
  have hp := List.pairwise_iff_getElem.1 h.ap
  intro i j hi hj hne k x h1 h2
  rcases Nat.lt_or_gt_of_ne hne with hlt | hlt
  · exact hp i j hi hj hlt k x h1 h2
  · exact hp j i hj hi hlt k x h2 h1

theorem Bys.nil (B : Nat) (w : World) : Bys B [] w := ⟨fun p h => by simp at h, fun p h => by simp at h, fun p h => by simp at h, List.Pairwise.nil⟩

theorem lies_heap {w w' : World} {E : TypeId} {q : Pc} (h : Lies w E q) (he : ∀ k x, q.foot k x → w'.heap[k]? = w.heap[k]?) : Lies w' E q := by
  refine ⟨h.le, h.most, h.nil, fun hc => ?_⟩
  obtain ⟨k, off, cs, e, hr, hs⟩ := h.at' hc
  exact ⟨k, off, cs, e, by rw [he k off ⟨off, e, Nat.le_refl _, by omega⟩]; exact hr, hs⟩

theorem Bys.kept {B : Nat} {ps : List Pc} {w w' : World} {S : Nat → Prop} (h : Bys B ps w) (hk : Kept w w' S) (hS : ∀ p ∈ ps, ∀ k x, p.foot k x → ¬ S k) : Bys B ps w' :=
  ⟨fun p hp => lies_heap (h.lies p hp) (fun k x hf => hk.block k ((h.lies p hp).foot_lt hf).1 (hS p hp k x hf)), h.few, h.base, h.ap⟩

theorem Bys.later {B : Nat} {ps : List Pc} {w w' : World} (h : Bys B ps w) (hb : Below w.heap.size w w') : Bys B ps w' :=
  h.kept (Below.kept hb) (fun p hp k x hf e => by have := ((h.lies p hp).foot_lt hf).1; omega)

theorem Bys.turned {B : Nat} {ps : List Pc} {w w' : World} {S : Nat → Nat → Prop} (h : Bys B ps w) (ht : Turned w w' S) : Bys B ps w' := ⟨fun p hp => (h.lies p hp).turned ht, h.few, h.base, h.ap⟩

/-- A byte list's block is none of the Bag's. -/
theorem Bys.bag {B : Nat} {ps : List Pc} {w : World} (h : Bys B ps w) {g : Nat} {bv : Value} {qs : List Pc} {B' : Nat} (hb : BagIs w g bv nilS qs [] B') : ∀ p ∈ ps, ∀ k x, p.foot k x → ¬ (k = g ∨ bv.ownBlock = some k) := fun p hp k x hf e => by
  obtain ⟨_, cs, hr⟩ := (h.lies p hp).foot_lt hf
  rcases e with rfl | e
  · rw [hb.row] at hr
    simp at hr
  · rcases hb.bs.2 with ⟨e', _⟩ | ⟨g', cap, cur, e', _, a3, _⟩
    · rw [e'] at e; simp [Value.ownBlock] at e
    · rw [e'] at e
      simp [Value.ownBlock] at e
      subst e
      rw [a3] at hr
      simp at hr

/-- Bytes of one's own are none of the Bag's. -/
theorem Owns.bag {w w' : World} {B : Nat} {v : Value} {bs : List Int} (h : Owns w B v bs) {g : Nat} {bv : Value} {qs : List Pc} {B' : Nat} (hb : BagIs w g bv nilS qs [] B') (hk : Kept w w' (fun k => k = g ∨ bv.ownBlock = some k)) : Owns w' B v bs := by
  refine Owns.kept h hk (fun k e e' => ?_)
  rcases h.2 with ⟨q, _⟩ | ⟨gv, cap, cur, q, _, a3, _⟩
  · rw [q] at e; simp [Value.ownBlock] at e
  · rw [q] at e
    simp [Value.ownBlock] at e
    subst e
    rcases e' with rfl | e'
    · rw [hb.row] at a3
      simp at a3
    · rcases hb.bs.2 with ⟨e2, _⟩ | ⟨g', cap', cur', e2, _, a3', _⟩
      · rw [e2] at e'; simp [Value.ownBlock] at e'
      · rw [e2] at e'
        simp [Value.ownBlock] at e'
        subst e'
        rw [a3'] at a3
        simp at a3

theorem BagIs.below {w w' : World} {g B C : Nat} {bv : Value} {qs : List Pc} (hb : BagIs w g bv nilS qs [] B) (hk : Kept w w' (fun k => k = g ∨ bv.ownBlock = some k)) (hC : C ≤ B) (hg : C ≤ g) : Below C w w' := by
  have hgw := lt_of_block hb.row
  refine ⟨hk.os, hk.tape, hk.output, hk.size, fun k hk' => hk.block k (by omega) (fun e => ?_)⟩
  rcases e with rfl | e
  · omega
  · have := (hb.bs.lt k e).1; omega

/-- A list that a call made, beside the others. -/
theorem Bys.add {B : Nat} {ps : List Pc} {w w' : World} (h : Bys B ps w) (hb : Below w.heap.size w w') (hB : B ≤ w.heap.size) {a : Option Addr} {n c : Nat} {bs : List Int} (ho : Owns w' w.heap.size (.slice a n c) bs) (hl : bs.length ≤ 70000000000000) : Bys B (ps ++ [⟨a, n, c⟩]) w' := by
  have h' := h.later hb
  have ho' : w'.ownsRow w.heap.size 5 1 (Pc.val ⟨a, n, c⟩) (bs.map (Value.int .u8)).length (bs.map (Value.int .u8)) := by rw [List.length_map]; exact ho
  obtain ⟨p, e, hn, _, hl2, hf⟩ := own_has ho'
  have e2 : (⟨a, n, c⟩ : Pc) = p := by
    obtain ⟨a', n', c'⟩ := p
    simp [Pc.val] at e
    obtain ⟨rfl, rfl, rfl⟩ := e
    rfl
  subst e2
  rw [List.length_map] at hn
  refine ⟨fun q hq => ?_, fun q hq => ?_, fun q hq => ?_, List.pairwise_append.2 ⟨h.ap, List.pairwise_singleton _ _, fun p hp q hq k x h1 h2 => ?_⟩⟩
  · rcases List.mem_append.1 hq with hq | hq
    · exact h'.lies q hq
    · rw [List.mem_singleton.1 hq]; exact hl2
  · rcases List.mem_append.1 hq with hq | hq
    · exact h.few q hq
    · rw [List.mem_singleton.1 hq]; omega
  · rcases List.mem_append.1 hq with hq | hq
    · exact h.base q hq
    · rw [List.mem_singleton.1 hq]; exact fun k x hk => Nat.le_trans hB (hf k x hk)
  · rw [List.mem_singleton.1 hq] at h2
    have a1 := ((h.lies p hp).foot_lt h1).1
    have a2 := hf k x h2
    omega

end Go.Proofs.YtiakjeomedijkaaGreatDoor

/- The document's bytes of a manifest, and its Write; what Write answers, of the program and of the document, in one form. -/
namespace Go.Proofs.YtiakjeomedijkaaGreatDoor
open Go.RowKit Go.Shelf
set_option maxRecDepth 8000

/-- Bytes of one's own beside the box of the manifest. -/
structure Bt (w : World) (o : Obj) (W : World) (v : Value) (zs : List Int) : Prop where
  own : Owns W (w.heap.size + 1) v zs
  bel : Below w.heap.size w W
  row : W.heap[w.heap.size]? = some o

theorem Bt.later {w W W' : World} {o : Obj} {v : Value} {zs : List Int} (h : Bt w o W v zs) (hb : Below W.heap.size W W') : Bt w o W' v zs :=
  ⟨Owns.kept h.own (Below.kept hb) (fun k e h' => by have := (h.own.lt k e).2; omega), h.bel.trans (hb.mono h.bel.size), (hb.block _ (lt_of_block h.row)).trans h.row⟩

theorem Bt.join {w W W' : World} {o : Obj} {v v' : Value} {xs zs : List Int} (h : Bt w o W v xs) (hb : BehM (w.heap.size + 1) W v zs W' v') : Bt w o W' v' zs := by
  refine ⟨hb.own, h.bel.trans (hb.kept.below h.bel.size (fun k e => by have := (h.own.lt k e).1; omega)), hb.kept.heap h.row (fun e => by have := (h.own.lt _ e).1; omega)⟩

theorem join_bt {w W W1 : World} {o : Obj} {v u : Value} {xs ys : List Int} (h : Bt w o W v xs) (hb : Below W.heap.size W W1) (hu : Owns W1 W.heap.size u ys) (hl : xs.length + ys.length ≤ 1000000000) :
    Calls Tryz.prog 59 #[v, u] W1 fun e w' => ∃ v', e = .returned v' ∧ Bt w o w' v' (xs ++ ys) := by
  have h1 := h.later hb
  have hB : w.heap.size + 1 ≤ W1.heap.size := by have := lt_of_block h1.row; omega
  refine (mjoin_any (w.heap.size + 1) v u xs ys W1 h1.own (Sees.own hu) (fun j e e' => ?_) hB hl).mono ?_
  · have a1 := (hu.lt j e).1
    have a2 := (h.own.lt j e').2
    omega
  · rintro e w' ⟨v', rfl, hb'⟩
    exact ⟨v', rfl, h1.join hb'⟩

end Go.Proofs.YtiakjeomedijkaaGreatDoor
