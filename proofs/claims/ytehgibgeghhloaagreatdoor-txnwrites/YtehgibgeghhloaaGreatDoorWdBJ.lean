/- A Bag that holds lists of bytes alone; lists of bytes that lie apart; what Write answers, of the program and of the document, in one form. -/
import Derived.Test.YtehgibgeghhloaaGreatDoorZxJ
import Derived.Test.YtehgibgeghhloaaGreatDoorWriteAJ
import Derived.Test.YtehgibgeghhloaaGreatDoorWeDJ
import Derived.Test.YtehgibgeghhloaaGreatDoorWdAJ
import Derived.Deep.RegionHeld
namespace Go.Proofs.YtehgibgeghhloaaGreatDoor
open Go.RowKit
set_option maxRecDepth 8000

theorem eqBytes_alike (v u : Value) (xs : List Int) (w : World) (h : Sees w v xs) (g : Sees w u xs) : Calls Tryz.prog 11 #[v, u] w fun e w' => e = .returned (.bool true) ∧ Below w.heap.size w w' := by
  refine (eqBytes_any v u xs xs w h g).mono ?_
  rintro e w' ⟨rfl, n, rfl⟩
  exact ⟨by simp, below_drewN (Below.refl _ _) n⟩

set_option maxHeartbeats 2000000 in
theorem bagApart_b (g B : Nat) (bv : Value) (ps : List Pc) (w : World) (h : BagIs w g bv nilS ps [] B) (hl : ∀ q ∈ ps, Lies w 5 q) (hap : ApartPcs ps) (hn : ps.length ≤ 600) (hb : ∀ q ∈ ps, q.n ≤ 70000000000000) :
    Calls Tryz.prog 13 #[.pointer (some ⟨g, 0, none⟩)] w fun e w' => e = .returned (.bool true) ∧ Turned w w' (feet ps) := by
  have cs := bag_cells h.row
  have H : Hid (BagIs w g bv nilS ps [] B ∧ (∀ q ∈ ps, Lies w 5 q) ∧ ApartPcs ps ∧ (∀ q ∈ ps, q.n ≤ 70000000000000)) := ⟨h, hl, hap, hb⟩
  have c0 : w.cell? ⟨g, 0, none⟩ = some bv := cs 0 (by omega)
  clear h hl hap hb cs
  go_enter Tryz.func13, Tryz.ntmps13
  go_wp2_with fail
  refine (apartBytes_any bv ps _ (sees_own H.out.1.bs) H.out.2.1 H.out.2.2.1 hn H.out.2.2.2).mono ?_
  rintro e w1 ⟨rfl, hT1⟩
  have hrow1 : w1.heap[g]? = some (.cells (bagCells bv nilS) 67 (0, 0)) := by
    rw [hT1.same g (lt_of_block H.out.1.row) (fun x hs => ?_)]
    · exact H.out.1.row
    · obtain ⟨q, hq, hf⟩ := hs
      obtain ⟨_, cs2, hr2⟩ := (H.out.2.1 q hq).foot_lt hf
      rw [H.out.1.row] at hr2
      simp at hr2
  have HE : Hid (Turned w w1 (feet ps)) := hT1
  have cs := bag_cells hrow1
  have c1 : w1.cell? ⟨g, 1, none⟩ = some nilS := cs 1 (by omega)
  have c2 : w1.cell? ⟨g, 2, none⟩ = some nilS := cs 2 (by omega)
  have c3 : w1.cell? ⟨g, 3, none⟩ = some nilS := cs 3 (by omega)
  have c4 : w1.cell? ⟨g, 4, none⟩ = some nilS := cs 4 (by omega)
  have c5 : w1.cell? ⟨g, 5, none⟩ = some nilS := cs 5 (by omega)
  have c6 : w1.cell? ⟨g, 6, none⟩ = some nilS := cs 6 (by omega)
  have c7 : w1.cell? ⟨g, 7, none⟩ = some nilS := cs 7 (by omega)
  have c8 : w1.cell? ⟨g, 8, none⟩ = some nilS := cs 8 (by omega)
  have c9 : w1.cell? ⟨g, 9, none⟩ = some nilS := cs 9 (by omega)
  have c10 : w1.cell? ⟨g, 10, none⟩ = some nilS := cs 10 (by omega)
  have c11 : w1.cell? ⟨g, 11, none⟩ = some nilS := cs 11 (by omega)
  have c12 : w1.cell? ⟨g, 12, none⟩ = some nilS := cs 12 (by omega)
  have c13 : w1.cell? ⟨g, 13, none⟩ = some nilS := cs 13 (by omega)
  have c14 : w1.cell? ⟨g, 14, none⟩ = some nilS := cs 14 (by omega)
  have c15 : w1.cell? ⟨g, 15, none⟩ = some nilS := cs 15 (by omega)
  have c16 : w1.cell? ⟨g, 16, none⟩ = some nilS := cs 16 (by omega)
  have c17 : w1.cell? ⟨g, 17, none⟩ = some nilS := cs 17 (by omega)
  have c18 : w1.cell? ⟨g, 18, none⟩ = some nilS := cs 18 (by omega)
  have c19 : w1.cell? ⟨g, 19, none⟩ = some nilS := cs 19 (by omega)
  have c20 : w1.cell? ⟨g, 20, none⟩ = some nilS := cs 20 (by omega)
  clear hT1 hrow1 cs c0
  go_wp2_with fail
  refine (apartInts_nil _).mono ?_
  rintro e w2 ⟨rfl, rfl⟩
  go_wp2_with fail
  refine (apartTexts_nil _).mono ?_
  rintro e w2 ⟨rfl, rfl⟩
  go_wp2_with fail
  refine (apartPieces_nil _).mono ?_
  rintro e w3 ⟨rfl, rfl⟩
  go_wp2_with fail
  refine (apartIds_nil _).mono ?_
  rintro e w4 ⟨rfl, rfl⟩
  go_wp2_with fail
  refine (apartAcl_nil _).mono ?_
  rintro e w4 ⟨rfl, rfl⟩
  go_wp2_with fail
  refine (apartRequests_nil _).mono ?_
  rintro e w4 ⟨rfl, rfl⟩
  go_wp2_with fail
  refine (apartTxns_nil _).mono ?_
  rintro e w4 ⟨rfl, rfl⟩
  go_wp2_with fail
  refine (apartResults_nil _).mono ?_
  rintro e w4 ⟨rfl, rfl⟩
  go_wp2_with fail
  refine (apartNodes_nil _).mono ?_
  rintro e w4 ⟨rfl, rfl⟩
  go_wp2_with fail
  refine (apartSessions_nil _).mono ?_
  rintro e w4 ⟨rfl, rfl⟩
  go_wp2_with fail
  refine (apartChanges_nil _).mono ?_
  rintro e w4 ⟨rfl, rfl⟩
  go_wp2_with fail
  refine (apartFiles_nil _).mono ?_
  rintro e w4 ⟨rfl, rfl⟩
  go_wp2_with fail
  refine (apartPackets_nil _).mono ?_
  rintro e w4 ⟨rfl, rfl⟩
  go_wp2_with fail
  refine (apartMessages_nil _).mono ?_
  rintro e w4 ⟨rfl, rfl⟩
  go_wp2_with fail
  refine (apartWatches_nil _).mono ?_
  rintro e w4 ⟨rfl, rfl⟩
  go_wp2_with fail
  refine (apartFired_nil _).mono ?_
  rintro e w4 ⟨rfl, rfl⟩
  go_wp2_with fail
  refine (apartFacts_nil _).mono ?_
  rintro e w4 ⟨rfl, rfl⟩
  go_wp2_with fail
  refine (apartSends_nil _).mono ?_
  rintro e w4 ⟨rfl, rfl⟩
  go_wp2_with fail
  refine (apartEvents_nil _).mono ?_
  rintro e w4 ⟨rfl, rfl⟩
  go_wp2_with fail
  refine (apartFactss_nil _).mono ?_
  rintro e w4 ⟨rfl, rfl⟩
  go_wp2
  go_ret
  exact ⟨rfl, HE.out⟩

/-- The Bag behind its own look. -/
theorem BagIs.turned {w w' : World} {g B : Nat} {bv : Value} {ps qs : List Pc} (h : BagIs w g bv nilS ps [] B) (ht : Turned w w' (feet qs)) (hl : ∀ q ∈ qs, Lies w 5 q) : BagIs w' g bv nilS ps [] B := by
  have nof : ∀ (k : Nat) (T : TypeId) (cs : Array Value), w.heap[k]? = some (Obj.cells cs T (0, 0)) → T ≠ 5 → w'.heap[k]? = w.heap[k]? := fun k T cs hr hT => ht.same k (lt_of_block hr) (fun x hs => by
    obtain ⟨q, hq, hf⟩ := hs
    obtain ⟨_, cs2, hr2⟩ := (hl q hq).foot_lt hf
    rw [hr] at hr2
    simp at hr2
    exact hT hr2.2)
  refine ⟨by rw [nof g _ _ h.row (by decide)]; exact h.row, ?_, World.ownsRow_nil _ _ _ _⟩
  obtain ⟨h1, h2 | ⟨g', cap, cur, e, a2, a3, a4⟩⟩ := h.bs
  · exact ⟨h1, .inl h2⟩
  · exact ⟨h1, .inr ⟨g', cap, cur, e, a2, by rw [nof g' _ _ a3 (by decide)]; exact a3, a4⟩⟩

theorem BagIs.kept {w w' : World} {S : Nat → Prop} {g B : Nat} {bv : Value} {ps : List Pc} (h : BagIs w g bv nilS ps [] B) (hk : Kept w w' S) (hg : ¬ S g) (hb : ∀ k, bv.ownBlock = some k → ¬ S k) : BagIs w' g bv nilS ps [] B :=
  ⟨hk.heap h.row hg, ownsRow_kept h.bs hk hb, World.ownsRow_nil _ _ _ _⟩

/-- Lists of bytes that lie apart, in blocks from B on. -/
structure Bys (B : Nat) (ps : List Pc) (w : World) : Prop where
  lies : ∀ p ∈ ps, Lies w 5 p
  few : ∀ p ∈ ps, p.n ≤ 70000000000000
  base : ∀ p ∈ ps, ∀ k x, p.foot k x → B ≤ k
  ap : ps.Pairwise (fun p q => ∀ k x, p.foot k x → ¬ q.foot k x)

theorem Bys.apart {B : Nat} {ps : List Pc} {w : World} (h : Bys B ps w) : ApartPcs ps := by
  have hp := List.pairwise_iff_getElem.1 h.ap
  intro i j hi hj hne k x h1 h2
  rcases Nat.lt_or_gt_of_ne hne with hlt | hlt
  · exact hp i j hi hj hlt k x h1 h2
  · exact hp j i hj hi hlt k x h2 h1

theorem Bys.nil (B : Nat) (w : World) : Bys B [] w := ⟨fun p h => by simp at h, fun p h => by simp at h, fun p h => by simp at h, List.Pairwise.nil⟩

theorem lies_heap {w w' : World} {E : TypeId} {q : Pc} (h : Lies w E q) (he : ∀ k x, q.foot k x → w'.heap[k]? = w.heap[k]?) : Lies w' E q := by
  refine ⟨h.le, h.most, h.nil, fun hc => ?_⟩
  obtain ⟨k, off, cs, e, hr, hs⟩ := h.at' hc
  exact ⟨k, off, cs, e, by rw [he k off ⟨off, e, Nat.le_refl _, by omega⟩]; exact hr, hs⟩

theorem Bys.kept {B : Nat} {ps : List Pc} {w w' : World} {S : Nat → Prop} (h : Bys B ps w) (hk : Kept w w' S) (hS : ∀ p ∈ ps, ∀ k x, p.foot k x → ¬ S k) : Bys B ps w' :=
  ⟨fun p hp => lies_heap (h.lies p hp) (fun k x hf => hk.block k ((h.lies p hp).foot_lt hf).1 (hS p hp k x hf)), h.few, h.base, h.ap⟩

theorem Bys.later {B : Nat} {ps : List Pc} {w w' : World} (h : Bys B ps w) (hb : Below w.heap.size w w') : Bys B ps w' :=
  h.kept (Below.kept hb) (fun p hp k x hf e => by have := ((h.lies p hp).foot_lt hf).1; omega)

theorem Bys.turned {B : Nat} {ps : List Pc} {w w' : World} {S : Nat → Nat → Prop} (h : Bys B ps w) (ht : Turned w w' S) : Bys B ps w' := ⟨fun p hp => (h.lies p hp).turned ht, h.few, h.base, h.ap⟩

/-- A byte list's block is none of the Bag's. -/
theorem Bys.bag {B : Nat} {ps : List Pc} {w : World} (h : Bys B ps w) {g : Nat} {bv : Value} {qs : List Pc} {B' : Nat} (hb : BagIs w g bv nilS qs [] B') : ∀ p ∈ ps, ∀ k x, p.foot k x → ¬ (k = g ∨ bv.ownBlock = some k) := fun p hp k x hf e => by
  obtain ⟨_, cs, hr⟩ := (h.lies p hp).foot_lt hf
  rcases e with rfl | e
  · rw [hb.row] at hr
    simp at hr
  · rcases hb.bs.2 with ⟨e', _⟩ | ⟨g', cap, cur, e', _, a3, _⟩
    · rw [e'] at e; simp [Value.ownBlock] at e
    · rw [e'] at e
      simp [Value.ownBlock] at e
      subst e
      rw [a3] at hr
      simp at hr

/-- Bytes of one's own are none of the Bag's. -/
theorem Owns.bag {w w' : World} {B : Nat} {v : Value} {bs : List Int} (h : Owns w B v bs) {g : Nat} {bv : Value} {qs : List Pc} {B' : Nat} (hb : BagIs w g bv nilS qs [] B') (hk : Kept w w' (fun k => k = g ∨ bv.ownBlock = some k)) : Owns w' B v bs := by
  refine Owns.kept h hk (fun k e e' => ?_)
  rcases h.2 with ⟨q, _⟩ | ⟨gv, cap, cur, q, _, a3, _⟩
  · rw [q] at e; simp [Value.ownBlock] at e
  · rw [q] at e
    simp [Value.ownBlock] at e
    subst e
    rcases e' with rfl | e'
    · rw [hb.row] at a3
      simp at a3
    · rcases hb.bs.2 with ⟨e2, _⟩ | ⟨g', cap', cur', e2, _, a3', _⟩
      · rw [e2] at e'; simp [Value.ownBlock] at e'
      · rw [e2] at e'
        simp [Value.ownBlock] at e'
        subst e'
        rw [a3'] at a3
        simp at a3

theorem BagIs.below {w w' : World} {g B C : Nat} {bv : Value} {qs : List Pc} (hb : BagIs w g bv nilS qs [] B) (hk : Kept w w' (fun k => k = g ∨ bv.ownBlock = some k)) (hC : C ≤ B) (hg : C ≤ g) : Below C w w' := by
  have hgw := lt_of_block hb.row
  refine ⟨hk.os, hk.tape, hk.output, hk.size, fun k hk' => hk.block k (by omega) (fun e => ?_)⟩
  rcases e with rfl | e
  · omega
  · have := (hb.bs.lt k e).1; omega

/-- A list that a call made, beside the others. -/
theorem Bys.add {B : Nat} {ps : List Pc} {w w' : World} (h : Bys B ps w) (hb : Below w.heap.size w w') (hB : B ≤ w.heap.size) {a : Option Addr} {n c : Nat} {bs : List Int} (ho : Owns w' w.heap.size (.slice a n c) bs) (hl : bs.length ≤ 70000000000000) : Bys B (ps ++ [⟨a, n, c⟩]) w' := by
  have h' := h.later hb
  have ho' : w'.ownsRow w.heap.size 5 1 (Pc.val ⟨a, n, c⟩) (bs.map (Value.int .u8)).length (bs.map (Value.int .u8)) := by rw [List.length_map]; exact ho
  obtain ⟨p, e, hn, _, hl2, hf⟩ := own_has ho'
  have e2 : (⟨a, n, c⟩ : Pc) = p := by
    obtain ⟨a', n', c'⟩ := p
    simp [Pc.val] at e
    obtain ⟨rfl, rfl, rfl⟩ := e
    rfl
  subst e2
  rw [List.length_map] at hn
  refine ⟨fun q hq => ?_, fun q hq => ?_, fun q hq => ?_, List.pairwise_append.2 ⟨h.ap, List.pairwise_singleton _ _, fun p hp q hq k x h1 h2 => ?_⟩⟩
  · rcases List.mem_append.1 hq with hq | hq
    · exact h'.lies q hq
    · rw [List.mem_singleton.1 hq]; exact hl2
  · rcases List.mem_append.1 hq with hq | hq
    · exact h.few q hq
    · rw [List.mem_singleton.1 hq]; omega
  · rcases List.mem_append.1 hq with hq | hq
    · exact h.base q hq
    · rw [List.mem_singleton.1 hq]; exact fun k x hk => Nat.le_trans hB (hf k x hk)
  · rw [List.mem_singleton.1 hq] at h2
    have a1 := ((h.lies p hp).foot_lt h1).1
    have a2 := hf k x h2
    omega

/-- What Write's error is; what its bytes are. -/
def wErr (t : TxD) : Int := if txOk t then 0 else 40
def wByt (t : TxD) : List Int := if txOk t then txB t else []

theorem wByt_len (t : TxD) : (wByt t).length ≤ 70000000000000 := by
  unfold wByt
  split
  · rename_i h
    have hm : mayP 8 0 t.rq = true := by
      simp only [txOk, Bool.and_eq_true] at h
      exact h.2
    have := encOut_len t.rq hm
    simp [txB, headB, be4, be8]
    omega
  · simp

abbrev WAns (f : Nat) (cs : List Value) (t : TxD) (w : World) : Prop := Calls Tryz.prog f #[.agg cs.toArray] w fun r w' => ∃ a n c, r = .returned (.tuple #[.slice a n c, .int .i64 (wErr t)]) ∧ Owns w' w.heap.size (.slice a n c) (wByt t) ∧ Below w.heap.size w w'

theorem write_u (t : TxD) (rc : List Value) (w : World) (hr : RqIn w (· < w.heap.size) rc t.rq) (hg : t.good) (hn : Nam w) : WAns 7 (txHead t ++ rc) t w := by
  cases hok : txOk t with
  | true =>
    refine (write_good t rc w hr hg hn hok).mono ?_
    rintro e w' ⟨v, rfl, ho, hb⟩
    obtain ⟨a, n, c, rfl⟩ := owns_shape ho
    exact ⟨a, n, c, by simp [wErr, hok], by simpa [wByt, hok] using ho, hb⟩
  | false =>
    refine (write_no t rc w hr.sees hg hn hok).mono ?_
    rintro e w' ⟨rfl, hb⟩
    exact ⟨none, 0, 0, by simp [wErr, hok], by rw [show wByt t = [] by simp [wByt, hok]]; exact World.ownsRow_nil _ _ _ _, hb⟩

theorem refWrite_u (t : TxD) (rc : List Value) (w : World) (hr : SeesRq w rc t.rq) (hg : t.good) : WAns 8 (txHead t ++ rc) t w := by
  refine (refWrite_any t rc w hr hg).mono ?_
  rintro e w' ⟨v, rfl, ho, hb⟩
  obtain ⟨a, n, c, rfl⟩ := owns_shape ho
  exact ⟨a, n, c, rfl, ho, hb⟩
end Go.Proofs.YtehgibgeghhloaaGreatDoor

/- lagoonref00's SpareAcl and SpareIds over a request's lists: the marks behind a wide list stand. -/
namespace Go.Proofs.YtehgibgeghhloaaGreatDoor
open Go.RowKit Go.Shelf
set_option maxRecDepth 8000

set_option maxHeartbeats 1000000 in
theorem spareAcl_rq (g : Nat) (l : List EnD) (w : World) (h : WidE w g l) (hreach : l.length ≤ 2000000000) (ht : Tab w) (hg0 : 1 < w.heap.size) :
    Calls Tryz.prog 34 #[.slice (some ⟨g, 0, none⟩) l.length (l.length + 64)] w fun e w' => e = .returned (.bool true) ∧ Below w.heap.size w w' := by
  have HT : Hid (Tab w ∧ 1 < w.heap.size) := ⟨ht, hg0⟩
  have HW : Hid (WidE w g l) := h
  clear ht hg0 h
  go_enter Tryz.func34, Tryz.ntmps34
  go_wp2
  go_loopw [4] (fun i wr => ∃ k : Nat, l.length ≤ k ∧ k ≤ l.length + 64 ∧ i = .int .i64 k ∧ Hid (Below w.heap.size w wr ∧ WidE wr g l)) (fun i _ => l.length + 64 - (intOf i).toNat)
  case atStart => exact ⟨l.length, Nat.le_refl _, by omega, rfl, Below.refl _ _, HW.out⟩
  case round =>
    obtain ⟨k, hk0, hk, rfl, HB⟩ := hrel
    by_cases hlt : k < l.length + 64
    · have hd : decide ((k : Int) < ((l.length : Int) + 64)) = true := by simp; omega
      obtain ⟨ms, hms⟩ : ∃ ms, ms = markS (-3000000 - (k : Int)) := ⟨_, rfl⟩
      have hcell : Hid (∀ V, Below w.heap.size w V → WidE V g l → V.cell? ⟨g, k * 3 + 2, none⟩ = some (.string ms)) := fun V _ hV => by
        obtain ⟨cs, h1, h2⟩ := hV
        have := (h2 k hlt).2.2
        rw [h1.cellAt _ (by omega), this]
        unfold weE
        rw [List.getD_eq_getElem?_getD, List.getElem?_eq_none hk0, hms]
        rfl
      have hmm : (ms.toList == (markS (-3000000 - (k : Int))).toList) = true := by rw [hms]; simp
      have HWr : Hid (IntKind.i64.wrap (-3000000 - (k : Int)) = -3000000 - (k : Int)) := by
        show _ = _
        simp [IntKind.wrap, IntKind.bits, IntKind.signed]
        omega
      have i0 : (0 : Int) ≤ (k : Int) := by omega
      have i1 : (k : Int) < (l.length : Int) + 64 := by omega
      go_wp2
      refine wp_region_held_drew (S := fun V' => V'.cell? ⟨g, k * 3 + 2, none⟩ = some (.string ms)) (by kernel_rfl) ?_ (fun hHeld => ?_)
      · exact hcell.out wr.drew (below_drewN HB.out.1 1) (HB.out.2.below (below_drewN (Below.refl _ _) 1))
      refine wpAnyH_take (i := 0) (oi := { dst := some 18, op := Op.move (Operand.tmp 3), type := 29, pos := "spare.go:152", after := #[], guard := none }) (v := ?_) rfl (by kernel_rfl) (by kernel_rfl) (by kernel_rfl) (fun _ _ _ h => h) (Or.inl ⟨by rfl, ?_⟩) (by assumption) ?_
      rotate_left
      · (intro w hSw; (try dsimp only at hSw); go_simp) <;> with_reducible rfl
      try simp only [Act.put, List.setIfInBounds_toArray, List.set_cons_zero, List.set_cons_succ]
      refine wpAnyH_take (i := 1) (oi := { dst := some 19, op := Op.move (Operand.tmp 4), type := 3, pos := "spare.go:152", after := #[], guard := none }) (v := ?_) rfl (by kernel_rfl) (by kernel_rfl) (by kernel_rfl) (fun _ _ _ h => h) (Or.inl ⟨by rfl, ?_⟩) (by assumption) ?_
      rotate_left
      · (intro w hSw; (try dsimp only at hSw); go_simp) <;> with_reducible rfl
      try simp only [Act.put, List.setIfInBounds_toArray, List.set_cons_zero, List.set_cons_succ]
      refine wpAnyH_take (i := 2) (oi := { dst := some 20, op := Op.indexAddr 29 (Operand.tmp 18) (Operand.tmp 19), type := 0, pos := "spare.go:152", after := #[{ on := 0, ground := Ground.data }, { on := 1, ground := Ground.data }], guard := none }) (v := ?_) rfl (by kernel_rfl) (by kernel_rfl) (by kernel_rfl) (fun _ _ _ h => h) (Or.inl ⟨by rfl, ?_⟩) (by assumption) ?_
      rotate_left
      · (intro w hSw; (try dsimp only at hSw); go_simp) <;> with_reducible rfl
      try simp only [Act.put, List.setIfInBounds_toArray, List.set_cons_zero, List.set_cons_succ]
      refine wpAnyH_take (i := 3) (oi := { dst := some 21, op := Op.fieldAddr 122 (Operand.tmp 20) 1, type := 0, pos := "spare.go:152", after := #[{ on := 2, ground := Ground.data }], guard := none }) (v := ?_) rfl (by kernel_rfl) (by kernel_rfl) (by kernel_rfl) (fun _ _ _ h => h) (Or.inl ⟨by rfl, ?_⟩) (by assumption) ?_
      rotate_left
      · (intro w hSw; (try dsimp only at hSw); go_simp) <;> with_reducible rfl
      try simp only [Act.put, List.setIfInBounds_toArray, List.set_cons_zero, List.set_cons_succ]
      refine wpAnyH_take (i := 4) (oi := { dst := some 22, op := Op.fieldAddr 120 (Operand.tmp 21) 1, type := 0, pos := "spare.go:152", after := #[{ on := 3, ground := Ground.data }], guard := none }) (v := ?_) rfl (by kernel_rfl) (by kernel_rfl) (by kernel_rfl) (fun _ _ _ h => h) (Or.inl ⟨by rfl, ?_⟩) (by assumption) ?_
      rotate_left
      · (intro w hSw; (try dsimp only at hSw); go_simp) <;> with_reducible rfl
      try simp only [Act.put, List.setIfInBounds_toArray, List.set_cons_zero, List.set_cons_succ]
      refine wpAnyH_take (i := 5) (oi := { dst := some 23, op := Op.load 9 (Operand.tmp 22), type := 9, pos := "spare.go:152", after := #[{ on := 4, ground := Ground.data }], guard := none }) (v := ?_) rfl (by kernel_rfl) (by kernel_rfl) (by kernel_rfl) (fun _ _ _ h => h) (Or.inl ⟨by rfl, ?_⟩) (by assumption) ?_
      rotate_left
      · (intro w hSw; (try dsimp only at hSw); go_simp) <;> with_reducible rfl
      try simp only [Act.put, List.setIfInBounds_toArray, List.set_cons_zero, List.set_cons_succ]
      refine wpAnyH_take (i := 6) (oi := { dst := some 24, op := Op.move (Operand.tmp 4), type := 3, pos := "spare.go:152", after := #[], guard := none }) (v := ?_) rfl (by kernel_rfl) (by kernel_rfl) (by kernel_rfl) (fun _ _ _ h => h) (Or.inl ⟨by rfl, ?_⟩) (by assumption) ?_
      rotate_left
      · (intro w hSw; (try dsimp only at hSw); go_simp) <;> with_reducible rfl
      try simp only [Act.put, List.setIfInBounds_toArray, List.set_cons_zero, List.set_cons_succ]
      refine wpAnyH_take (i := 7) (oi := { dst := some 25, op := Op.binOp BinOp.sub 3 (Operand.const (Value.int IntKind.i64 (-3000000))) (Operand.tmp 24) 3, type := 3, pos := "spare.go:152", after := #[{ on := 6, ground := Ground.data }], guard := none }) (v := ?_) rfl (by kernel_rfl) (by kernel_rfl) (by kernel_rfl) (fun _ _ _ h => h) (Or.inl ⟨by rfl, ?_⟩) (by assumption) ?_
      rotate_left
      · (intro w hSw; (try dsimp only at hSw); go_simp; (rw [HWr.out]) <;> with_reducible rfl)
      try simp only [Act.put, List.setIfInBounds_toArray, List.set_cons_zero, List.set_cons_succ]
      refine wpAnyH_ready (rs := [8]) (by kernel_rfl) (by simp) ?_
      refine AllReadyH.cons (o := { dst := some 26, op := Op.call { callee := Callee.value (Operand.func 97), args := #[Operand.tmp 25], argTypes := #[3] }, type := 9, pos := "spare.go:152", after := #[{ on := 7, ground := Ground.data }], guard := none }) rfl (fun K hK => ?_) AllReadyH.nil
      go_simp
      refine (mark_is _ _ (by omega) (by omega) (HT.out.1.below (below_drewN HB.out.1 1) HT.out.2)).mono ?_
      rintro e wc ⟨rfl, hb⟩
      have HB2 : Hid (Below w.heap.size w wc ∧ WidE wc g l) := ⟨(below_drewN HB.out.1 1).trans (hb.mono (below_drewN HB.out.1 1).size), (HB.out.2.below (below_drewN (Below.refl _ _) 1)).below hb⟩
      clear hHeld
      refine hK.out _ _ (hcell.out wc HB2.out.1 HB2.out.2) (fun hHeld => ?_)
      clear hK K
      refine wpAnyH_take (i := 9) (oi := { dst := some 27, op := Op.binOp BinOp.eql 9 (Operand.tmp 23) (Operand.tmp 26) 9, type := 4, pos := "spare.go:152", after := #[{ on := 5, ground := Ground.data }, { on := 8, ground := Ground.data }], guard := none }) (v := ?_) rfl (by kernel_rfl) (by kernel_rfl) (by kernel_rfl) (fun _ _ _ h => h) (Or.inl ⟨by rfl, ?_⟩) (by assumption) ?_
      rotate_left
      · (intro w hSw; (try dsimp only at hSw); go_simp) <;> with_reducible rfl
      try simp only [Act.put, List.setIfInBounds_toArray, List.set_cons_zero, List.set_cons_succ]
      refine wpAnyH_take (i := 10) (oi := { dst := some 28, op := Op.unOp UnOp.not 4 (Operand.tmp 27), type := 4, pos := "spare.go:152", after := #[{ on := 9, ground := Ground.data }], guard := none }) (v := ?_) rfl (by kernel_rfl) (by kernel_rfl) (by kernel_rfl) (fun _ _ _ h => h) (Or.inl ⟨by rfl, ?_⟩) (by assumption) ?_
      rotate_left
      · (intro w hSw; (try dsimp only at hSw); go_simp) <;> with_reducible rfl
      try simp only [Act.put, List.setIfInBounds_toArray, List.set_cons_zero, List.set_cons_succ]
      refine wpAnyH_done (by kernel_rfl) ?_ _
      go_wp2
      go_roundw
      case rel => exact ⟨k + 1, by omega, by omega, by go_num, HB2⟩
      case measure => simp [intOf]; omega
    · have hd : decide ((k : Int) < ((l.length : Int) + 64)) = false := by simp; omega
      go_wp2
      go_ret
      exact ⟨rfl, HB.out.1⟩

set_option maxHeartbeats 1000000 in
theorem spareIds_rq (g : Nat) (l : List IdD) (w : World) (h : WidI w g l) (hreach : l.length ≤ 2000000000) (ht : Tab w) (hg0 : 1 < w.heap.size) :
    Calls Tryz.prog 35 #[.slice (some ⟨g, 0, none⟩) l.length (l.length + 64)] w fun e w' => e = .returned (.bool true) ∧ Below w.heap.size w w' := by
  have HT : Hid (Tab w ∧ 1 < w.heap.size) := ⟨ht, hg0⟩
  have HW : Hid (WidI w g l) := h
  clear ht hg0 h
  go_enter Tryz.func35, Tryz.ntmps35
  go_wp2
  go_loopw [4] (fun i wr => ∃ k : Nat, l.length ≤ k ∧ k ≤ l.length + 64 ∧ i = .int .i64 k ∧ Hid (Below w.heap.size w wr ∧ WidI wr g l)) (fun i _ => l.length + 64 - (intOf i).toNat)
  case atStart => exact ⟨l.length, Nat.le_refl _, by omega, rfl, Below.refl _ _, HW.out⟩
  case round =>
    obtain ⟨k, hk0, hk, rfl, HB⟩ := hrel
    by_cases hlt : k < l.length + 64
    · have hd : decide ((k : Int) < ((l.length : Int) + 64)) = true := by simp; omega
      obtain ⟨ms, hms⟩ : ∃ ms, ms = markS (-3000000 - (k : Int)) := ⟨_, rfl⟩
      have hcell : Hid (∀ V, Below w.heap.size w V → WidI V g l → V.cell? ⟨g, k * 2 + 1, none⟩ = some (.string ms)) := fun V _ hV => by
        obtain ⟨cs, h1, h2⟩ := hV
        have := (h2 k hlt).2
        rw [h1.cellAt _ (by omega), this]
        unfold weI
        rw [List.getD_eq_getElem?_getD, List.getElem?_eq_none hk0, hms]
        rfl
      have hmm : (ms.toList == (markS (-3000000 - (k : Int))).toList) = true := by rw [hms]; simp
      have HWr : Hid (IntKind.i64.wrap (-3000000 - (k : Int)) = -3000000 - (k : Int)) := by
        show _ = _
        simp [IntKind.wrap, IntKind.bits, IntKind.signed]
        omega
      have i0 : (0 : Int) ≤ (k : Int) := by omega
      have i1 : (k : Int) < (l.length : Int) + 64 := by omega
      go_wp2
      refine wp_region_held_drew (S := fun V' => V'.cell? ⟨g, k * 2 + 1, none⟩ = some (.string ms)) (by kernel_rfl) ?_ (fun hHeld => ?_)
      · exact hcell.out wr.drew (below_drewN HB.out.1 1) (HB.out.2.below (below_drewN (Below.refl _ _) 1))
      refine wpAnyH_take (i := 0) (oi := { dst := some 18, op := Op.move (Operand.tmp 3), type := 30, pos := "spare.go:128", after := #[], guard := none }) (v := ?_) rfl (by kernel_rfl) (by kernel_rfl) (by kernel_rfl) (fun _ _ _ h => h) (Or.inl ⟨by rfl, ?_⟩) (by assumption) ?_
      rotate_left
      · (intro w hSw; (try dsimp only at hSw); go_simp) <;> with_reducible rfl
      try simp only [Act.put, List.setIfInBounds_toArray, List.set_cons_zero, List.set_cons_succ]
      refine wpAnyH_take (i := 1) (oi := { dst := some 19, op := Op.move (Operand.tmp 4), type := 3, pos := "spare.go:128", after := #[], guard := none }) (v := ?_) rfl (by kernel_rfl) (by kernel_rfl) (by kernel_rfl) (fun _ _ _ h => h) (Or.inl ⟨by rfl, ?_⟩) (by assumption) ?_
      rotate_left
      · (intro w hSw; (try dsimp only at hSw); go_simp) <;> with_reducible rfl
      try simp only [Act.put, List.setIfInBounds_toArray, List.set_cons_zero, List.set_cons_succ]
      refine wpAnyH_take (i := 2) (oi := { dst := some 20, op := Op.indexAddr 30 (Operand.tmp 18) (Operand.tmp 19), type := 0, pos := "spare.go:128", after := #[{ on := 0, ground := Ground.data }, { on := 1, ground := Ground.data }], guard := none }) (v := ?_) rfl (by kernel_rfl) (by kernel_rfl) (by kernel_rfl) (fun _ _ _ h => h) (Or.inl ⟨by rfl, ?_⟩) (by assumption) ?_
      rotate_left
      · (intro w hSw; (try dsimp only at hSw); go_simp) <;> with_reducible rfl
      try simp only [Act.put, List.setIfInBounds_toArray, List.set_cons_zero, List.set_cons_succ]
      refine wpAnyH_take (i := 3) (oi := { dst := some 21, op := Op.fieldAddr 120 (Operand.tmp 20) 1, type := 0, pos := "spare.go:128", after := #[{ on := 2, ground := Ground.data }], guard := none }) (v := ?_) rfl (by kernel_rfl) (by kernel_rfl) (by kernel_rfl) (fun _ _ _ h => h) (Or.inl ⟨by rfl, ?_⟩) (by assumption) ?_
      rotate_left
      · (intro w hSw; (try dsimp only at hSw); go_simp) <;> with_reducible rfl
      try simp only [Act.put, List.setIfInBounds_toArray, List.set_cons_zero, List.set_cons_succ]
      refine wpAnyH_take (i := 4) (oi := { dst := some 22, op := Op.load 9 (Operand.tmp 21), type := 9, pos := "spare.go:128", after := #[{ on := 3, ground := Ground.data }], guard := none }) (v := ?_) rfl (by kernel_rfl) (by kernel_rfl) (by kernel_rfl) (fun _ _ _ h => h) (Or.inl ⟨by rfl, ?_⟩) (by assumption) ?_
      rotate_left
      · (intro w hSw; (try dsimp only at hSw); go_simp) <;> with_reducible rfl
      try simp only [Act.put, List.setIfInBounds_toArray, List.set_cons_zero, List.set_cons_succ]
      refine wpAnyH_take (i := 5) (oi := { dst := some 23, op := Op.move (Operand.tmp 4), type := 3, pos := "spare.go:128", after := #[], guard := none }) (v := ?_) rfl (by kernel_rfl) (by kernel_rfl) (by kernel_rfl) (fun _ _ _ h => h) (Or.inl ⟨by rfl, ?_⟩) (by assumption) ?_
      rotate_left
      · (intro w hSw; (try dsimp only at hSw); go_simp) <;> with_reducible rfl
      try simp only [Act.put, List.setIfInBounds_toArray, List.set_cons_zero, List.set_cons_succ]
      refine wpAnyH_take (i := 6) (oi := { dst := some 24, op := Op.binOp BinOp.sub 3 (Operand.const (Value.int IntKind.i64 (-3000000))) (Operand.tmp 23) 3, type := 3, pos := "spare.go:128", after := #[{ on := 5, ground := Ground.data }], guard := none }) (v := ?_) rfl (by kernel_rfl) (by kernel_rfl) (by kernel_rfl) (fun _ _ _ h => h) (Or.inl ⟨by rfl, ?_⟩) (by assumption) ?_
      rotate_left
      · (intro w hSw; (try dsimp only at hSw); go_simp; (rw [HWr.out]) <;> with_reducible rfl)
      try simp only [Act.put, List.setIfInBounds_toArray, List.set_cons_zero, List.set_cons_succ]
      refine wpAnyH_ready (rs := [7]) (by kernel_rfl) (by simp) ?_
      refine AllReadyH.cons (o := { dst := some 25, op := Op.call { callee := Callee.value (Operand.func 97), args := #[Operand.tmp 24], argTypes := #[3] }, type := 9, pos := "spare.go:128", after := #[{ on := 6, ground := Ground.data }], guard := none }) rfl (fun K hK => ?_) AllReadyH.nil
      go_simp
      refine (mark_is _ _ (by omega) (by omega) (HT.out.1.below (below_drewN HB.out.1 1) HT.out.2)).mono ?_
      rintro e wc ⟨rfl, hb⟩
      have HB2 : Hid (Below w.heap.size w wc ∧ WidI wc g l) := ⟨(below_drewN HB.out.1 1).trans (hb.mono (below_drewN HB.out.1 1).size), (HB.out.2.below (below_drewN (Below.refl _ _) 1)).below hb⟩
      clear hHeld
      refine hK.out _ _ (hcell.out wc HB2.out.1 HB2.out.2) (fun hHeld => ?_)
      clear hK K
      refine wpAnyH_take (i := 8) (oi := { dst := some 26, op := Op.binOp BinOp.eql 9 (Operand.tmp 22) (Operand.tmp 25) 9, type := 4, pos := "spare.go:128", after := #[{ on := 4, ground := Ground.data }, { on := 7, ground := Ground.data }], guard := none }) (v := ?_) rfl (by kernel_rfl) (by kernel_rfl) (by kernel_rfl) (fun _ _ _ h => h) (Or.inl ⟨by rfl, ?_⟩) (by assumption) ?_
      rotate_left
      · (intro w hSw; (try dsimp only at hSw); go_simp) <;> with_reducible rfl
      try simp only [Act.put, List.setIfInBounds_toArray, List.set_cons_zero, List.set_cons_succ]
      refine wpAnyH_take (i := 9) (oi := { dst := some 27, op := Op.unOp UnOp.not 4 (Operand.tmp 26), type := 4, pos := "spare.go:128", after := #[{ on := 8, ground := Ground.data }], guard := none }) (v := ?_) rfl (by kernel_rfl) (by kernel_rfl) (by kernel_rfl) (fun _ _ _ h => h) (Or.inl ⟨by rfl, ?_⟩) (by assumption) ?_
      rotate_left
      · (intro w hSw; (try dsimp only at hSw); go_simp) <;> with_reducible rfl
      try simp only [Act.put, List.setIfInBounds_toArray, List.set_cons_zero, List.set_cons_succ]
      refine wpAnyH_done (by kernel_rfl) ?_ _
      go_wp2
      go_roundw
      case rel => exact ⟨k + 1, by omega, by omega, by go_num, HB2⟩
      case measure => simp [intOf]; omega
    · have hd : decide ((k : Int) < ((l.length : Int) + 64)) = false := by simp; omega
      go_wp2
      go_ret
      exact ⟨rfl, HB.out.1⟩

end Go.Proofs.YtehgibgeghhloaaGreatDoor
