/- A Bag that holds lists of bytes alone; lists of bytes that lie apart (WeF's first part, for seats without layer 4). -/
import Derived.Test.YtbdokdhconhifaaGreatDoorRqJ
import Derived.Test.YtbdokdhconhifaaGreatDoorTurn3J
import Derived.Test.YtbdokdhconhifaaGreatDoorCopyLJ
import Derived.Test.YtbdokdhconhifaaGreatDoorMemJ
import Derived.Lib.Bytealg
import Derived.Shelf.Small.Strs
import Derived.Shelf.Strconv.Itoa0
import Derived.Shelf.Strconv.Itoa1
import Derived.Shelf.LaysM
import Derived.Shelf.Strconv.Itoa2
import Derived.Shelf.Strconv.Itoa3
import Derived.Test.YtbdokdhconhifaaGreatDoorProg
namespace Go.Proofs.YtbdokdhconhifaaGreatDoor
open Go.RowKit
set_option maxRecDepth 8000

theorem eqBytes_alike (v u : Value) (xs : List Int) (w : World) (h : Sees w v xs) (g : Sees w u xs) : Calls Tryz.prog 17 #[v, u] w fun e w' => e = .returned (.bool true) ∧ Below w.heap.size w w' := by
  refine (eqBytes_any v u xs xs w h g).mono ?_
  rintro e w' ⟨rfl, n, rfl⟩
  exact ⟨by simp, below_drewN (Below.refl _ _) n⟩

set_option maxHeartbeats 2000000 in
theorem bagApart_b (g B : Nat) (bv : Value) (ps : List Pc) (w : World) (h : BagIs w g bv nilS ps [] B) (hl : ∀ q ∈ ps, Lies w 5 q) (hap : ApartPcs ps) (hn : ps.length ≤ 600) (hb : ∀ q ∈ ps, q.n ≤ 70000000000000) :
    Calls Tryz.prog 15 #[.pointer (some ⟨g, 0, none⟩)] w fun e w' => e = .returned (.bool true) ∧ Turned w w' (feet ps) := by
  have cs := bag_cells h.row
  have H : Hid (BagIs w g bv nilS ps [] B ∧ (∀ q ∈ ps, Lies w 5 q) ∧ ApartPcs ps ∧ (∀ q ∈ ps, q.n ≤ 70000000000000)) := ⟨h, hl, hap, hb⟩
  have c0 : w.cell? ⟨g, 0, none⟩ = some bv := cs 0 (by omega)
  clear h hl hap hb cs
  go_enter Tryz.func15, Tryz.ntmps15
  go_wp2_with fail
  refine (apartBytes_any bv ps _ (sees_own H.out.1.bs) H.out.2.1 H.out.2.2.1 hn H.out.2.2.2).mono ?_
  rintro e w1 ⟨rfl, hT1⟩
  have hrow1 : w1.heap[g]? = some (.cells (bagCells bv nilS) 55 (0, 0)) := by
    rw [hT1.same g (lt_of_block H.out.1.row) (fun x hs => ?_)]
    · exact H.out.1.row
    · obtain ⟨q, hq, hf⟩ := hs
      obtain ⟨_, cs2, hr2⟩ := (H.out.2.1 q hq).foot_lt hf
      rw [H.out.1.row] at hr2
      simp at hr2
  have HE : Hid (Turned w w1 (feet ps)) := hT1
  have cs := bag_cells hrow1
  have c1 : w1.cell? ⟨g, 1, none⟩ = some nilS := cs 1 (by omega)
  have c2 : w1.cell? ⟨g, 2, none⟩ = some nilS := cs 2 (by omega)
  have c3 : w1.cell? ⟨g, 3, none⟩ = some nilS := cs 3 (by omega)
  have c4 : w1.cell? ⟨g, 4, none⟩ = some nilS := cs 4 (by omega)
  have c5 : w1.cell? ⟨g, 5, none⟩ = some nilS := cs 5 (by omega)
  have c6 : w1.cell? ⟨g, 6, none⟩ = some nilS := cs 6 (by omega)
  have c7 : w1.cell? ⟨g, 7, none⟩ = some nilS := cs 7 (by omega)
  have c8 : w1.cell? ⟨g, 8, none⟩ = some nilS := cs 8 (by omega)
  have c9 : w1.cell? ⟨g, 9, none⟩ = some nilS := cs 9 (by omega)
  have c10 : w1.cell? ⟨g, 10, none⟩ = some nilS := cs 10 (by omega)
  have c11 : w1.cell? ⟨g, 11, none⟩ = some nilS := cs 11 (by omega)
  have c12 : w1.cell? ⟨g, 12, none⟩ = some nilS := cs 12 (by omega)
  have c13 : w1.cell? ⟨g, 13, none⟩ = some nilS := cs 13 (by omega)
  have c14 : w1.cell? ⟨g, 14, none⟩ = some nilS := cs 14 (by omega)
  have c15 : w1.cell? ⟨g, 15, none⟩ = some nilS := cs 15 (by omega)
  have c16 : w1.cell? ⟨g, 16, none⟩ = some nilS := cs 16 (by omega)
  have c17 : w1.cell? ⟨g, 17, none⟩ = some nilS := cs 17 (by omega)
  have c18 : w1.cell? ⟨g, 18, none⟩ = some nilS := cs 18 (by omega)
  have c19 : w1.cell? ⟨g, 19, none⟩ = some nilS := cs 19 (by omega)
  have c20 : w1.cell? ⟨g, 20, none⟩ = some nilS := cs 20 (by omega)
  clear hT1 hrow1 cs c0
  go_wp2_with fail
  refine (apartInts_nil _).mono ?_
  rintro e w2 ⟨rfl, rfl⟩
  go_wp2_with fail
  refine (apartTexts_nil _).mono ?_
  rintro e w2 ⟨rfl, rfl⟩
  go_wp2_with fail
  refine (apartPieces_nil _).mono ?_
  rintro e w3 ⟨rfl, rfl⟩
  go_wp2_with fail
  refine (apartIds_nil _).mono ?_
  rintro e w4 ⟨rfl, rfl⟩
  go_wp2_with fail
  refine (apartAcl_nil _).mono ?_
  rintro e w4 ⟨rfl, rfl⟩
  go_wp2_with fail
  refine (apartRequests_nil _).mono ?_
  rintro e w4 ⟨rfl, rfl⟩
  go_wp2_with fail
  refine (apartTxns_nil _).mono ?_
  rintro e w4 ⟨rfl, rfl⟩
  go_wp2_with fail
  refine (apartResults_nil _).mono ?_
  rintro e w4 ⟨rfl, rfl⟩
  go_wp2_with fail
  refine (apartNodes_nil _).mono ?_
  rintro e w4 ⟨rfl, rfl⟩
  go_wp2_with fail
  refine (apartSessions_nil _).mono ?_
  rintro e w4 ⟨rfl, rfl⟩
  go_wp2_with fail
  refine (apartChanges_nil _).mono ?_
  rintro e w4 ⟨rfl, rfl⟩
  go_wp2_with fail
  refine (apartFiles_nil _).mono ?_
  rintro e w4 ⟨rfl, rfl⟩
  go_wp2_with fail
  refine (apartPackets_nil _).mono ?_
  rintro e w4 ⟨rfl, rfl⟩
  go_wp2_with fail
  refine (apartMessages_nil _).mono ?_
  rintro e w4 ⟨rfl, rfl⟩
  go_wp2_with fail
  refine (apartWatches_nil _).mono ?_
  rintro e w4 ⟨rfl, rfl⟩
  go_wp2_with fail
  refine (apartFired_nil _).mono ?_
  rintro e w4 ⟨rfl, rfl⟩
  go_wp2_with fail
  refine (apartFacts_nil _).mono ?_
  rintro e w4 ⟨rfl, rfl⟩
  go_wp2_with fail
  refine (apartSends_nil _).mono ?_
  rintro e w4 ⟨rfl, rfl⟩
  go_wp2_with fail
  refine (apartEvents_nil _).mono ?_
  rintro e w4 ⟨rfl, rfl⟩
  go_wp2_with fail
  refine (apartFactss_nil _).mono ?_
  rintro e w4 ⟨rfl, rfl⟩
  go_wp2
  go_ret
  exact ⟨rfl, HE.out⟩

/-- The Bag behind its own look. -/
theorem BagIs.turned {w w' : World} {g B : Nat} {bv : Value} {ps qs : List Pc} (h : BagIs w g bv nilS ps [] B) (ht : Turned w w' (feet qs)) (hl : ∀ q ∈ qs, Lies w 5 q) : BagIs w' g bv nilS ps [] B := by
  have nof : ∀ (k : Nat) (T : TypeId) (cs : Array Value), w.heap[k]? = some (Obj.cells cs T (0, 0)) → T ≠ 5 → w'.heap[k]? = w.heap[k]? := fun k T cs hr hT => ht.same k (lt_of_block hr) (fun x hs => by
    obtain ⟨q, hq, hf⟩ := hs
    obtain ⟨_, cs2, hr2⟩ := (hl q hq).foot_lt hf
    rw [hr] at hr2
    simp at hr2
    exact hT hr2.2)
  refine ⟨by rw [nof g _ _ h.row (by decide)]; exact h.row, ?_, World.ownsRow_nil _ _ _ _⟩
  obtain ⟨h1, h2 | ⟨g', cap, cur, e, a2, a3, a4⟩⟩ := h.bs
  · exact ⟨h1, .inl h2⟩
  · exact ⟨h1, .inr ⟨g', cap, cur, e, a2, by rw [nof g' _ _ a3 (by decide)]; exact a3, a4⟩⟩

theorem BagIs.kept {w w' : World} {S : Nat → Prop} {g B : Nat} {bv : Value} {ps : List Pc} (h : BagIs w g bv nilS ps [] B) (hk : Kept w w' S) (hg : ¬ S g) (hb : ∀ k, bv.ownBlock = some k → ¬ S k) : BagIs w' g bv nilS ps [] B :=
  ⟨hk.heap h.row hg, ownsRow_kept h.bs hk hb, World.ownsRow_nil _ _ _ _⟩

/-- Lists of bytes that lie apart, in blocks from B on. -/
structure Bys (B : Nat) (ps : List Pc) (w : World) : Prop where
  lies : ∀ p ∈ ps, Lies w 5 p
  few : ∀ p ∈ ps, p.n ≤ 70000000000000
  base : ∀ p ∈ ps, ∀ k x, p.foot k x → B ≤ k
  ap : ps.Pairwise (fun p q => ∀ k x, p.foot k x → ¬ q.foot k x)

theorem Bys.apart {B : Nat} {ps : List Pc} {w : World} (h : Bys B ps w) : ApartPcs ps := by
  have hp := List.pairwise_iff_getElem.1 h.ap
  intro i j hi hj hne k x h1 h2
  rcases Nat.lt_or_gt_of_ne hne with hlt | hlt
  · exact hp i j hi hj hlt k x h1 h2
  · exact hp j i hj hi hlt k x h2 h1

theorem Bys.nil (B : Nat) (w : World) : Bys B [] w := ⟨fun p h => by simp at h, fun p h => by simp at h, fun p h => by simp at h, List.Pairwise.nil⟩

theorem lies_heap {w w' : World} {E : TypeId} {q : Pc} (h : Lies w E q) (he : ∀ k x, q.foot k x → w'.heap[k]? = w.heap[k]?) : Lies w' E q := by
  refine ⟨h.le, h.most, h.nil, fun hc => ?_⟩
  obtain ⟨k, off, cs, e, hr, hs⟩ := h.at' hc
  exact ⟨k, off, cs, e, by rw [he k off ⟨off, e, Nat.le_refl _, by omega⟩]; exact hr, hs⟩

theorem Bys.kept {B : Nat} {ps : List Pc} {w w' : World} {S : Nat → Prop} (h : Bys B ps w) (hk : Kept w w' S) (hS : ∀ p ∈ ps, ∀ k x, p.foot k x → ¬ S k) : Bys B ps w' :=
  ⟨fun p hp => lies_heap (h.lies p hp) (fun k x hf => hk.block k ((h.lies p hp).foot_lt hf).1 (hS p hp k x hf)), h.few, h.base, h.ap⟩

theorem Bys.later {B : Nat} {ps : List Pc} {w w' : World} (h : Bys B ps w) (hb : Below w.heap.size w w') : Bys B ps w' :=
  h.kept (Below.kept hb) (fun p hp k x hf e => by have := ((h.lies p hp).foot_lt hf).1; omega)

theorem Bys.turned {B : Nat} {ps : List Pc} {w w' : World} {S : Nat → Nat → Prop} (h : Bys B ps w) (ht : Turned w w' S) : Bys B ps w' := ⟨fun p hp => (h.lies p hp).turned ht, h.few, h.base, h.ap⟩

/-- A byte list's block is none of the Bag's. -/
theorem Bys.bag {B : Nat} {ps : List Pc} {w : World} (h : Bys B ps w) {g : Nat} {bv : Value} {qs : List Pc} {B' : Nat} (hb : BagIs w g bv nilS qs [] B') : ∀ p ∈ ps, ∀ k x, p.foot k x → ¬ (k = g ∨ bv.ownBlock = some k) := fun p hp k x hf e => by
  obtain ⟨_, cs, hr⟩ := (h.lies p hp).foot_lt hf
  rcases e with rfl | e
  · rw [hb.row] at hr
    simp at hr
  · rcases hb.bs.2 with ⟨e', _⟩ | ⟨g', cap, cur, e', _, a3, _⟩
    · rw [e'] at e; simp [Value.ownBlock] at e
    · rw [e'] at e
      simp [Value.ownBlock] at e
      subst e
      rw [a3] at hr
      simp at hr

/-- Bytes of one's own are none of the Bag's. -/
theorem Owns.bag {w w' : World} {B : Nat} {v : Value} {bs : List Int} (h : Owns w B v bs) {g : Nat} {bv : Value} {qs : List Pc} {B' : Nat} (hb : BagIs w g bv nilS qs [] B') (hk : Kept w w' (fun k => k = g ∨ bv.ownBlock = some k)) : Owns w' B v bs := by
  refine Owns.kept h hk (fun k e e' => ?_)
  rcases h.2 with ⟨q, _⟩ | ⟨gv, cap, cur, q, _, a3, _⟩
  · rw [q] at e; simp [Value.ownBlock] at e
  · rw [q] at e
    simp [Value.ownBlock] at e
    subst e
    rcases e' with rfl | e'
    · rw [hb.row] at a3
      simp at a3
    · rcases hb.bs.2 with ⟨e2, _⟩ | ⟨g', cap', cur', e2, _, a3', _⟩
      · rw [e2] at e'; simp [Value.ownBlock] at e'
      · rw [e2] at e'
        simp [Value.ownBlock] at e'
        subst e'
        rw [a3'] at a3
        simp at a3

theorem BagIs.below {w w' : World} {g B C : Nat} {bv : Value} {qs : List Pc} (hb : BagIs w g bv nilS qs [] B) (hk : Kept w w' (fun k => k = g ∨ bv.ownBlock = some k)) (hC : C ≤ B) (hg : C ≤ g) : Below C w w' := by
  have hgw := lt_of_block hb.row
  refine ⟨hk.os, hk.tape, hk.output, hk.size, fun k hk' => hk.block k (by omega) (fun e => ?_)⟩
  rcases e with rfl | e
  · omega
  · have := (hb.bs.lt k e).1; omega

/-- A list that a call made, beside the others. -/
theorem Bys.add {B : Nat} {ps : List Pc} {w w' : World} (h : Bys B ps w) (hb : Below w.heap.size w w') (hB : B ≤ w.heap.size) {a : Option Addr} {n c : Nat} {bs : List Int} (ho : Owns w' w.heap.size (.slice a n c) bs) (hl : bs.length ≤ 70000000000000) : Bys B (ps ++ [⟨a, n, c⟩]) w' := by
  have h' := h.later hb
  have ho' : w'.ownsRow w.heap.size 5 1 (Pc.val ⟨a, n, c⟩) (bs.map (Value.int .u8)).length (bs.map (Value.int .u8)) := by rw [List.length_map]; exact ho
  obtain ⟨p, e, hn, _, hl2, hf⟩ := own_has ho'
  have e2 : (⟨a, n, c⟩ : Pc) = p := by
    obtain ⟨a', n', c'⟩ := p
    simp [Pc.val] at e
    obtain ⟨rfl, rfl, rfl⟩ := e
    rfl
  subst e2
  rw [List.length_map] at hn
  refine ⟨fun q hq => ?_, fun q hq => ?_, fun q hq => ?_, List.pairwise_append.2 ⟨h.ap, List.pairwise_singleton _ _, fun p hp q hq k x h1 h2 => ?_⟩⟩
  · rcases List.mem_append.1 hq with hq | hq
    · exact h'.lies q hq
    · rw [List.mem_singleton.1 hq]; exact hl2
  · rcases List.mem_append.1 hq with hq | hq
    · exact h.few q hq
    · rw [List.mem_singleton.1 hq]; omega
  · rcases List.mem_append.1 hq with hq | hq
    · exact h.base q hq
    · rw [List.mem_singleton.1 hq]; exact fun k x hk => Nat.le_trans hB (hf k x hk)
  · rw [List.mem_singleton.1 hq] at h2
    have a1 := ((h.lies p hp).foot_lt h1).1
    have a2 := hf k x h2
    omega

end Go.Proofs.YtbdokdhconhifaaGreatDoor

/- A disk's files as data: names in their order, where a name lies, files put in and taken out. -/
namespace Go.Proofs.YtbdokdhconhifaaGreatDoor
open Go.RowKit

/-- How two names stand to each other. -/
abbrev ncmp (a b : ByteArray) : Int := Lib.compareBytes a.data.toList b.data.toList

theorem cmpB_range : ∀ (a b : List UInt8), Lib.compareBytes a b = -1 ∨ Lib.compareBytes a b = 0 ∨ Lib.compareBytes a b = 1
  | [], [] => by simp [Lib.compareBytes]
  | [], _ :: _ => by simp [Lib.compareBytes]
  | _ :: _, [] => by simp [Lib.compareBytes]
  | a :: ax, b :: bs => by
    unfold Lib.compareBytes
    split
    · simp
    · split
      · simp
      · exact cmpB_range ax bs

theorem cmpB_eq : ∀ (a b : List UInt8), Lib.compareBytes a b = 0 ↔ a = b
  | [], [] => by simp [Lib.compareBytes]
  | [], _ :: _ => by simp [Lib.compareBytes]
  | _ :: _, [] => by simp [Lib.compareBytes]
  | a :: ax, b :: bs => by
    unfold Lib.compareBytes
    split
    · rename_i h; simp; intro e; subst e; exact absurd h (UInt8.lt_irrefl _)
    · split
      · rename_i h; simp; intro e; subst e; exact absurd h (UInt8.lt_irrefl _)
      · rename_i h1 h2
        rw [cmpB_eq ax bs]
        have : a = b := UInt8.le_antisymm (UInt8.not_lt.1 h2) (UInt8.not_lt.1 h1)
        simp [this]

theorem cmpB_flip : ∀ (a b : List UInt8), Lib.compareBytes a b = -Lib.compareBytes b a
  | [], [] => by simp [Lib.compareBytes]
  | [], _ :: _ => by simp [Lib.compareBytes]
  | _ :: _, [] => by simp [Lib.compareBytes]
  | a :: ax, b :: bs => by
    unfold Lib.compareBytes
    by_cases h1 : a < b
    · have h2 : ¬ b < a := UInt8.not_lt.2 (UInt8.le_of_lt h1)
      rw [if_pos h1, if_neg h2, if_pos h1]
    · by_cases h2 : b < a
      · rw [if_neg h1, if_pos h2, if_pos h2]; rfl
      · rw [if_neg h1, if_neg h2, if_neg h2, if_neg h1]; exact cmpB_flip ax bs

theorem cmpB_trans : ∀ (a b c : List UInt8), Lib.compareBytes a b < 0 → Lib.compareBytes b c < 0 → Lib.compareBytes a c < 0
  | [], b, [], h1, h2 => by cases b <;> simp [Lib.compareBytes] at *
  | [], _, _ :: _, _, _ => by simp [Lib.compareBytes]
  | _ :: _, [], _, h1, _ => by simp [Lib.compareBytes] at h1
  | _ :: _, _ :: _, [], _, h2 => by simp [Lib.compareBytes] at h2
  | a :: ax, b :: bs, c :: cs, h1, h2 => by
    unfold Lib.compareBytes at *
    by_cases hab : a < b
    · by_cases hbc : b < c
      · rw [if_pos (UInt8.lt_trans hab hbc)]; decide
      · rw [if_neg hbc] at h2
        by_cases hcb : c < b
        · rw [if_pos hcb] at h2; simp at h2
        · have e : b = c := UInt8.le_antisymm (UInt8.not_lt.1 hcb) (UInt8.not_lt.1 hbc)
          subst e
          rw [if_pos hab]; decide
    · rw [if_neg hab] at h1
      by_cases hba : b < a
      · rw [if_pos hba] at h1; simp at h1
      · have e : a = b := UInt8.le_antisymm (UInt8.not_lt.1 hba) (UInt8.not_lt.1 hab)
        subst e
        rw [if_neg hba] at h1
        by_cases hbc : a < c
        · rw [if_pos hbc]; decide
        · rw [if_neg hbc] at h2 ⊢
          by_cases hcb : c < a
          · rw [if_pos hcb] at h2; simp at h2
          · rw [if_neg hcb] at h2 ⊢
            exact cmpB_trans ax bs cs h1 h2

theorem ncmp_eq (a b : ByteArray) : ncmp a b = 0 ↔ a = b := by
  unfold ncmp
  rw [cmpB_eq]
  constructor
  · intro h; cases a; cases b; simpa using h
  · intro h; rw [h]

/-- A file, as data. -/
structure FiD where
  name : ByteArray
  bytes : List Int
  dur : Int

/-- The names rise. -/
def Rise (fs : List FiD) : Prop := fs.Pairwise (fun a b => ncmp a.name b.name < 0)

/-- How many files have lesser names. -/
def pl (fs : List FiD) (n : ByteArray) : Nat := (fs.takeWhile (fun f => decide (ncmp f.name n < 0))).length

theorem pl_le (fs : List FiD) (n : ByteArray) : pl fs n ≤ fs.length := by
  unfold pl
  exact (List.takeWhile_sublist _).length_le

theorem pl_nil (n : ByteArray) : pl [] n = 0 := rfl
theorem pl_cons (f : FiD) (fs : List FiD) (n : ByteArray) : pl (f :: fs) n = if ncmp f.name n < 0 then pl fs n + 1 else 0 := by
  unfold pl
  rw [List.takeWhile_cons]
  split <;> rename_i h <;> simp at h <;> simp [h]

theorem pl_iff {fs : List FiD} (hr : Rise fs) (n : ByteArray) (k : Nat) (hk : k < fs.length) : ncmp fs[k].name n < 0 ↔ k < pl fs n := by
  induction fs generalizing k with
  | nil => simp at hk
  | cons f fs ih =>
    obtain ⟨h1, h2⟩ := List.pairwise_cons.1 hr
    rw [pl_cons]
    cases k with
    | zero =>
      simp only [List.getElem_cons_zero]
      split <;> rename_i h <;> simp [h]
    | succ k =>
      simp only [List.getElem_cons_succ]
      simp at hk
      split
      · rw [ih h2 k hk]; omega
      · rename_i h
        constructor
        · intro h3
          exact absurd (cmpB_trans _ _ _ (h1 fs[k] (List.getElem_mem hk)) h3) h
        · intro h3; omega

/-- Is there such a file? -/
def hasF (fs : List FiD) (n : ByteArray) : Bool := decide (∃ h : pl fs n < fs.length, fs[pl fs n].name = n)

theorem hasF_iff (fs : List FiD) (n : ByteArray) : hasF fs n = true ↔ ∃ h : pl fs n < fs.length, fs[pl fs n].name = n := by
  unfold hasF; simp

theorem rise_insert {fs : List FiD} (hr : Rise fs) (f : FiD) (hn : hasF fs f.name = false) : Rise (fs.take (pl fs f.name) ++ f :: fs.drop (pl fs f.name)) := by
  have hle := pl_le fs f.name
  have hlo : ∀ a ∈ fs.take (pl fs f.name), ncmp a.name f.name < 0 := fun a ha => by
    obtain ⟨k, hk, rfl⟩ := List.getElem_of_mem ha
    have hk' : k < pl fs f.name := by rw [List.length_take] at hk; omega
    rw [List.getElem_take]
    exact (pl_iff hr f.name k (by omega)).2 hk'
  have hhi : ∀ a ∈ fs.drop (pl fs f.name), ncmp f.name a.name < 0 := fun a ha => by
    obtain ⟨k, hk, rfl⟩ := List.getElem_of_mem ha
    rw [List.length_drop] at hk
    rw [List.getElem_drop]
    have h1 : ¬ ncmp fs[pl fs f.name + k].name f.name < 0 := fun e => by have := (pl_iff hr f.name _ (by omega)).1 e; omega
    have h2 : ncmp fs[pl fs f.name + k].name f.name ≠ 0 := fun e => by
      have e := (ncmp_eq _ _).1 e
      cases k with
      | zero =>
        have : hasF fs f.name = true := (hasF_iff _ _).2 ⟨by omega, e⟩
        rw [hn] at this; cases this
      | succ k =>
        have h3 := List.pairwise_iff_getElem.1 hr (pl fs f.name) (pl fs f.name + (k + 1)) (by omega) (by omega) (by omega)
        rw [e] at h3
        have := (pl_iff hr f.name _ (by omega)).1 h3
        omega
    have h3 := cmpB_range fs[pl fs f.name + k].name.data.toList f.name.data.toList
    have h4 := cmpB_flip f.name.data.toList fs[pl fs f.name + k].name.data.toList
    unfold ncmp at h1 h2 ⊢
    omega
  unfold Rise
  rw [List.pairwise_append]
  refine ⟨hr.sublist (List.take_sublist _ _), List.pairwise_cons.2 ⟨hhi, hr.sublist (List.drop_sublist _ _)⟩, fun a ha b hb => ?_⟩
  rcases List.mem_cons.1 hb with rfl | hb
  · exact hlo a ha
  · exact cmpB_trans _ _ _ (hlo a ha) (hhi b hb)

theorem rise_erase {fs : List FiD} (hr : Rise fs) (k : Nat) : Rise (fs.eraseIdx k) := hr.sublist (List.eraseIdx_sublist _ _)

end Go.Proofs.YtbdokdhconhifaaGreatDoor

/- A disk in memory: its block, the row of pointers, each file's block and its bytes; all apart. -/
namespace Go.Proofs.YtbdokdhconhifaaGreatDoor
open Go.RowKit
set_option maxRecDepth 8000

/-- A file's place: its block, its bytes' value. -/
structure FiM where
  q : Nat
  v : Value

abbrev flQ (n : ByteArray) (v : Value) (dur : Int) : Array Value := #[.string n, v, .int .i64 dur]
abbrev dkQ (fv : Value) (room : Int) (on : Bool) (armed writes : Int) : Array Value := #[fv, .bool true, .int .i64 room, .bool on, .int .i64 armed, .int .i64 writes]

structure FileAt (w : World) (m : FiM) (f : FiD) : Prop where
  row : w.heap[m.q]? = some (.cells (flQ f.name m.v f.dur) 122 (0, 0))
  own : Owns w 0 m.v f.bytes

def FiM.blks (m : FiM) : List Nat := m.q :: m.v.ownBlock.toList
def foot (p : Nat) (fv : Value) (ms : List FiM) : List Nat := p :: (fv.ownBlock.toList ++ ms.flatMap FiM.blks)

abbrev ptrs (ms : List FiM) : List Value := ms.map fun m => .pointer (some ⟨m.q, 0, none⟩)

/-- A disk, as data. -/
structure DkD where
  files : List FiD
  room : Int
  on : Bool
  armed : Int
  writes : Int

structure IsDk (w : World) (p : Nat) (fv : Value) (ms : List FiM) (D : DkD) : Prop where
  row : w.heap[p]? = some (.cells (dkQ fv D.room D.on D.armed D.writes) 76 (0, 0))
  len : ms.length = D.files.length
  own : w.ownsRow 0 90 1 fv ms.length (ptrs ms)
  file : ∀ (k : Nat) m f, ms[k]? = some m → D.files[k]? = some f → FileAt w m f
  nd : (foot p fv ms).Nodup

theorem mem_foot_p {p : Nat} {fv : Value} {ms : List FiM} : p ∈ foot p fv ms := List.mem_cons_self ..
theorem mem_foot_fv {p k : Nat} {fv : Value} {ms : List FiM} (h : fv.ownBlock = some k) : k ∈ foot p fv ms :=
  List.mem_cons_of_mem _ (List.mem_append_left _ (by rw [h]; simp))
theorem mem_foot_q {p : Nat} {fv : Value} {ms : List FiM} {m : FiM} (h : m ∈ ms) : m.q ∈ foot p fv ms :=
  List.mem_cons_of_mem _ (List.mem_append_right _ (List.mem_flatMap.2 ⟨m, h, List.mem_cons_self ..⟩))
theorem mem_foot_v {p k : Nat} {fv : Value} {ms : List FiM} {m : FiM} (h : m ∈ ms) (hk : m.v.ownBlock = some k) : k ∈ foot p fv ms :=
  List.mem_cons_of_mem _ (List.mem_append_right _ (List.mem_flatMap.2 ⟨m, h, List.mem_cons_of_mem _ (by rw [hk]; simp)⟩))

theorem mem_foot {p k : Nat} {fv : Value} {ms : List FiM} (h : k ∈ foot p fv ms) : k = p ∨ fv.ownBlock = some k ∨ ∃ m ∈ ms, k = m.q ∨ m.v.ownBlock = some k := by
  unfold foot at h
  rcases List.mem_cons.1 h with rfl | h
  · exact .inl rfl
  rcases List.mem_append.1 h with h | h
  · right; left
    cases hv : fv.ownBlock with
    | none => rw [hv] at h; simp at h
    | some j => rw [hv] at h; simp at h; rw [h]
  · right; right
    obtain ⟨m, hm, hk⟩ := List.mem_flatMap.1 h
    refine ⟨m, hm, ?_⟩
    rcases List.mem_cons.1 hk with rfl | hk
    · exact .inl rfl
    · right
      cases hv : m.v.ownBlock with
      | none => rw [hv] at hk; simp at hk
      | some j => rw [hv] at hk; simp at hk; rw [hk]

theorem row_kept' {w w' : World} {S : Nat → Prop} {base : Nat} {e : TypeId} {z : Nat} {v : Value} {n : Nat} {xs : List Value} (h : w.ownsRow base e z v n xs) (hk : Kept w w' S) (hn : ∀ k, v.ownBlock = some k → ¬ S k) : w'.ownsRow base e z v n xs := by
  obtain ⟨h0, h | ⟨g, cap, cur, rfl, h2, h3, h4, h5, h6, h7⟩⟩ := h
  · exact ⟨h0, .inl h⟩
  · exact ⟨h0, .inr ⟨g, cap, cur, rfl, h2, hk.heap h3 (hn g rfl), h4, h5, h6, h7⟩⟩

theorem FileAt.kept {w w' : World} {S : Nat → Prop} {m : FiM} {f : FiD} (h : FileAt w m f) (hk : Kept w w' S) (hq : ¬ S m.q) (hv : ∀ k, m.v.ownBlock = some k → ¬ S k) : FileAt w' m f :=
  ⟨hk.heap h.row hq, h.own.kept hk hv⟩

/-- Every block of a disk is there. -/
theorem IsDk.lt {w : World} {p : Nat} {fv : Value} {ms : List FiM} {D : DkD} (h : IsDk w p fv ms D) {k : Nat} (hk : k ∈ foot p fv ms) : k < w.heap.size := by
  rcases mem_foot hk with rfl | e | ⟨m, hm, e⟩
  · exact lt_of_block h.row
  · obtain ⟨_, ⟨rfl, _⟩ | ⟨g, cap, cur, rfl, _, h3, _⟩⟩ := h.own
    · cases e
    · cases e; exact lt_of_block h3
  · obtain ⟨i, hi, rfl⟩ := List.getElem_of_mem hm
    have hf := h.file i ms[i] (D.files[i]'(by rw [← h.len]; exact hi)) (List.getElem?_eq_getElem _) (List.getElem?_eq_getElem _)
    rcases e with rfl | e
    · exact lt_of_block hf.row
    · obtain ⟨_, ⟨e2, _⟩ | ⟨g, cap, cur, e2, _, h3, _⟩⟩ := hf.own
      · rw [e2] at e; cases e
      · rw [e2] at e; cases e; exact lt_of_block h3

/-- A disk that nothing touched. -/
theorem IsDk.kept {w w' : World} {S : Nat → Prop} {p : Nat} {fv : Value} {ms : List FiM} {D : DkD} (h : IsDk w p fv ms D) (hk : Kept w w' S) (hS : ∀ k ∈ foot p fv ms, ¬ S k) : IsDk w' p fv ms D :=
  ⟨hk.heap h.row (hS p mem_foot_p), h.len, row_kept' h.own hk (fun k e => hS k (mem_foot_fv e)), fun i m f hm hf => (h.file i m f hm hf).kept hk (hS _ (mem_foot_q (List.mem_of_getElem? hm))) (fun k e => hS k (mem_foot_v (List.mem_of_getElem? hm) e)), h.nd⟩

theorem IsDk.later {w w' : World} {p : Nat} {fv : Value} {ms : List FiM} {D : DkD} (h : IsDk w p fv ms D) (hb : Below w.heap.size w w') : IsDk w' p fv ms D :=
  h.kept (Below.kept hb) (fun k hk e => by have := h.lt hk; omega)

/-- What a call does to a disk: the same block, other data; nothing but its own blocks is touched, and new ones. -/
structure DkTo (w : World) (p : Nat) (fv : Value) (ms : List FiM) (w' : World) (D' : DkD) (fv' : Value) (ms' : List FiM) : Prop where
  is : IsDk w' p fv' ms' D'
  kept : Kept w w' (· ∈ foot p fv ms)
  foot : ∀ k ∈ foot p fv' ms', k ∈ foot p fv ms ∨ w.heap.size ≤ k

theorem DkTo.refl {w : World} {p : Nat} {fv : Value} {ms : List FiM} {D : DkD} (h : IsDk w p fv ms D) : DkTo w p fv ms w D fv ms := ⟨h, Kept.refl _ _, fun _ hk => .inl hk⟩

theorem Kept.trans' {w w1 w2 : World} {S T U : Nat → Prop} (h : Kept w w1 S) (g : Kept w1 w2 T) (hS : ∀ k, k < w.heap.size → S k → U k) (hT : ∀ k, k < w.heap.size → T k → U k) : Kept w w2 U :=
  ⟨g.os.trans h.os, g.tape.trans h.tape, g.output.trans h.output, Nat.le_trans h.size g.size, fun k hk hn => (g.block k (Nat.lt_of_lt_of_le hk h.size) (fun e => hn (hT k hk e))).trans (h.block k hk (fun e => hn (hS k hk e)))⟩

theorem DkTo.trans {w w1 w2 : World} {p : Nat} {fv fv1 fv2 : Value} {ms ms1 ms2 : List FiM} {D1 D2 : DkD} (h : DkTo w p fv ms w1 D1 fv1 ms1) (g : DkTo w1 p fv1 ms1 w2 D2 fv2 ms2) : DkTo w p fv ms w2 D2 fv2 ms2 :=
  ⟨g.is, h.kept.trans' g.kept (fun _ _ e => e) (fun k hk e => by rcases h.foot k e with e | e; exact e; omega), fun k hk => by
    rcases g.foot k hk with e | e
    · exact h.foot k e
    · exact .inr (Nat.le_trans h.kept.size e)⟩

/-- A step that touched nothing of it, ahead of one that did. -/
theorem DkTo.after {w w1 w2 : World} {p : Nat} {fv fv2 : Value} {ms ms2 : List FiM} {D2 : DkD} (hb : Below w.heap.size w w1) (g : DkTo w1 p fv ms w2 D2 fv2 ms2) : DkTo w p fv ms w2 D2 fv2 ms2 :=
  ⟨g.is, (Below.kept hb).trans' g.kept (fun k hk e => by omega) (fun k hk e => e), fun k hk => by
    rcases g.foot k hk with e | e
    · exact .inl e
    · exact .inr (Nat.le_trans hb.size e)⟩

theorem DkTo.then {w w1 w2 : World} {p : Nat} {fv fv1 : Value} {ms ms1 : List FiM} {D1 : DkD} (h : DkTo w p fv ms w1 D1 fv1 ms1) (hb : Below w1.heap.size w1 w2) : DkTo w p fv ms w2 D1 fv1 ms1 :=
  h.trans ⟨h.is.later hb, (Below.kept hb).mono (fun k hk e => by omega), fun k hk => .inl hk⟩

end Go.Proofs.YtbdokdhconhifaaGreatDoor

/-
  DERIVED: THE SHELF's CONTRACTS AT THIS DUMP, IN PLAIN WORDS (tools/lay-plain.mjs out of 'TryzShelf.lean', which tools/lay-shelf.mjs wrote): THE SAME DECLARATIONS UNDER THE SAME NAMES: 'import', 'namespace', 'open', 'def', 'theorem' AND NOTHING ELSE: no command of the shelf's: FOR A HAND-IN. Each laying: the table of numbers ('.._ren') and one theorem, a field a fact of the dump's own or the kernel's comparison; each contract: ONE APPLICATION.
-/
namespace Go.Proofs
open Go.Shelf
def Tryz.lays213_ren : Go.Shelf.Ren := ⟨fun | 213 => 106 | 265 => 110 | n => n, fun | 9 => 9 | 3 => 3 | n => n, fun | n => n⟩
theorem Tryz.lays213 : Go.Proofs.Lays.n213 Tryz.prog Tryz.lays213_ren := {
  mixed := by kernel_rfl
  f213 := Tryz.func106.trans (congrArg some (by kernel_rfl))
  f265 := Tryz.func110.trans (congrArg some (by kernel_rfl))
  t3 := Tryz.underlying3
  a3 := Tryz.isAgg3
  z3 := Tryz.sizeOf3
  v3 := Tryz.zeroValue3
  t9 := Tryz.underlying9
  a9 := Tryz.isAgg9
  z9 := Tryz.sizeOf9
  v9 := Tryz.zeroValue9 }
open Go.RowKit in
/-- internal/bytealg.CompareString (what strings.Compare calls): IT RETURNS 'Lib.compareBytes a b'; the world is as it was. (LAID: no walk: one application.) -/
theorem Tryz.bytealg_CompareString (a b : ByteArray) (w : World) :
    Calls Tryz.prog 106 #[.string a, .string b] w fun e w' => e = .returned (.int .i64 (Lib.compareBytes a.data.toList b.data.toList)) ∧ w' = w := Any.bytealg_CompareString Tryz.lays213 a b w
def Tryz.lays106_ren : Go.Shelf.Ren := ⟨fun | 106 => 103 | 213 => 106 | 265 => 110 | n => n, fun | 9 => 9 | 3 => 3 | n => n, fun | n => n⟩
theorem Tryz.lays106 : Go.Proofs.Lays.n106 Tryz.prog Tryz.lays106_ren := {
  mixed := by kernel_rfl
  f106 := Tryz.func103.trans (congrArg some (by kernel_rfl))
  f213 := Tryz.func106.trans (congrArg some (by kernel_rfl))
  f265 := Tryz.func110.trans (congrArg some (by kernel_rfl))
  t3 := Tryz.underlying3
  a3 := Tryz.isAgg3
  z3 := Tryz.sizeOf3
  v3 := Tryz.zeroValue3
  t9 := Tryz.underlying9
  a9 := Tryz.isAgg9
  z9 := Tryz.sizeOf9
  v9 := Tryz.zeroValue9 }
open Go.RowKit in
/-- strings.Compare: "Compare returns an integer comparing two strings lexicographically. The result will be 0 if a == b, -1 if a < b, and +1 if a > b.": IT RETURNS 'Lib.compareBytes a b'; the world is as it was. (LAID: no walk: one application.) -/
theorem Tryz.strings_Compare (a b : ByteArray) (w : World) :
    Calls Tryz.prog 103 #[.string a, .string b] w fun e w' => e = .returned (.int .i64 (Lib.compareBytes a.data.toList b.data.toList)) ∧ w' = w := Any.strings_Compare Tryz.lays106 a b w
end Go.Proofs
