/- The statements' Bag with one list of lists of bytes, and its lists: they are apart. -/
import Derived.Test.YtblgipjipeaemaaGreatDoorBag2J
import Derived.Test.YtblgipjipeaemaaGreatDoorPut3J
namespace Go.Proofs.YtblgipjipeaemaaGreatDoor
open Go.RowKit
set_option maxRecDepth 8000

theorem bag_cells {w : World} {g : Nat} {bv pv : Value} (h : w.heap[g]? = some (.cells (bagCells bv pv) 73 (0, 0))) : ∀ j, j < 21 → w.cell? ⟨g, j, none⟩ = (bagCells bv pv)[j]? := fun j _ => cell_of_row w g j _ _ _ h

set_option maxRecDepth 8000 in
set_option maxHeartbeats 2000000 in
theorem bagApart_one (g B : Nat) (bv pv : Value) (ps : List Pc) (p : Pc) (w : World) (h : BagIs w g bv pv ps [p] B) (hl : ∀ q ∈ ps, Lies w 5 q) (hap : ApartPcs ps) (hn : ps.length ≤ 600) (hb : ∀ q ∈ ps, q.n ≤ 70000000000000) (hlp : Lies w 22 p) (hbp : p.n ≤ 1000000000)
    (ht : Tab w) (hg0 : 1 < B) (hBw : B ≤ w.heap.size) (hfB : ∀ k x, feet ps k x → B ≤ k) (hpB : ∀ k x, p.foot k x → B ≤ k) :
    Calls Tryz.prog 28 #[.pointer (some ⟨g, 0, none⟩)] w fun e w' => e = .returned (.bool true) ∧ Below B w w' := by
  have cs := bag_cells h.row
  have H : Hid (BagIs w g bv pv ps [p] B ∧ (∀ q ∈ ps, Lies w 5 q) ∧ ApartPcs ps ∧ (∀ q ∈ ps, q.n ≤ 70000000000000) ∧ Lies w 22 p ∧ Tab w ∧ (∀ k x, feet ps k x → B ≤ k) ∧ (∀ k x, p.foot k x → B ≤ k)) := ⟨h, hl, hap, hb, hlp, ht, hfB, hpB⟩
  have c0 : w.cell? ⟨g, 0, none⟩ = some bv := cs 0 (by omega)
  clear h hl hap hb hlp ht hfB hpB cs
  go_enter Tryz.func28, Tryz.ntmps28
  go_wp2_with fail
  refine (apartBytes_any bv ps _ (sees_own H.out.1.bs) H.out.2.1 H.out.2.2.1 hn H.out.2.2.2.1).mono ?_
  rintro e w1 ⟨rfl, hT1⟩
  have hrow1 : w1.heap[g]? = some (.cells (bagCells bv pv) 73 (0, 0)) := by
    rw [hT1.same g (lt_of_block H.out.1.row) (fun x hs => ?_)]
    · exact H.out.1.row
    · obtain ⟨q, hq, hf⟩ := hs
      obtain ⟨_, cs2, hr2⟩ := (H.out.2.1 q hq).foot_lt hf
      rw [H.out.1.row] at hr2
      simp at hr2
  have hsp : SeesPcs w1 51 pv [p] := (sees_own (ps := [p]) H.out.1.pc).turned hT1 (fun _ _ h => h) H.out.2.1 (by decide)
  have H1 : Hid (w1.heap[g]? = some (.cells (bagCells bv pv) 73 (0, 0)) ∧ SeesPcs w1 51 pv [p] ∧ Lies w1 22 p ∧ Tab w1 ∧ Below B w w1) :=
    ⟨hrow1, hsp, H.out.2.2.2.2.1.turned hT1, Tab.same H.out.2.2.2.2.2.1 (hT1.same _ (by omega) (fun x hs => by have := H.out.2.2.2.2.2.2.1 _ _ hs; omega)), hT1.below hBw H.out.2.2.2.2.2.2.1⟩
  have cs := bag_cells hrow1
  have c1 : w1.cell? ⟨g, 1, none⟩ = some nilS := cs 1 (by omega)
  have c2 : w1.cell? ⟨g, 2, none⟩ = some nilS := cs 2 (by omega)
  have c3 : w1.cell? ⟨g, 3, none⟩ = some pv := cs 3 (by omega)
  have hz1 := hT1.size
  clear hT1 hrow1 hsp cs c0
  go_wp2_with fail
  refine (apartInts_nil _).mono ?_
  rintro e w2 ⟨rfl, rfl⟩
  go_wp2_with fail
  refine (apartTexts_nil _).mono ?_
  rintro e w2 ⟨rfl, rfl⟩
  go_wp2_with fail
  refine (apartPieces_one pv p _ H1.out.2.1 H1.out.2.2.1 hbp H1.out.2.2.2.1 (by omega) (fun x hs => by have := H.out.2.2.2.2.2.2.2 _ _ hs; omega)).mono ?_
  rintro e w3 ⟨rfl, hT3⟩
  have hrow3 : w3.heap[g]? = some (.cells (bagCells bv pv) 73 (0, 0)) := by
    rw [hT3.same g (lt_of_block H1.out.1) (fun x hs => ?_)]
    · exact H1.out.1
    · obtain ⟨_, cs2, hr2⟩ := H1.out.2.2.1.foot_lt hs
      rw [H1.out.1] at hr2
      simp at hr2
  have HE : Hid (Below B w w3) := H1.out.2.2.2.2.trans (hT3.below (by omega) H.out.2.2.2.2.2.2.2)
  have cs := bag_cells hrow3
  have c4 : w3.cell? ⟨g, 4, none⟩ = some nilS := cs 4 (by omega)
  have c5 : w3.cell? ⟨g, 5, none⟩ = some nilS := cs 5 (by omega)
  have c6 : w3.cell? ⟨g, 6, none⟩ = some nilS := cs 6 (by omega)
  have c7 : w3.cell? ⟨g, 7, none⟩ = some nilS := cs 7 (by omega)
  have c8 : w3.cell? ⟨g, 8, none⟩ = some nilS := cs 8 (by omega)
  have c9 : w3.cell? ⟨g, 9, none⟩ = some nilS := cs 9 (by omega)
  have c10 : w3.cell? ⟨g, 10, none⟩ = some nilS := cs 10 (by omega)
  have c11 : w3.cell? ⟨g, 11, none⟩ = some nilS := cs 11 (by omega)
  have c12 : w3.cell? ⟨g, 12, none⟩ = some nilS := cs 12 (by omega)
  have c13 : w3.cell? ⟨g, 13, none⟩ = some nilS := cs 13 (by omega)
  have c14 : w3.cell? ⟨g, 14, none⟩ = some nilS := cs 14 (by omega)
  have c15 : w3.cell? ⟨g, 15, none⟩ = some nilS := cs 15 (by omega)
  have c16 : w3.cell? ⟨g, 16, none⟩ = some nilS := cs 16 (by omega)
  have c17 : w3.cell? ⟨g, 17, none⟩ = some nilS := cs 17 (by omega)
  have c18 : w3.cell? ⟨g, 18, none⟩ = some nilS := cs 18 (by omega)
  have c19 : w3.cell? ⟨g, 19, none⟩ = some nilS := cs 19 (by omega)
  have c20 : w3.cell? ⟨g, 20, none⟩ = some nilS := cs 20 (by omega)
  clear hT3 hrow3 cs c1 c2 c3
  go_wp2_with fail
  refine (apartIds_nil _).mono ?_
  rintro e w4 ⟨rfl, rfl⟩
  go_wp2_with fail
  refine (apartAcl_nil _).mono ?_
  rintro e w4 ⟨rfl, rfl⟩
  go_wp2_with fail
  refine (apartRequests_nil _).mono ?_
  rintro e w4 ⟨rfl, rfl⟩
  go_wp2_with fail
  refine (apartTxns_nil _).mono ?_
  rintro e w4 ⟨rfl, rfl⟩
  go_wp2_with fail
  refine (apartResults_nil _).mono ?_
  rintro e w4 ⟨rfl, rfl⟩
  go_wp2_with fail
  refine (apartNodes_nil _).mono ?_
  rintro e w4 ⟨rfl, rfl⟩
  go_wp2_with fail
  refine (apartSessions_nil _).mono ?_
  rintro e w4 ⟨rfl, rfl⟩
  go_wp2_with fail
  refine (apartChanges_nil _).mono ?_
  rintro e w4 ⟨rfl, rfl⟩
  go_wp2_with fail
  refine (apartFiles_nil _).mono ?_
  rintro e w4 ⟨rfl, rfl⟩
  go_wp2_with fail
  refine (apartPackets_nil _).mono ?_
  rintro e w4 ⟨rfl, rfl⟩
  go_wp2_with fail
  refine (apartMessages_nil _).mono ?_
  rintro e w4 ⟨rfl, rfl⟩
  go_wp2_with fail
  refine (apartWatches_nil _).mono ?_
  rintro e w4 ⟨rfl, rfl⟩
  go_wp2_with fail
  refine (apartFired_nil _).mono ?_
  rintro e w4 ⟨rfl, rfl⟩
  go_wp2_with fail
  refine (apartFacts_nil _).mono ?_
  rintro e w4 ⟨rfl, rfl⟩
  go_wp2_with fail
  refine (apartSends_nil _).mono ?_
  rintro e w4 ⟨rfl, rfl⟩
  go_wp2_with fail
  refine (apartEvents_nil _).mono ?_
  rintro e w4 ⟨rfl, rfl⟩
  go_wp2_with fail
  refine (apartFactss_nil _).mono ?_
  rintro e w4 ⟨rfl, rfl⟩
  go_wp2
  go_ret
  exact ⟨rfl, HE.out⟩

end Go.Proofs.YtblgipjipeaemaaGreatDoor

/- Two Writers in turns, what they must hold, and the lists that were told: what of it stays when something is put, and when lists are told; no Go function is walked here but put. -/
namespace Go.Proofs.YtblgipjipeaemaaGreatDoor
open Go.RowKit
set_option maxRecDepth 8000

/-- A value's bytes; none of another kind. -/
def encK (kind n : Int) (x : Nat) (s : ByteArray) (ys : List Int) : List Int := if 1 ≤ kind ∧ kind ≤ 9 then encOf kind n x s ys else []

theorem encK_len (kind n : Int) (x : Nat) (s : ByteArray) (ys : List Int) : (encK kind n x s ys).length ≤ 8 * (1 + s.size + ys.length) := by
  unfold encK
  split
  · unfold encOf
    have h4 : ∀ m, (be4 m).length = 4 := fun _ => rfl
    have h8 : ∀ m, (be8 m).length = 8 := fun _ => rfl
    split <;> simp [h4, h8, txt_len] <;> omega
  · simp

/-- Another value at one place. -/
def upd {α : Type} (f : Bool → α) (b : Bool) (x : α) : Bool → α := fun c => if c = b then x else f c
theorem upd_same {α : Type} (f : Bool → α) (b : Bool) (x : α) : upd f b x b = x := by unfold upd; rw [if_pos rfl]
theorem upd_other {α : Type} (f : Bool → α) (b c : Bool) (x : α) (h : c ≠ b) : upd f b x c = f c := by unfold upd; rw [if_neg h]

theorem ne_type {w : World} {x y : Nat} {c1 c2 : Array Value} {T1 T2 : TypeId} {f1 f2 : Nat × Nat} (h1 : w.heap[x]? = some (.cells c1 T1 f1)) (h2 : w.heap[y]? = some (.cells c2 T2 f2)) (h : T1 ≠ T2) : x ≠ y := by
  intro e
  subst e
  rw [h1] at h2
  simp at h2
  exact h h2.2.1

theorem own_row {w : World} {B : Nat} {v : Value} {xs : List Int} {k : Nat} (h : Owns w B v xs) (hk : v.ownBlock = some k) : (∃ cs, w.heap[k]? = some (.cells cs 5 (0, 0))) ∧ B ≤ k ∧ k < w.heap.size := by
  rcases h.2 with ⟨rfl, _⟩ | ⟨g, cap, cur, rfl, hb, hr, _⟩
  · simp [Value.ownBlock] at hk
  · simp [Value.ownBlock] at hk
    subst hk
    exact ⟨⟨cur, hr⟩, hb, lt_of_block hr⟩

theorem rows_row {w : World} {B : Nat} {T : TypeId} {v : Value} {n : Nat} {xs : List Value} {k : Nat} (h : w.ownsRow B T 1 v n xs) (hk : v.ownBlock = some k) : (∃ cs, w.heap[k]? = some (.cells cs T (0, 0))) ∧ B ≤ k ∧ k < w.heap.size := by
  rcases h.2 with ⟨rfl, _⟩ | ⟨g, cap, cur, rfl, hb, hr, _⟩
  · simp [Value.ownBlock] at hk
  · simp [Value.ownBlock] at hk
    subst hk
    exact ⟨⟨cur, hr⟩, hb, lt_of_block hr⟩

section
variable {w wr w1 : World} {A D G : Nat} {W : Bool → Nat} {v d : Bool → Value} {xs ys : Bool → List Int} {kv hv : Value} {ks hs : List Pc} {zs hz : List (List Int)} {S : Nat → Prop}

end
end Go.Proofs.YtblgipjipeaemaaGreatDoor

/- Two Writers in turns: behind a store of what one must hold, and behind a list more; no Go function is walked here but Len and spoil. -/
namespace Go.Proofs.YtblgipjipeaemaaGreatDoor
open Go.RowKit
set_option maxRecDepth 8000

/-- The place of a Writer in the array. -/
def ix (b : Bool) : Nat := if b then 1 else 0

section
variable {w wr w1 w2 : World} {A D G : Nat} {W : Bool → Nat} {v d : Bool → Value} {xs ys : Bool → List Int} {kv hv : Value} {ks hs : List Pc} {zs hz : List (List Int)}

end

theorem spoil_zero (ao : Option Addr) (cap : Nat) (w : World) : Calls Tryz.prog 22 #[.slice ao 0 cap] w fun e w' => e = .returned (.tuple #[]) ∧ w' = w := by
  go_enter Tryz.func22, Tryz.ntmps22
  go_wp2
  go_loopw [2] (fun i wr => i = .int .i64 0 ∧ wr = w) (fun _ _ => 0)
  case atStart => exact ⟨rfl, rfl⟩
  case round =>
    obtain ⟨rfl, rfl⟩ := hrel
    go_wp2
    go_end0
    exact ⟨rfl, rfl⟩

theorem spoil_own {w : World} {B : Nat} {c : Value} {ws : List Int} (h : Owns w B c ws) (hm : ws.length ≤ 70000000000000) : Calls Tryz.prog 22 #[c] w fun e w' => e = .returned (.tuple #[]) ∧ Kept w w' (fun k => c.ownBlock = some k) := by
  have h2 := h
  rcases h.2 with ⟨rfl, _⟩ | ⟨g, cap, cur, rfl, _⟩
  · refine (spoil_zero none 0 w).mono ?_
    rintro e w' ⟨rfl, rfl⟩
    exact ⟨rfl, Kept.refl _ _⟩
  · refine (spoil_any g ws ws.length cap w (owns_mono h2 (Nat.zero_le _)) (Nat.le_refl _) hm).mono ?_
    rintro e w' ⟨rfl, hk⟩
    exact ⟨rfl, hk.mono (fun k _ e => by rw [e]; rfl)⟩

theorem rows_lies {w : World} {B : Nat} {E : TypeId} {p : Pc} {n : Nat} {xs : List Value} (h : w.ownsRow B E 1 p.val n xs) : Lies w E p := by
  obtain ⟨ao, m, c⟩ := p
  rcases h.2 with ⟨e, _⟩ | ⟨g, cap, cur, e, _, hr, h1, h2, h3, _⟩
  · unfold Pc.val at e
    simp at e
    obtain ⟨rfl, rfl, rfl⟩ := e
    exact ⟨Nat.le_refl _, Nat.zero_le _, fun _ => rfl, fun h => by simp at h⟩
  · unfold Pc.val at e
    simp at e
    obtain ⟨rfl, rfl, rfl⟩ := e
    exact ⟨h1, h2, fun e => by simp at e, fun _ => ⟨g, 0, cur, rfl, hr, by simp at h3 ⊢; omega⟩⟩

theorem own_lies {w : World} {B : Nat} {p : Pc} {z : List Int} (h : Owns w B p.val z) : Lies w 5 p := rows_lies h

theorem foot_block {p : Pc} {k x : Nat} (h : p.foot k x) : p.val.ownBlock = some k := by
  obtain ⟨off, e, _⟩ := h
  unfold Pc.val
  rw [e]
  rfl

theorem own_len {w : World} {B : Nat} {p : Pc} {z : List Int} (h : Owns w B p.val z) : p.n = z.length := by
  obtain ⟨_, _, e, _⟩ := Sees.own h
  unfold Pc.val at e
  simp at e
  exact e.2.1

end Go.Proofs.YtblgipjipeaemaaGreatDoor
