/- Lists that lie apart, each grown by marks of its own, gathered: what holds of them. -/
import Derived.Test.YtmniefmjdfdedaaGreatDoorBgB
namespace Go.Proofs.YtmniefmjdfdedaaGreatDoor
open Go.RowKit
set_option maxRecDepth 8000

/-- A list: its value and its length. -/
structure Rw where
  v : Value
  n : Nat

/-- No two lists lie in one block. -/
def ApartR (rs : List Rw) : Prop := ∀ i j (hi : i < rs.length) (hj : j < rs.length), i ≠ j → ∀ g, rs[i].v.ownBlock = some g → rs[j].v.ownBlock ≠ some g

/-- All lists stand. -/
def RowsR (w : World) (T : TypeId) (z : Nat) (rs : List Rw) (Xs : Nat → List Value) : Prop := ∀ j (hj : j < rs.length), w.ownsRow 0 T z rs[j].v rs[j].n (Xs j)

/-- The first i lists are grown and gathered. -/
structure Bd (w wr : World) (T T1 : TypeId) (z q : Nat) (rs : List Rw) (Xs : Nat → List Value) (s : Nat → Value) (c i : Nat) (mv : Value) (ms : List Value) : Prop where
  len : ms.length = i
  more : wr.ownsRow w.heap.size T1 1 mv i ms
  rows : RowsR wr T z rs Xs
  news : ∀ j (hj : j < rs.length) (hm : j < ms.length), ∃ ys, wr.ownsRow 0 T z ms[j] (rs[j].n + c) (Xs j ++ ys) ∧ Mk z q c (s j) ys
  far : ∀ j (hj : j < rs.length) (hm : j < ms.length) g, ms[j].ownBlock = some g → rs[j].v.ownBlock = some g ∨ w.heap.size ≤ g
  kept : Kept w wr (fun k => ∃ j, ∃ hj : j < rs.length, rs[j].v.ownBlock = some k)

theorem Bd.start {w : World} {T T1 : TypeId} {z q c : Nat} {rs : List Rw} {Xs : Nat → List Value} {s : Nat → Value} (h : RowsR w T z rs Xs) : Bd w w T T1 z q rs Xs s c 0 (.slice none 0 0) [] :=
  ⟨rfl, World.ownsRow_nil _ _ _ _, h, fun j _ hm => by simp at hm, fun j _ hm => by simp at hm, Kept.refl _ _⟩

theorem row_type {w : World} {base : Nat} {T : TypeId} {z n : Nat} {v : Value} {xs : List Value} (h : w.ownsRow base T z v n xs) {g : Nat} (hg : v.ownBlock = some g) : ∃ cs, w.heap[g]? = some (.cells cs T (0, 0)) := by
  obtain ⟨_, ⟨rfl, _⟩ | ⟨g', cap, cur, rfl, _, a3, _⟩⟩ := h
  · cases hg
  · simp [Value.ownBlock] at hg
    subst hg
    exact ⟨cur, a3⟩

theorem type_ne {w : World} {b b' : Nat} {T T' : TypeId} {z z' n n' : Nat} {v v' : Value} {xs xs' : List Value} (hT : T ≠ T') (h : w.ownsRow b T z v n xs) (h' : w.ownsRow b' T' z' v' n' xs') : ∀ g, v.ownBlock = some g → v'.ownBlock ≠ some g := by
  intro g hg hg'
  obtain ⟨cs, e⟩ := row_type h hg
  obtain ⟨cs', e'⟩ := row_type h' hg'
  rw [e] at e'
  simp at e'
  exact hT e'.2

theorem row_base {w : World} {base : Nat} {T : TypeId} {z n : Nat} {v : Value} {xs : List Value} (h : w.ownsRow base T z v n xs) {g : Nat} (hg : v.ownBlock = some g) : base ≤ g := by
  obtain ⟨_, ⟨rfl, _⟩ | ⟨g', cap, cur, rfl, a2, _⟩⟩ := h
  · cases hg
  · simp [Value.ownBlock] at hg
    subst hg
    exact a2

/-- Nothing but new memory: all stands. -/
theorem Bd.next {w wr w1 : World} {T T1 : TypeId} {z q c i : Nat} {rs : List Rw} {Xs : Nat → List Value} {s : Nat → Value} {mv : Value} {ms : List Value} (h : Bd w wr T T1 z q rs Xs s c i mv ms) (hk : Kept wr w1 (fun _ => False)) : Bd w w1 T T1 z q rs Xs s c i mv ms :=
  ⟨h.len, row_kept h.more hk (fun _ _ h => h), fun j hj => row_kept (h.rows j hj) hk (fun _ _ h => h), fun j hj hm => by
    obtain ⟨ys, h1, h2⟩ := h.news j hj hm
    exact ⟨ys, row_kept h1 hk (fun _ _ h => h), h2⟩, h.far, h.kept.trans hk (fun _ _ h => h.elim)⟩

theorem Bd.step {w wr wx w' : World} {T T1 : TypeId} {z q c i : Nat} {rs : List Rw} {Xs : Nat → List Value} {s : Nat → Value} {mv mv' m : Value} {ms : List Value} (h : Bd w wr T T1 z q rs Xs s c i mv ms) (hT : T ≠ T1) (h0 : RowsR w T z rs Xs) (hap : ApartR rs) (hi : i < rs.length)
    (hg : Gw wr wx T z q rs[i].v rs[i].n (Xs i) (s i) c m) (ho : w'.ownsRow w.heap.size T1 1 mv' (i + 1) (ms ++ [m])) (hgr : wx.grownBy w' mv.ownBlock) : Bd w w' T T1 z q rs Xs s c (i + 1) mv' (ms ++ [m]) := by
  obtain ⟨⟨ys, g1, _, g3⟩, g4, g5, g6⟩ := hg
  have hold : ∀ g, rs[i].v.ownBlock = some g → g < w.heap.size := fun g hg => row_lt (h0 i hi) hg
  have hmvx : wx.ownsRow w.heap.size T1 1 mv i ms := row_kept h.more g5 (fun g hg e => by have := hold g e; have := row_base h.more hg; omega)
  have hrow : ∀ {n : Nat} {v : Value} {xs : List Value}, wx.ownsRow 0 T z v n xs → w'.ownsRow 0 T z v n xs := fun hr => row_other hr hgr (fun g hg e => type_ne hT hr hmvx g hg e)
  have hrows : RowsR wx T z rs Xs := fun j hj => by
    by_cases hji : j = i
    · subst hji; exact g4
    · exact row_kept (h.rows j hj) g5 (fun g hg e => hap j i hj hi hji g hg e)
  have hlt : ms.length = i := h.len
  refine ⟨by simp [hlt], ho, fun j hj => hrow (hrows j hj), fun j hj hm => ?_, fun j hj hm g hb => ?_, ?_⟩
  · by_cases hji : j < ms.length
    · rw [List.getElem_append_left hji]
      obtain ⟨zs, z1, z2⟩ := h.news j hj hji
      refine ⟨zs, hrow (row_kept z1 g5 (fun g hg e => ?_)), z2⟩
      rcases h.far j hj hji g hg with e2 | e2
      · exact hap j i hj hi (by omega) g e2 e
      · have := hold g e; omega
    · obtain rfl : j = i := by simp at hm; omega
      have e : (ms ++ [m])[j] = m := by rw [List.getElem_append_right (by omega)]; simp [hlt]
      rw [e]
      exact ⟨ys, hrow g1, g3⟩
  · by_cases hji : j < ms.length
    · rw [List.getElem_append_left hji] at hb
      exact h.far j hj hji g hb
    · obtain rfl : j = i := by simp at hm; omega
      have e : (ms ++ [m])[j] = m := by rw [List.getElem_append_right (by omega)]; simp [hlt]
      rw [e] at hb
      rcases g6 with ⟨_, e2⟩ | ⟨g2, cap, e2, e3⟩ | ⟨g2, e2, hle⟩
      · left; rw [← e2]; exact hb
      · left
        rw [e3] at hb
        rw [e2]
        exact hb
      · right
        rw [e2] at hb
        cases hb
        exact Nat.le_trans h.kept.size hle
  · refine (h.kept.trans g5 (fun k _ e => ⟨i, hi, e⟩)).trans ⟨hgr.os, hgr.tape, hgr.output, hgr.size, fun k hk hne => hgr.block k hk (fun e => hne e.symm)⟩ (fun k hk e => ?_)
    have := row_base h.more e
    omega

end Go.Proofs.YtmniefmjdfdedaaGreatDoor
