/- Lists that lie apart, each grown by marks of its own, gathered: what holds of them. -/
import Derived.Test.YtghngopclhhoeaaDoorLpGJ
import Derived.Test.YtghngopclhhoeaaDoorProg
import Derived.Lib.SlFresh
import Derived.Deep.RegionHeld
namespace Go.Proofs.YtghngopclhhoeaaDoor
open Go.RowKit
set_option maxRecDepth 8000

/-- A list: its value and its length. -/
structure Rw where
  v : Value
  n : Nat

/-- No two lists lie in one block. -/
def ApartR (rs : List Rw) : Prop := ∀ i j (hi : i < rs.length) (hj : j < rs.length), i ≠ j → ∀ g, rs[i].v.ownBlock = some g → rs[j].v.ownBlock ≠ some g

/-- All lists stand. -/
def RowsR (w : World) (T : TypeId) (z : Nat) (rs : List Rw) (Xs : Nat → List Value) : Prop := ∀ j (hj : j < rs.length), w.ownsRow 0 T z rs[j].v rs[j].n (Xs j)

theorem row_type {w : World} {base : Nat} {T : TypeId} {z n : Nat} {v : Value} {xs : List Value} (h : w.ownsRow base T z v n xs) {g : Nat} (hg : v.ownBlock = some g) : ∃ cs, w.heap[g]? = some (.cells cs T (0, 0)) := by
  obtain ⟨_, ⟨rfl, _⟩ | ⟨g', cap, cur, rfl, _, a3, _⟩⟩ := h
  · cases hg
  · simp [Value.ownBlock] at hg
    subst hg
    exact ⟨cur, a3⟩

theorem type_ne {w : World} {b b' : Nat} {T T' : TypeId} {z z' n n' : Nat} {v v' : Value} {xs xs' : List Value} (hT : T ≠ T') (h : w.ownsRow b T z v n xs) (h' : w.ownsRow b' T' z' v' n' xs') : ∀ g, v.ownBlock = some g → v'.ownBlock ≠ some g := by
  intro g hg hg'
  obtain ⟨cs, e⟩ := row_type h hg
  obtain ⟨cs', e'⟩ := row_type h' hg'
  rw [e] at e'
  simp at e'
  exact hT e'.2

theorem row_base {w : World} {base : Nat} {T : TypeId} {z n : Nat} {v : Value} {xs : List Value} (h : w.ownsRow base T z v n xs) {g : Nat} (hg : v.ownBlock = some g) : base ≤ g := by
  obtain ⟨_, ⟨rfl, _⟩ | ⟨g', cap, cur, rfl, a2, _⟩⟩ := h
  · cases hg
  · simp [Value.ownBlock] at hg
    subst hg
    exact a2

end Go.Proofs.YtghngopclhhoeaaDoor

/- Lists of elements that hold bytes, apart from each other, each grown by marks of its own, gathered. -/
namespace Go.Proofs.YtghngopclhhoeaaDoor
open Go.RowKit
set_option maxRecDepth 8000
set_option linter.unusedSimpArgs false
set_option linter.unusedVariables false

theorem MkO.kept' {w w' : World} {S : Nat → Prop} {T : TypeId} {z q n : Nat} {s : ByteArray} {xs : List Value} (h : MkO w z q n s xs) (hk : Kept w w' S) (ho : ∀ g, S g → ∃ cs, w.heap[g]? = some (.cells cs T (0, 0))) (hT : T ≠ 5) : MkO w' z q n s xs := fun k hkn => by
  obtain ⟨v, h1, h2⟩ := h k hkn
  refine ⟨v, h1, h2.kept hk (fun g3 h3 e3 => ?_)⟩
  obtain ⟨cs, e4⟩ := ho g3 e3
  obtain ⟨cs2, fr2, e5⟩ := h2.type h3
  rw [e4] at e5
  simp only [Option.some.injEq, Obj.cells.injEq] at e5
  exact hT e5.2.1

/-- The first i lists are grown and gathered. -/
structure Bm (w wr : World) (T T1 : TypeId) (z q : Nat) (rs : List Rw) (Xs : Nat → List Value) (s : Nat → ByteArray) (c i : Nat) (mv : Value) (ms : List Value) : Prop where
  len : ms.length = i
  more : wr.ownsRow w.heap.size T1 1 mv i ms
  rows : RowsR wr T z rs Xs
  news : ∀ j (hj : j < rs.length) (hm : j < ms.length), ∃ ys, wr.ownsRow 0 T z ms[j] (rs[j].n + c) (Xs j ++ ys) ∧ MkO wr z q c (s j) ys
  far : ∀ j (hj : j < rs.length) (hm : j < ms.length) g, ms[j].ownBlock = some g → rs[j].v.ownBlock = some g ∨ w.heap.size ≤ g
  kept : Kept w wr (fun k => ∃ j, ∃ hj : j < rs.length, rs[j].v.ownBlock = some k)

theorem Bm.start {w : World} {T T1 : TypeId} {z q c : Nat} {rs : List Rw} {Xs : Nat → List Value} {s : Nat → ByteArray} (h : RowsR w T z rs Xs) : Bm w w T T1 z q rs Xs s c 0 (.slice none 0 0) [] :=
  ⟨rfl, World.ownsRow_nil _ _ _ _, h, fun j _ hm => by simp at hm, fun j _ hm => by simp at hm, Kept.refl _ _⟩

theorem Bm.step {w wr wx w' : World} {T T1 : TypeId} {z q c i : Nat} {rs : List Rw} {Xs : Nat → List Value} {s : Nat → ByteArray} {mv mv' m : Value} {ms : List Value} (h : Bm w wr T T1 z q rs Xs s c i mv ms) (hT : T ≠ T1) (hT0 : T ≠ 5) (hT1 : T1 ≠ 5) (h0 : RowsR w T z rs Xs) (hap : ApartR rs) (hi : i < rs.length)
    (hg : Gm wr wx T z q rs[i].v rs[i].n (Xs i) (s i) c m) (ho : w'.ownsRow w.heap.size T1 1 mv' (i + 1) (ms ++ [m])) (hgr : wx.grownBy w' mv.ownBlock) : Bm w w' T T1 z q rs Xs s c (i + 1) mv' (ms ++ [m]) := by
  obtain ⟨⟨ys, g1, _, g3⟩, g4, g5, g6⟩ := hg
  have hold : ∀ g, rs[i].v.ownBlock = some g → g < w.heap.size := fun g hg => row_lt (h0 i hi) hg
  have hmvx : wx.ownsRow w.heap.size T1 1 mv i ms := row_kept h.more g5 (fun g hg e => by have := hold g e; have := row_base h.more hg; omega)
  have hrow : ∀ {n : Nat} {v : Value} {xs : List Value}, wx.ownsRow 0 T z v n xs → w'.ownsRow 0 T z v n xs := fun hr => row_other hr hgr (fun g hg e => type_ne hT hr hmvx g hg e)
  have hrows : RowsR wx T z rs Xs := fun j hj => by
    by_cases hji : j = i
    · subst hji; exact g4
    · exact row_kept (h.rows j hj) g5 (fun g hg e => hap j i hj hi hji g hg e)
  have hlt : ms.length = i := h.len
  refine ⟨by simp [hlt], ho, fun j hj => hrow (hrows j hj), fun j hj hm => ?_, fun j hj hm g hb => ?_, ?_⟩
  · by_cases hji : j < ms.length
    · rw [List.getElem_append_left hji]
      obtain ⟨zs, z1, z2⟩ := h.news j hj hji
      refine ⟨zs, hrow (row_kept z1 g5 (fun g hg e => ?_)), (z2.kept' g5 (fun g e => row_type (h.rows i hi) e) hT0).grown hgr (fun g e => row_type hmvx e) hT1⟩
      rcases h.far j hj hji g hg with e2 | e2
      · exact hap j i hj hi (by omega) g e2 e
      · have := hold g e; omega
    · obtain rfl : j = i := by simp at hm; omega
      have e : (ms ++ [m])[j] = m := by rw [List.getElem_append_right (by omega)]; simp [hlt]
      rw [e]
      exact ⟨ys, hrow g1, g3.grown hgr (fun g e => row_type hmvx e) hT1⟩
  · by_cases hji : j < ms.length
    · rw [List.getElem_append_left hji] at hb
      exact h.far j hj hji g hb
    · obtain rfl : j = i := by simp at hm; omega
      have e : (ms ++ [m])[j] = m := by rw [List.getElem_append_right (by omega)]; simp [hlt]
      rw [e] at hb
      rcases g6 with ⟨_, e2⟩ | ⟨g2, cap, e2, e3⟩ | ⟨g2, e2, hle⟩
      · left; rw [← e2]; exact hb
      · left
        rw [e3] at hb
        rw [e2]
        exact hb
      · right
        rw [e2] at hb
        cases hb
        exact Nat.le_trans h.kept.size hle
  · refine (h.kept.trans g5 (fun k _ e => ⟨i, hi, e⟩)).trans ⟨hgr.os, hgr.tape, hgr.output, hgr.size, fun k hk hne => hgr.block k hk (fun e => hne e.symm)⟩ (fun k hk e => ?_)
    have := row_base h.more e
    omega

end Go.Proofs.YtghngopclhhoeaaDoor

/- Lists that lie apart, filled with marks element by element: what holds of them. -/
namespace Go.Proofs.YtghngopclhhoeaaDoor
open Go.RowKit
set_option maxRecDepth 8000

/-- The blocks of these lists. -/
def BlkR (rs : List Rw) (k : Nat) : Prop := ∃ j, ∃ hj : j < rs.length, rs[j].v.ownBlock = some k

/-- A list of lists in memory, in a block of its own kind. -/
def SeesL (w : World) (T1 : TypeId) (lv : Value) (rs : List Rw) : Prop := ∃ ao cap, lv = .slice ao rs.length cap ∧ rs.length ≤ cap ∧ (rs ≠ [] → ∃ b off, ao = some ⟨b, off, none⟩ ∧ (∃ cs fr, w.heap[b]? = some (.cells cs T1 fr)) ∧ ∀ j (hj : j < rs.length), w.cell? ⟨b, off + j, none⟩ = some rs[j].v)

theorem SeesL.kept {w w' : World} {T T1 : TypeId} {z : Nat} {lv : Value} {rs : List Rw} {Xs : Nat → List Value} (h : SeesL w T1 lv rs) (hr : RowsR w T z rs Xs) (hT : T ≠ T1) (hk : Kept w w' (BlkR rs)) : SeesL w' T1 lv rs := by
  obtain ⟨ao, cap, h1, h2, h3⟩ := h
  refine ⟨ao, cap, h1, h2, fun hn => ?_⟩
  obtain ⟨b, off, h4, ⟨cs, fr, h5⟩, h6⟩ := h3 hn
  have hnb : ¬ BlkR rs b := by
    rintro ⟨j, hj, e⟩
    obtain ⟨cs', e'⟩ := row_type (hr j hj) e
    rw [h5] at e'
    simp at e'
    exact hT e'.2.1.symm
  have hb : w'.heap[b]? = w.heap[b]? := hk.block b (lt_of_block h5) hnb
  refine ⟨b, off, h4, ⟨cs, fr, by rw [hb]; exact h5⟩, fun j hj => ?_⟩
  have := h6 j hj
  unfold World.cell? at this ⊢
  rw [hb]
  exact this

end Go.Proofs.YtghngopclhhoeaaDoor

/- Rows of memory and their forms: what grownX and apartX of lagoonref00 share. -/
namespace Go.Proofs.YtghngopclhhoeaaDoor
open Go.RowKit Go.Shelf
set_option maxRecDepth 8000

theorem info3B {T : TypeId} {z : Value} {s b : Nat} (h : (Tryd.prog.info? T).map (fun i => (i.zero, i.size, i.bytes)) = some (some z, s, b)) : ∃ i, Tryd.prog.info? T = some i ∧ i.zero = some z ∧ i.size = s ∧ i.bytes = b := by
  cases hh : Tryd.prog.info? T with
  | none => rw [hh] at h; simp at h
  | some i => rw [hh] at h; simp at h; exact ⟨i, rfl, h.1, h.2.1, h.2.2⟩

theorem below_new {w w' : World} (h : Below w.heap.size w w') : Kept w w' (fun _ => False) := ⟨h.os, h.tape, h.output, h.size, fun k hk _ => h.block k hk⟩

theorem row_form {w : World} {base : Nat} {T : TypeId} {z n : Nat} {v : Value} {xs : List Value} (h : w.ownsRow base T z v n xs) : ∃ a n c, v = .slice a n c := by
  obtain ⟨_, ⟨rfl, _⟩ | ⟨g, cap, cur, rfl, _⟩⟩ := h
  · exact ⟨_, _, _, rfl⟩
  · exact ⟨_, _, _, rfl⟩

theorem row_val {w : World} {base : Nat} {T : TypeId} {z n : Nat} {v : Value} {xs : List Value} (h : w.ownsRow base T z v n xs) : ∃ a c, v = .slice a n c := by
  obtain ⟨_, ⟨rfl, rfl⟩ | ⟨g, cap, cur, rfl, _⟩⟩ := h
  · exact ⟨_, _, rfl⟩
  · exact ⟨_, _, rfl⟩

theorem row_first {w : World} {base : Nat} {T : TypeId} {z n n' cap : Nat} {a : Option Addr} {xs : List Value} (h : w.ownsRow base T z (.slice a n' cap) n xs) (hn : 0 < n) : ∃ g, a = some ⟨g, 0, none⟩ ∧ ∀ j, j < n * z → w.cell? ⟨g, j, none⟩ = xs[j]? := by
  obtain ⟨h1, ⟨e, h0⟩ | ⟨g, cap', cur, e, a2⟩⟩ := id h
  · omega
  · simp only [Value.slice.injEq] at e
    obtain ⟨rfl, rfl, rfl⟩ := e
    exact ⟨g, rfl, fun j hj => h.cellAt j hj⟩

/-- One row holds one list. -/
theorem own_same {w : World} {base : Nat} {T : TypeId} {z n : Nat} {v : Value} {xs ys : List Value} (h : w.ownsRow base T z v n xs) (h' : w.ownsRow base T z v n ys) : xs = ys := by
  obtain ⟨l1, ⟨rfl, h0⟩ | ⟨g, cap, cur, rfl, _, a3, _, _, _, a7⟩⟩ := h
  · have l2 := h'.1
    rw [h0, Nat.zero_mul] at l1 l2
    rw [List.length_eq_zero_iff.1 l1, List.length_eq_zero_iff.1 l2]
  · obtain ⟨_, ⟨e, _⟩ | ⟨g', cap', cur', e, _, b3, _, _, _, b7⟩⟩ := h'
    · cases e
    · simp only [Value.slice.injEq, Option.some.injEq, Addr.mk.injEq, and_true, true_and] at e
      obtain ⟨rfl, rfl⟩ := e
      rw [a3] at b3
      simp only [Option.some.injEq, Obj.cells.injEq, and_true] at b3
      rw [← a7, ← b7, b3]
end Go.Proofs.YtghngopclhhoeaaDoor
