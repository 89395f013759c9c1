/- Rows of a list's own, whatever size its elements have: an append into its own room, or into a new row that leaves the old one as it was. -/
import Derived.Test.YtoeialngbbfoeaaGreatDoorLeafSumJ
import Derived.Maps.AppendAt
import Derived.Test.YtoeialngbbfoeaaGreatDoorProg
import Derived.Lib.SlFresh
import Derived.Deep.RegionHeld
namespace Go.Proofs.YtoeialngbbfoeaaGreatDoor
open Go.RowKit
set_option maxRecDepth 8000

/-- A row in another block than the one that changed. -/
theorem row_other {w w' : World} {b : Option Nat} {base : Nat} {T : TypeId} {z n : Nat} {v : Value} {xs : List Value} (h : w.ownsRow base T z v n xs) (hg : w.grownBy w' b) (hne : ∀ g, v.ownBlock = some g → b ≠ some g) : w'.ownsRow base T z v n xs := by
  obtain ⟨h1, h2 | ⟨g, cap, cur, rfl, a2, a3, a4⟩⟩ := h
  · exact ⟨h1, .inl h2⟩
  · refine ⟨h1, .inr ⟨g, cap, cur, rfl, a2, ?_, a4⟩⟩
    rw [hg.block g (lt_of_block a3) (fun e => hne g rfl e.symm)]
    exact a3

/-- The beginning of a row is a row, with the same room. -/
theorem row_front {w : World} {base : Nat} {T : TypeId} {z n m g cap : Nat} {xs ys : List Value} (h : w.ownsRow base T z (.slice (some ⟨g, 0, none⟩) (n + m) cap) (n + m) (xs ++ ys)) (hl : xs.length = n * z) : w.ownsRow base T z (.slice (some ⟨g, 0, none⟩) n cap) n xs := by
  refine ⟨hl, ?_⟩
  obtain ⟨h1, ⟨e, _⟩ | ⟨g', cap', cur, e, a2, a3, a4, a5, a6, a7⟩⟩ := h
  · cases e
  · simp only [Value.slice.injEq, Option.some.injEq, Addr.mk.injEq, and_true, true_and] at e
    obtain ⟨rfl, rfl⟩ := e
    refine .inr ⟨g, cap, cur, rfl, a2, a3, by omega, a5, a6, ?_⟩
    have := congrArg (List.take (n * z)) a7
    rw [List.take_take, Nat.min_eq_left (Nat.mul_le_mul_right z (by omega)), ← hl, List.take_left] at this
    rw [← hl]
    exact this

/-- One more element: in its own room, or in a new row, the old one left as it was. -/
theorem app_row {P : Program} {w : World} (base : Nat) (t ty e : TypeId) (i : TypeInfo) (zv : Value) (size bytes : Nat) (ht : P.underlying t = some (.slice e)) (hi : P.info? e = some i) (hz : i.zero = some zv)
    (hsize : i.size = size) (hby : i.bytes = bytes) (hzs : zv.cells.size = size) (hsz : 0 < size) (v : Value) (n : Nat) (xs : List Value) (ho : w.ownsRow base e size v n xs) (m : Nat) (news : List Value) (hn : news.length = size)
    (hm : w.heap[m]? = some (.cells news.toArray e (0, 0))) (h1 : ∀ u ∈ news, u.oneCell' = true) (hl : n ≤ 2000000000) (hb1 : bytes ≤ 1000) (hb : base ≤ w.heap.size) :
    ∃ v' w', (Builtin.append_ #[t, t] ty #[v, .slice (some ⟨m, 0, none⟩) 1 1]).run P w = .ok v' w' ∧ w'.ownsRow base e size v' (n + 1) (xs ++ news) ∧ w.grownBy w' v.ownBlock ∧
      ((∃ g cap, v = .slice (some ⟨g, 0, none⟩) n cap ∧ v' = .slice (some ⟨g, 0, none⟩) (n + 1) cap) ∨ (v'.ownBlock = some w.heap.size ∧ w.grownBy w' none)) := by
  have hnews : ∀ j u, news[j]? = some u → w.cell? ((⟨m, 0, none⟩ : Addr).add j) = some u := fun j u hj => by
    rw [Addr.add_lit, Nat.zero_add, cell_of_row w m j _ _ _ hm, ← Array.getElem?_toList]
    exact hj
  have hby2 : (n + 1) * bytes ≤ 140737488355328 := Nat.le_trans (Nat.mul_le_mul (show n + 1 ≤ 2000000001 by omega) hb1) (by decide)
  obtain ⟨v', w', hr, o1, o2, o3, o4⟩ := run_append_own_at (P := P) w base t ty e i zv size bytes ht hi hz hsize hby hzs hsz v n xs ho ⟨m, 0, none⟩ 1 1 news (by rw [hn, Nat.one_mul]) hnews h1 (by unfold maxLen; omega) hby2 hb
  refine ⟨v', w', hr, o1, o2, ?_⟩
  obtain ⟨hxl, ⟨rfl, h0⟩ | ⟨g, cap, cur, rfl, a2, a3, a4, a5, a6, a7⟩⟩ := ho
  · right
    rcases o4 with o4 | o4
    · obtain ⟨_, ⟨_, h1'⟩ | ⟨g, cap, cur, rfl, _⟩⟩ := o1
      · omega
      · simp [Value.ownBlock] at o4
    · exact ⟨o4, o2⟩
  · by_cases hroom : n + 1 ≤ cap
    · left
      have hfit : n * i.size + news.length ≤ cur.size := by
        have := Nat.mul_le_mul_right size hroom
        rw [Nat.add_mul, Nat.one_mul] at this
        rw [hsize, a6, hn]
        exact this
      have h2 := run_append_room (P := P) w t ty e i ht hi g n cap cur a3 ⟨m, 0, none⟩ 1 1 news (by rw [hn, hsize, Nat.one_mul]) hnews h1 hroom hfit
      rw [hr] at h2
      injection h2 with e1 e2
      exact ⟨g, cap, rfl, e1⟩
    · right
      have holds : ∀ j u, xs[j]? = some u → w.cell? ((⟨g, 0, none⟩ : Addr).add j) = some u := fun j u hj => by
        rw [Addr.add_lit, Nat.zero_add, cell_of_row w g j _ _ _ a3, ← Array.getElem?_toList]
        rw [← a7, List.getElem?_take] at hj
        split at hj
        · exact hj
        · cases hj
      have h2 := run_append_grow (P := P) w t ty e i zv ht hi hz ⟨g, 0, none⟩ n cap xs (by rw [hxl, hsize]) holds ⟨m, 0, none⟩ 1 1 news (by rw [hn, hsize, Nat.one_mul]) hnews (by omega) (by omega) (growslice_fits (by omega) (by rw [hby]; exact hby2))
      rw [hr] at h2
      injection h2 with e1 e2
      rw [e1, e2]
      exact ⟨rfl, rfl, rfl, rfl, by simp, fun k hk _ => heap_alloc_old w.drew _ hk⟩

end Go.Proofs.YtoeialngbbfoeaaGreatDoor

/- A list that grows mark by mark, its old row left as it was: what holds of it. -/
namespace Go.Proofs.YtoeialngbbfoeaaGreatDoor
open Go.RowKit
set_option maxRecDepth 8000

/-- Each of n elements of z cells has this mark in its cell q. -/
def Mk (z q n : Nat) (s : Value) (xs : List Value) : Prop := ∀ k, k < n → xs[k * z + q]? = some s

theorem Mk.left {z q n : Nat} {s : Value} {xs ys : List Value} (h : Mk z q n s xs) (hl : xs.length = n * z) (hq : q < z) : Mk z q n s (xs ++ ys) := fun k hk => by
  have : k * z + q < xs.length := by
    rw [hl]
    have := Nat.mul_le_mul_right z (show k + 1 ≤ n from hk)
    rw [Nat.add_mul, Nat.one_mul] at this
    omega
  rw [List.getElem?_append_left this]
  exact h k hk

theorem Mk.right {z q n m : Nat} {s : Value} {xs ys : List Value} (h : Mk z q m s ys) (hl : xs.length = n * z) {k : Nat} (h1 : n ≤ k) (h2 : k < n + m) : (xs ++ ys)[k * z + q]? = some s := by
  obtain ⟨j, rfl⟩ : ∃ j, k = n + j := ⟨k - n, by omega⟩
  rw [List.getElem?_append_right (by rw [hl, Nat.add_mul]; omega), hl, show (n + j) * z + q - n * z = j * z + q by rw [Nat.add_mul]; omega]
  exact h j (by omega)

theorem Mk.snoc {z q t : Nat} {s : Value} {ys news : List Value} (h : Mk z q t s ys) (hl : ys.length = t * z) (hq : q < z) (hs : news[q]? = some s) : Mk z q (t + 1) s (ys ++ news) := fun k hk => by
  by_cases hkt : k < t
  · exact h.left hl hq k hkt
  · obtain rfl : k = t := by omega
    rw [List.getElem?_append_right (by omega), hl, show k * z + q - k * z = q by omega]
    exact hs

theorem row_kept {w w' : World} {S : Nat → Prop} {base : Nat} {T : TypeId} {z n : Nat} {v : Value} {xs : List Value} (h : w.ownsRow base T z v n xs) (hk : Kept w w' S) (hn : ∀ g, v.ownBlock = some g → ¬ S g) : w'.ownsRow base T z v n xs := by
  obtain ⟨h1, h2 | ⟨g, cap, cur, rfl, a2, a3, a4⟩⟩ := h
  · exact ⟨h1, .inl h2⟩
  · refine ⟨h1, .inr ⟨g, cap, cur, rfl, a2, ?_, a4⟩⟩
    rw [hk.block g (lt_of_block a3) (hn g rfl)]
    exact a3

theorem row_lt {w : World} {base : Nat} {T : TypeId} {z n : Nat} {v : Value} {xs : List Value} (h : w.ownsRow base T z v n xs) {g : Nat} (hg : v.ownBlock = some g) : g < w.heap.size := by
  obtain ⟨_, ⟨rfl, _⟩ | ⟨g', cap, cur, rfl, _, a3, _⟩⟩ := h
  · cases hg
  · simp [Value.ownBlock] at hg
    subst hg
    exact lt_of_block a3

/-- A list on its way: t marks behind what it had. -/
structure Gw (wi wx : World) (T : TypeId) (z q : Nat) (v : Value) (n : Nat) (xs : List Value) (s : Value) (t : Nat) (m : Value) : Prop where
  ys : ∃ ys, wx.ownsRow 0 T z m (n + t) (xs ++ ys) ∧ ys.length = t * z ∧ Mk z q t s ys
  old : wx.ownsRow 0 T z v n xs
  kept : Kept wi wx (fun k => v.ownBlock = some k)
  lies : (t = 0 ∧ m = v) ∨ (∃ g cap, v = .slice (some ⟨g, 0, none⟩) n cap ∧ m = .slice (some ⟨g, 0, none⟩) (n + t) cap) ∨ ∃ g, m.ownBlock = some g ∧ wi.heap.size ≤ g

theorem Gw.start {w : World} {T : TypeId} {z q n : Nat} {v : Value} {xs : List Value} (s : Value) (h : w.ownsRow 0 T z v n xs) : Gw w w T z q v n xs s 0 v :=
  ⟨⟨[], by rw [List.append_nil]; exact h, by simp, fun k hk => by omega⟩, h, Kept.refl _ _, .inl ⟨rfl, rfl⟩⟩

theorem Gw.next {wi wx w1 : World} {T : TypeId} {z q n t : Nat} {v m s : Value} {xs : List Value} (h : Gw wi wx T z q v n xs s t m) (hk : Kept wx w1 (fun _ => False)) : Gw wi w1 T z q v n xs s t m := by
  obtain ⟨⟨ys, h1, h2, h3⟩, h4, h5, h6⟩ := h
  exact ⟨⟨ys, row_kept h1 hk (fun _ _ h => h), h2, h3⟩, row_kept h4 hk (fun _ _ h => h), h5.trans hk (fun _ _ h => h.elim), h6⟩

theorem Gw.more {wi w1 w' : World} {T : TypeId} {z q n t : Nat} {v m m' s : Value} {xs news : List Value} (h : Gw wi w1 T z q v n xs s t m) (hv : ∀ g, v.ownBlock = some g → g < wi.heap.size) (hxl : xs.length = n * z) (hn : news.length = z) (hq : q < z) (hs : news[q]? = some s)
    (ho : ∀ ys, w1.ownsRow 0 T z m (n + t) (xs ++ ys) → w'.ownsRow 0 T z m' (n + t + 1) (xs ++ ys ++ news)) (hg : w1.grownBy w' m.ownBlock)
    (hc : (∃ g cap, m = .slice (some ⟨g, 0, none⟩) (n + t) cap ∧ m' = .slice (some ⟨g, 0, none⟩) (n + t + 1) cap) ∨ (m'.ownBlock = some w1.heap.size ∧ w1.grownBy w' none)) : Gw wi w' T z q v n xs s (t + 1) m' := by
  obtain ⟨⟨ys, h1, h2, h3⟩, h4, h5, h6⟩ := h
  have hrow : w'.ownsRow 0 T z m' (n + (t + 1)) (xs ++ (ys ++ news)) := by
    have := ho ys h1
    rw [List.append_assoc] at this
    exact this
  have hys : ∃ ys, w'.ownsRow 0 T z m' (n + (t + 1)) (xs ++ ys) ∧ ys.length = (t + 1) * z ∧ Mk z q (t + 1) s ys :=
    ⟨ys ++ news, hrow, by rw [List.length_append, h2, hn, Nat.add_mul, Nat.one_mul], h3.snoc h2 hq hs⟩
  rcases hc with ⟨g, cap, rfl, rfl⟩ | ⟨hnew, hg0⟩
  · have hblk : (Value.slice (some ⟨g, 0, none⟩) (n + t) cap).ownBlock = some g := rfl
    by_cases hvg : v.ownBlock = some g
    · have hsame : ∃ g' cap', v = .slice (some ⟨g', 0, none⟩) n cap' ∧ Value.slice (some ⟨g, 0, none⟩) (n + t) cap = .slice (some ⟨g', 0, none⟩) (n + t) cap' := by
        rcases h6 with ⟨rfl, e⟩ | h6 | ⟨g2, e2, hlt⟩
        · exact ⟨g, cap, by rw [← e, Nat.add_zero], rfl⟩
        · exact h6
        · rw [hblk] at e2
          cases e2
          have := hv g hvg
          omega
      obtain ⟨g', cap', rfl, e⟩ := hsame
      simp only [Value.slice.injEq, Option.some.injEq, Addr.mk.injEq, and_true, true_and] at e
      obtain ⟨rfl, rfl⟩ := e
      refine ⟨hys, row_front hrow hxl, h5.trans ⟨hg.os, hg.tape, hg.output, hg.size, fun k hk hne => hg.block k hk (fun e => hne e.symm)⟩ (fun _ _ h => h), .inr (.inl ⟨g, cap, rfl, rfl⟩)⟩
    · have hge : wi.heap.size ≤ g := by
        rcases h6 with ⟨rfl, e⟩ | ⟨g2, c2, rfl, e⟩ | ⟨g2, e2, hlt⟩
        · rw [← e] at hvg; exact absurd hblk hvg
        · cases e; exact absurd rfl hvg
        · rw [hblk] at e2; cases e2; exact hlt
      refine ⟨hys, row_other h4 hg (fun g3 h3 e3 => hvg (by rw [h3, ← e3, hblk])), h5.trans ⟨hg.os, hg.tape, hg.output, hg.size, fun k hk hne => hg.block k hk (fun e => hne e.symm)⟩ (fun k hk e => ?_), .inr (.inr ⟨g, rfl, hge⟩)⟩
      exfalso
      cases e
      have hk2 : g < wi.heap.size := hk
      omega
  · refine ⟨hys, row_other h4 hg0 (fun _ _ e => by cases e), h5.trans ⟨hg0.os, hg0.tape, hg0.output, hg0.size, fun k hk _ => hg0.block k hk (fun e => by cases e)⟩ (fun _ _ h => h), .inr (.inr ⟨_, hnew, h5.size⟩)⟩

end Go.Proofs.YtoeialngbbfoeaaGreatDoor

/- Lists that lie apart, each grown by marks of its own, gathered: what holds of them. -/
namespace Go.Proofs.YtoeialngbbfoeaaGreatDoor
open Go.RowKit
set_option maxRecDepth 8000

/-- A list: its value and its length. -/
structure Rw where
  v : Value
  n : Nat

/-- No two lists lie in one block. -/
def ApartR (rs : List Rw) : Prop := ∀ i j (hi : i < rs.length) (hj : j < rs.length), i ≠ j → ∀ g, rs[i].v.ownBlock = some g → rs[j].v.ownBlock ≠ some g

/-- All lists stand. -/
def RowsR (w : World) (T : TypeId) (z : Nat) (rs : List Rw) (Xs : Nat → List Value) : Prop := ∀ j (hj : j < rs.length), w.ownsRow 0 T z rs[j].v rs[j].n (Xs j)

/-- The first i lists are grown and gathered. -/
structure Bd (w wr : World) (T T1 : TypeId) (z q : Nat) (rs : List Rw) (Xs : Nat → List Value) (s : Nat → Value) (c i : Nat) (mv : Value) (ms : List Value) : Prop where
  len : ms.length = i
  more : wr.ownsRow w.heap.size T1 1 mv i ms
  rows : RowsR wr T z rs Xs
  news : ∀ j (hj : j < rs.length) (hm : j < ms.length), ∃ ys, wr.ownsRow 0 T z ms[j] (rs[j].n + c) (Xs j ++ ys) ∧ Mk z q c (s j) ys
  far : ∀ j (hj : j < rs.length) (hm : j < ms.length) g, ms[j].ownBlock = some g → rs[j].v.ownBlock = some g ∨ w.heap.size ≤ g
  kept : Kept w wr (fun k => ∃ j, ∃ hj : j < rs.length, rs[j].v.ownBlock = some k)

theorem Bd.start {w : World} {T T1 : TypeId} {z q c : Nat} {rs : List Rw} {Xs : Nat → List Value} {s : Nat → Value} (h : RowsR w T z rs Xs) : Bd w w T T1 z q rs Xs s c 0 (.slice none 0 0) [] :=
  ⟨rfl, World.ownsRow_nil _ _ _ _, h, fun j _ hm => by simp at hm, fun j _ hm => by simp at hm, Kept.refl _ _⟩

theorem row_type {w : World} {base : Nat} {T : TypeId} {z n : Nat} {v : Value} {xs : List Value} (h : w.ownsRow base T z v n xs) {g : Nat} (hg : v.ownBlock = some g) : ∃ cs, w.heap[g]? = some (.cells cs T (0, 0)) := by
  obtain ⟨_, ⟨rfl, _⟩ | ⟨g', cap, cur, rfl, _, a3, _⟩⟩ := h
  · cases hg
  · simp [Value.ownBlock] at hg
    subst hg
    exact ⟨cur, a3⟩

theorem type_ne {w : World} {b b' : Nat} {T T' : TypeId} {z z' n n' : Nat} {v v' : Value} {xs xs' : List Value} (hT : T ≠ T') (h : w.ownsRow b T z v n xs) (h' : w.ownsRow b' T' z' v' n' xs') : ∀ g, v.ownBlock = some g → v'.ownBlock ≠ some g := by
  intro g hg hg'
  obtain ⟨cs, e⟩ := row_type h hg
  obtain ⟨cs', e'⟩ := row_type h' hg'
  rw [e] at e'
  simp at e'
  exact hT e'.2

theorem row_base {w : World} {base : Nat} {T : TypeId} {z n : Nat} {v : Value} {xs : List Value} (h : w.ownsRow base T z v n xs) {g : Nat} (hg : v.ownBlock = some g) : base ≤ g := by
  obtain ⟨_, ⟨rfl, _⟩ | ⟨g', cap, cur, rfl, a2, _⟩⟩ := h
  · cases hg
  · simp [Value.ownBlock] at hg
    subst hg
    exact a2

theorem Bd.step {w wr wx w' : World} {T T1 : TypeId} {z q c i : Nat} {rs : List Rw} {Xs : Nat → List Value} {s : Nat → Value} {mv mv' m : Value} {ms : List Value} (h : Bd w wr T T1 z q rs Xs s c i mv ms) (hT : T ≠ T1) (h0 : RowsR w T z rs Xs) (hap : ApartR rs) (hi : i < rs.length)
    (hg : Gw wr wx T z q rs[i].v rs[i].n (Xs i) (s i) c m) (ho : w'.ownsRow w.heap.size T1 1 mv' (i + 1) (ms ++ [m])) (hgr : wx.grownBy w' mv.ownBlock) : Bd w w' T T1 z q rs Xs s c (i + 1) mv' (ms ++ [m]) := by
  obtain ⟨⟨ys, g1, _, g3⟩, g4, g5, g6⟩ := hg
  have hold : ∀ g, rs[i].v.ownBlock = some g → g < w.heap.size := fun g hg => row_lt (h0 i hi) hg
  have hmvx : wx.ownsRow w.heap.size T1 1 mv i ms := row_kept h.more g5 (fun g hg e => by have := hold g e; have := row_base h.more hg; omega)
  have hrow : ∀ {n : Nat} {v : Value} {xs : List Value}, wx.ownsRow 0 T z v n xs → w'.ownsRow 0 T z v n xs := fun hr => row_other hr hgr (fun g hg e => type_ne hT hr hmvx g hg e)
  have hrows : RowsR wx T z rs Xs := fun j hj => by
    by_cases hji : j = i
    · subst hji; exact g4
    · exact row_kept (h.rows j hj) g5 (fun g hg e => hap j i hj hi hji g hg e)
  have hlt : ms.length = i := h.len
  refine ⟨by simp [hlt], ho, fun j hj => hrow (hrows j hj), fun j hj hm => ?_, fun j hj hm g hb => ?_, ?_⟩
  · by_cases hji : j < ms.length
    · rw [List.getElem_append_left hji]
      obtain ⟨zs, z1, z2⟩ := h.news j hj hji
      refine ⟨zs, hrow (row_kept z1 g5 (fun g hg e => ?_)), z2⟩
      rcases h.far j hj hji g hg with e2 | e2
      · exact hap j i hj hi (by omega) g e2 e
      · have := hold g e; omega
    · obtain rfl : j = i := by simp at hm; omega
      have e : (ms ++ [m])[j] = m := by rw [List.getElem_append_right (by omega)]; simp [hlt]
      rw [e]
      exact ⟨ys, hrow g1, g3⟩
  · by_cases hji : j < ms.length
    · rw [List.getElem_append_left hji] at hb
      exact h.far j hj hji g hb
    · obtain rfl : j = i := by simp at hm; omega
      have e : (ms ++ [m])[j] = m := by rw [List.getElem_append_right (by omega)]; simp [hlt]
      rw [e] at hb
      rcases g6 with ⟨_, e2⟩ | ⟨g2, cap, e2, e3⟩ | ⟨g2, e2, hle⟩
      · left; rw [← e2]; exact hb
      · left
        rw [e3] at hb
        rw [e2]
        exact hb
      · right
        rw [e2] at hb
        cases hb
        exact Nat.le_trans h.kept.size hle
  · refine (h.kept.trans g5 (fun k _ e => ⟨i, hi, e⟩)).trans ⟨hgr.os, hgr.tape, hgr.output, hgr.size, fun k hk hne => hgr.block k hk (fun e => hne e.symm)⟩ (fun k hk e => ?_)
    have := row_base h.more e
    omega

end Go.Proofs.YtoeialngbbfoeaaGreatDoor

/- Lists that lie apart, filled with marks element by element: what holds of them. -/
namespace Go.Proofs.YtoeialngbbfoeaaGreatDoor
open Go.RowKit
set_option maxRecDepth 8000

/-- The blocks of these lists. -/
def BlkR (rs : List Rw) (k : Nat) : Prop := ∃ j, ∃ hj : j < rs.length, rs[j].v.ownBlock = some k

/-- The first i lists are filled, of the next one the first t. -/
def Fd (w wr : World) (T : TypeId) (z q : Nat) (rs : List Rw) (s : Nat → Value) (i t : Nat) (Xs : Nat → List Value) : Prop :=
  RowsR wr T z rs Xs ∧ (∀ j (hj : j < rs.length), j < i → Mk z q rs[j].n (s j) (Xs j)) ∧ Mk z q t (s i) (Xs i) ∧ Kept w wr (BlkR rs)

theorem Fd.start {w : World} {T : TypeId} {z q : Nat} {rs : List Rw} {s : Nat → Value} {Xs : Nat → List Value} (h : RowsR w T z rs Xs) : Fd w w T z q rs s 0 0 Xs :=
  ⟨h, fun j _ hj => by omega, fun k hk => by omega, Kept.refl _ _⟩

theorem Fd.next {w wr w1 : World} {T : TypeId} {z q i t : Nat} {rs : List Rw} {s : Nat → Value} {Xs : Nat → List Value} (h : Fd w wr T z q rs s i t Xs) (hk : Kept wr w1 (fun _ => False)) : Fd w w1 T z q rs s i t Xs :=
  ⟨fun j hj => row_kept (h.1 j hj) hk (fun _ _ h => h), h.2.1, h.2.2.1, h.2.2.2.trans hk (fun _ _ h => h.elim)⟩

theorem Fd.turn {w wr : World} {T : TypeId} {z q i t : Nat} {rs : List Rw} {s : Nat → Value} {Xs : Nat → List Value} (h : Fd w wr T z q rs s i t Xs) (hi : i < rs.length) (ht : rs[i].n ≤ t) : Fd w wr T z q rs s (i + 1) 0 Xs := by
  refine ⟨h.1, fun j hj hji => ?_, fun k hk => by omega, h.2.2.2⟩
  by_cases hj2 : j < i
  · exact h.2.1 j hj hj2
  · obtain rfl : j = i := by omega
    exact fun k hk => h.2.2.1 k (by omega)

theorem Fd.store {w wr w' : World} {T : TypeId} {z q i t g : Nat} {rs : List Rw} {s : Nat → Value} {Xs : Nat → List Value} {xs' : List Value} (h : Fd w wr T z q rs s i t Xs) (hap : ApartR rs) (hi : i < rs.length) (hb : rs[i].v.ownBlock = some g) (ho : w'.ownsRow 0 T z rs[i].v rs[i].n xs') (hg : wr.grownBy w' (some g)) (hm : Mk z q (t + 1) (s i) xs') :
    Fd w w' T z q rs s i (t + 1) (fun j => if j = i then xs' else Xs j) := by
  refine ⟨fun j hj => ?_, fun j hj hji => ?_, ?_, ?_⟩
  · by_cases hji : j = i
    · subst hji
      simp only [if_pos]
      exact ho
    · simp only [if_neg hji]
      exact row_other (h.1 j hj) hg (fun g2 h2 e => by cases e; exact hap j i hj hi hji g h2 hb)
  · simp only [if_neg (show j ≠ i by omega)]
    exact h.2.1 j hj hji
  · simp only [if_pos]
    exact hm
  · exact h.2.2.2.trans ⟨hg.os, hg.tape, hg.output, hg.size, fun k hk hne => hg.block k hk (fun e => hne (by cases e; exact ⟨i, hi, hb⟩))⟩ (fun _ _ h => h)

/-- A list of lists in memory, in a block of its own kind. -/
def SeesL (w : World) (T1 : TypeId) (lv : Value) (rs : List Rw) : Prop := ∃ ao cap, lv = .slice ao rs.length cap ∧ rs.length ≤ cap ∧ (rs ≠ [] → ∃ b off, ao = some ⟨b, off, none⟩ ∧ (∃ cs fr, w.heap[b]? = some (.cells cs T1 fr)) ∧ ∀ j (hj : j < rs.length), w.cell? ⟨b, off + j, none⟩ = some rs[j].v)

theorem SeesL.kept {w w' : World} {T T1 : TypeId} {z : Nat} {lv : Value} {rs : List Rw} {Xs : Nat → List Value} (h : SeesL w T1 lv rs) (hr : RowsR w T z rs Xs) (hT : T ≠ T1) (hk : Kept w w' (BlkR rs)) : SeesL w' T1 lv rs := by
  obtain ⟨ao, cap, h1, h2, h3⟩ := h
  refine ⟨ao, cap, h1, h2, fun hn => ?_⟩
  obtain ⟨b, off, h4, ⟨cs, fr, h5⟩, h6⟩ := h3 hn
  have hnb : ¬ BlkR rs b := by
    rintro ⟨j, hj, e⟩
    obtain ⟨cs', e'⟩ := row_type (hr j hj) e
    rw [h5] at e'
    simp at e'
    exact hT e'.2.1.symm
  have hb : w'.heap[b]? = w.heap[b]? := hk.block b (lt_of_block h5) hnb
  refine ⟨b, off, h4, ⟨cs, fr, by rw [hb]; exact h5⟩, fun j hj => ?_⟩
  have := h6 j hj
  unfold World.cell? at this ⊢
  rw [hb]
  exact this

end Go.Proofs.YtoeialngbbfoeaaGreatDoor

/- Rows of memory and their forms: what grownX and apartX of lagoonref00 share. -/
namespace Go.Proofs.YtoeialngbbfoeaaGreatDoor
open Go.RowKit Go.Shelf
set_option maxRecDepth 8000

theorem info3B {T : TypeId} {z : Value} {s b : Nat} (h : (Tryz.prog.info? T).map (fun i => (i.zero, i.size, i.bytes)) = some (some z, s, b)) : ∃ i, Tryz.prog.info? T = some i ∧ i.zero = some z ∧ i.size = s ∧ i.bytes = b := by
  cases hh : Tryz.prog.info? T with
  | none => rw [hh] at h; simp at h
  | some i => rw [hh] at h; simp at h; exact ⟨i, rfl, h.1, h.2.1, h.2.2⟩

theorem below_new {w w' : World} (h : Below w.heap.size w w') : Kept w w' (fun _ => False) := ⟨h.os, h.tape, h.output, h.size, fun k hk _ => h.block k hk⟩

theorem row_form {w : World} {base : Nat} {T : TypeId} {z n : Nat} {v : Value} {xs : List Value} (h : w.ownsRow base T z v n xs) : ∃ a n c, v = .slice a n c := by
  obtain ⟨_, ⟨rfl, _⟩ | ⟨g, cap, cur, rfl, _⟩⟩ := h
  · exact ⟨_, _, _, rfl⟩
  · exact ⟨_, _, _, rfl⟩

theorem row_val {w : World} {base : Nat} {T : TypeId} {z n : Nat} {v : Value} {xs : List Value} (h : w.ownsRow base T z v n xs) : ∃ a c, v = .slice a n c := by
  obtain ⟨_, ⟨rfl, rfl⟩ | ⟨g, cap, cur, rfl, _⟩⟩ := h
  · exact ⟨_, _, rfl⟩
  · exact ⟨_, _, rfl⟩

theorem row_first {w : World} {base : Nat} {T : TypeId} {z n n' cap : Nat} {a : Option Addr} {xs : List Value} (h : w.ownsRow base T z (.slice a n' cap) n xs) (hn : 0 < n) : ∃ g, a = some ⟨g, 0, none⟩ ∧ ∀ j, j < n * z → w.cell? ⟨g, j, none⟩ = xs[j]? := by
  obtain ⟨h1, ⟨e, h0⟩ | ⟨g, cap', cur, e, a2⟩⟩ := id h
  · omega
  · simp only [Value.slice.injEq] at e
    obtain ⟨rfl, rfl, rfl⟩ := e
    exact ⟨g, rfl, fun j hj => h.cellAt j hj⟩

/-- One row holds one list. -/
theorem own_same {w : World} {base : Nat} {T : TypeId} {z n : Nat} {v : Value} {xs ys : List Value} (h : w.ownsRow base T z v n xs) (h' : w.ownsRow base T z v n ys) : xs = ys := by
  obtain ⟨l1, ⟨rfl, h0⟩ | ⟨g, cap, cur, rfl, _, a3, _, _, _, a7⟩⟩ := h
  · have l2 := h'.1
    rw [h0, Nat.zero_mul] at l1 l2
    rw [List.length_eq_zero_iff.1 l1, List.length_eq_zero_iff.1 l2]
  · obtain ⟨_, ⟨e, _⟩ | ⟨g', cap', cur', e, _, b3, _, _, _, b7⟩⟩ := h'
    · cases e
    · simp only [Value.slice.injEq, Option.some.injEq, Addr.mk.injEq, and_true, true_and] at e
      obtain ⟨rfl, rfl⟩ := e
      rw [a3] at b3
      simp only [Option.some.injEq, Obj.cells.injEq, and_true] at b3
      rw [← a7, ← b7, b3]
end Go.Proofs.YtoeialngbbfoeaaGreatDoor

/- Lists in memory, their room, and what stays when some cells are written over; no Go function is walked here. -/
namespace Go.Proofs.YtoeialngbbfoeaaGreatDoor
open Go.RowKit
set_option maxRecDepth 8000

/-- All cells but those of S are in w' as they were; no block is gone, or has another length. -/
structure Turned (w w' : World) (S : Nat → Nat → Prop) : Prop where
  os : w'.os = w.os
  tape : w'.tape = w.tape
  output : w'.output = w.output
  size : w.heap.size ≤ w'.heap.size
  same : ∀ k, k < w.heap.size → (∀ i, ¬ S k i) → w'.heap[k]? = w.heap[k]?
  row : ∀ k cs t fr, w.heap[k]? = some (.cells cs t fr) → ∃ cs', w'.heap[k]? = some (.cells cs' t fr) ∧ cs'.size = cs.size ∧ ∀ i, ¬ S k i → cs'[i]? = cs[i]?

section
variable {a b c w w' : World} {S S' : Nat → Nat → Prop}

theorem Turned.refl (w : World) (S : Nat → Nat → Prop) : Turned w w S := ⟨rfl, rfl, rfl, Nat.le_refl _, fun _ _ _ => rfl, fun _ cs _ _ h => ⟨cs, h, rfl, fun _ _ => rfl⟩⟩

theorem Turned.mono (h : Turned w w' S) (hS : ∀ k i, k < w.heap.size → S k i → S' k i) : Turned w w' S' :=
  ⟨h.os, h.tape, h.output, h.size, fun k hk hn => h.same k hk fun i hs => hn i (hS k i hk hs), fun k cs t fr hr => by
    obtain ⟨cs', h1, h2, h3⟩ := h.row k cs t fr hr
    exact ⟨cs', h1, h2, fun i hn => h3 i fun hs => hn (hS k i (lt_of_block hr) hs)⟩⟩

theorem Turned.trans (h : Turned a b S) (g : Turned b c S') (hS : ∀ k i, k < a.heap.size → S' k i → S k i) : Turned a c S :=
  ⟨g.os.trans h.os, g.tape.trans h.tape, g.output.trans h.output, Nat.le_trans h.size g.size,
    fun k hk hn => (g.same k (Nat.lt_of_lt_of_le hk h.size) fun i hs => hn i (hS k i hk hs)).trans (h.same k hk hn), fun k cs t fr hr => by
    obtain ⟨c1, h1, h2, h3⟩ := h.row k cs t fr hr
    obtain ⟨c2, k1, k2, k3⟩ := g.row k c1 t fr h1
    exact ⟨c2, k1, k2.trans h2, fun i hn => (k3 i fun hs => hn (hS k i (lt_of_block hr) hs)).trans (h3 i hn)⟩⟩

theorem Turned.of_kept (h : Kept w w' (fun _ => False)) (S : Nat → Nat → Prop) : Turned w w' S :=
  ⟨h.os, h.tape, h.output, h.size, fun k hk _ => h.block k hk (fun h => h), fun _ cs _ _ hr => ⟨cs, h.heap hr (fun h => h), rfl, fun _ _ => rfl⟩⟩

theorem Turned.new (h : Turned a w S) (hk : Kept w w' (fun _ => False)) : Turned a w' S := h.trans (Turned.of_kept hk (fun _ _ => False)) (fun _ _ _ h => h.elim)
/-- A block that was not there at the start may be written over at will. -/
theorem Turned.own (h : Turned a w S) {B : Nat} (hB : a.heap.size ≤ B) (hk : Kept w w' (fun k => B ≤ k)) : Turned a w' S :=
  ⟨hk.os.trans h.os, hk.tape.trans h.tape, hk.output.trans h.output, Nat.le_trans h.size hk.size,
    fun k hk' hn => (hk.block k (Nat.lt_of_lt_of_le hk' h.size) (by omega)).trans (h.same k hk' hn), fun k cs t fr hr => by
    obtain ⟨c1, h1, h2, h3⟩ := h.row k cs t fr hr
    have := lt_of_block hr
    exact ⟨c1, hk.heap h1 (by omega), h2, h3⟩⟩

theorem Turned.setCell (h : Turned a w S) {k i : Nat} (v : Value) (hS : k < a.heap.size → S k i) : Turned a (w.setCell ⟨k, i, none⟩ v) S := by
  refine ⟨h.os, h.tape, h.output, ?_, fun j hj hn => ?_, fun j cs t fr hr => ?_⟩
  · have : (w.setCell ⟨k, i, none⟩ v).heap.size = w.heap.size := by simp [World.setCell]
    rw [this]; exact h.size
  · rw [Below.heap_setCell _ _ _ _ (fun e => by have e' : j = k := e; subst e'; exact hn i (hS hj))]
    exact h.same j hj hn
  · obtain ⟨c1, h1, h2, h3⟩ := h.row j cs t fr hr
    by_cases e : j = k
    · subst e
      refine ⟨c1.setIfInBounds i v, ?_, by rw [Array.size_setIfInBounds]; exact h2, fun x hx => ?_⟩
      · rw [setCell_eq_setRow w j i c1 t fr v h1]; exact setRow_heap w j c1 _ t fr h1
      · rw [Array.getElem?_setIfInBounds_ne (fun e => hx (by subst e; exact hS (lt_of_block hr)))]
        exact h3 x hx
    · exact ⟨c1, by rw [Below.heap_setCell _ _ _ _ e]; exact h1, h2, h3⟩

theorem cell_row {k i : Nat} {v : Value} (h : w.cell? ⟨k, i, none⟩ = some v) : ∃ cs t fr, w.heap[k]? = some (.cells cs t fr) ∧ cs[i]? = some v := by
  unfold World.cell? at h
  split at h
  · rename_i cs t fr hr
    exact ⟨cs, t, fr, hr, by simpa using h⟩
  · simp at h

theorem Turned.cell (h : Turned w w' S) {k i : Nat} {v : Value} (hc : w.cell? ⟨k, i, none⟩ = some v) (hn : ¬ S k i) : w'.cell? ⟨k, i, none⟩ = some v := by
  obtain ⟨cs, t, fr, hr, hi⟩ := cell_row hc
  obtain ⟨cs', h1, _, h3⟩ := h.row k cs t fr hr
  rw [cell_of_row w' k i cs' t fr h1, h3 i hn, hi]

end

/-- A list: where it lies, its length, its room. -/
structure Pc where
  ao : Option Addr
  n : Nat
  cap : Nat

def Pc.val (p : Pc) : Value := .slice p.ao p.n p.cap
/-- The cells of a list's room; of its spare room. -/
def Pc.foot (p : Pc) (k i : Nat) : Prop := ∃ off, p.ao = some ⟨k, off, none⟩ ∧ off ≤ i ∧ i < off + p.cap
def Pc.spare (p : Pc) (k i : Nat) : Prop := ∃ off, p.ao = some ⟨k, off, none⟩ ∧ off + p.n ≤ i ∧ i < off + p.cap

/-- A list lies in a row of elements of type E, all of its room. -/
structure Lies (w : World) (E : TypeId) (p : Pc) : Prop where
  le : p.n ≤ p.cap
  most : p.cap ≤ maxLen
  nil : p.ao = none → p.cap = 0
  at' : 0 < p.cap → ∃ k off cs, p.ao = some ⟨k, off, none⟩ ∧ w.heap[k]? = some (.cells cs E (0, 0)) ∧ off + p.cap ≤ cs.size

/-- The elements of a list. -/
def Pc.Has (w : World) (p : Pc) (xs : List Value) : Prop := xs.length = p.n ∧ (xs = [] ∨ ∃ k off, p.ao = some ⟨k, off, none⟩ ∧ ∀ i (h : i < xs.length), w.cell? ⟨k, off + i, none⟩ = some xs[i])

section
variable {w w' : World} {S : Nat → Nat → Prop} {E : TypeId} {p q : Pc} {xs : List Value}

theorem Lies.turned (h : Lies w E p) (ht : Turned w w' S) : Lies w' E p :=
  ⟨h.le, h.most, h.nil, fun h0 => by
    obtain ⟨k, off, cs, h1, h2, h3⟩ := h.at' h0
    obtain ⟨cs', k1, k2, _⟩ := ht.row k cs E (0, 0) h2
    exact ⟨k, off, cs', h1, k1, by omega⟩⟩

theorem Pc.Has.turned (h : p.Has w xs) (ht : Turned w w' S) (hn : ∀ k i, p.foot k i → p.spare k i ∨ ¬ S k i) (hc : p.n ≤ p.cap) : p.Has w' xs := by
  refine ⟨h.1, ?_⟩
  rcases h.2 with h0 | ⟨k, off, h1, h2⟩
  · exact .inl h0
  · refine .inr ⟨k, off, h1, fun i hi => ht.cell (h2 i hi) ?_⟩
    have hl := h.1
    rcases hn k (off + i) ⟨off, h1, by omega, by omega⟩ with ⟨off', e, h3, _⟩ | hn
    · rw [h1] at e; simp at e; all_goals omega
    · exact hn

theorem Pc.spare_foot {k i : Nat} (h : p.spare k i) : p.foot k i := by
  obtain ⟨off, h1, h2, h3⟩ := h
  exact ⟨off, h1, by omega, h3⟩

theorem Lies.foot_lt (h : Lies w E p) {k i : Nat} (hf : p.foot k i) : k < w.heap.size ∧ ∃ cs, w.heap[k]? = some (.cells cs E (0, 0)) := by
  obtain ⟨off, h1, h2, h3⟩ := hf
  obtain ⟨k', off', cs, k1, k2, k3⟩ := h.at' (by omega)
  rw [h1] at k1
  simp at k1
  obtain ⟨rfl, rfl⟩ := k1
  exact ⟨lt_of_block k2, cs, k2⟩

/-- Lists of a call's own make. -/
theorem own_has {base : Nat} {v : Value} (h : w.ownsRow base E 1 v xs.length xs) : ∃ p : Pc, v = p.val ∧ p.n = xs.length ∧ p.Has w xs ∧ Lies w E p ∧ ∀ k i, p.foot k i → base ≤ k := by
  rcases h.2 with ⟨rfl, h0⟩ | ⟨g, cap, cur, rfl, hb, hg, h1, h2, h3, h4⟩
  · have hx : xs = [] := List.eq_nil_of_length_eq_zero h0
    subst hx
    exact ⟨⟨none, 0, 0⟩, rfl, rfl, ⟨rfl, .inl rfl⟩, ⟨Nat.le_refl _, Nat.zero_le _, fun _ => rfl, fun h => by simp at h⟩, fun k i ⟨off, e, _⟩ => by simp at e⟩
  · refine ⟨⟨some ⟨g, 0, none⟩, xs.length, cap⟩, rfl, rfl, ⟨rfl, .inr ⟨g, 0, rfl, fun i hi => ?_⟩⟩, ⟨h1, h2, fun e => by simp at e, fun _ => ⟨g, 0, cur, rfl, hg, by simp at h3 ⊢; omega⟩⟩, fun k i ⟨off, e, _⟩ => by simp at e; omega⟩
    rw [Nat.zero_add, cell_of_row w g i cur E (0, 0) hg]
    have e : cur.toList.take xs.length = xs := by simpa using h4
    have e2 : (cur.toList.take xs.length)[i]? = some xs[i] := by rw [e]; exact List.getElem?_eq_getElem hi
    rw [List.getElem?_take, if_pos hi, Array.getElem?_toList] at e2
    exact e2

end

/-- A list that is grown: the room of p is filled, or there is a new row. -/
def Grown (wi wr : World) (E : TypeId) (p : Pc) (m : Value) (xs : List Value) : Prop :=
  Turned wi wr p.spare ∧ p.n ≤ xs.length ∧ ((m = (⟨p.ao, xs.length, p.cap⟩ : Pc).val ∧ xs.length ≤ p.cap ∧ (⟨p.ao, xs.length, p.cap⟩ : Pc).Has wr xs) ∨ wr.ownsRow wi.heap.size E 1 m xs.length xs)

theorem Grown.start {w : World} {E : TypeId} {p : Pc} {xs : List Value} (h : p.Has w xs) (hl : Lies w E p) : Grown w w E p p.val xs := by
  obtain ⟨ao, n, cap⟩ := p
  have e : xs.length = n := h.1
  subst e
  exact ⟨Turned.refl _ _, Nat.le_refl _, .inl ⟨rfl, hl.le, h⟩⟩

theorem Pc.Has.kept {w w' : World} {p : Pc} {xs : List Value} (h : p.Has w xs) (hk : Kept w w' (fun _ => False)) : p.Has w' xs := by
  refine ⟨h.1, ?_⟩
  rcases h.2 with h0 | ⟨k, off, h1, h2⟩
  · exact .inl h0
  · exact .inr ⟨k, off, h1, fun i hi => hk.cell (h2 i hi) (fun h => h)⟩

theorem Grown.alloc {wi wr : World} {E : TypeId} {p : Pc} {m : Value} {xs : List Value} (h : Grown wi wr E p m xs) (o : Obj) : Grown wi (wr.alloc o) E p m xs := by
  have hk : Kept wr (wr.alloc o) (fun _ => False) := (Kept.refl wr _).alloc o
  refine ⟨h.1.new hk, h.2.1, ?_⟩
  rcases h.2.2 with ⟨h1, h2, h3⟩ | h
  · exact .inl ⟨h1, h2, h3.kept hk⟩
  · refine .inr ⟨h.1, ?_⟩
    rcases h.2 with h | ⟨g, cap, cur, e, h1, h2, h3⟩
    · exact .inl h
    · exact .inr ⟨g, cap, cur, e, h1, hk.heap h2 (fun h => h), h3⟩

end Go.Proofs.YtoeialngbbfoeaaGreatDoor

/- An append to a list that is grown, in its own room or in a new row: one law for the walk; no Go function is walked here. -/
namespace Go.Proofs.YtoeialngbbfoeaaGreatDoor
open Go.RowKit
set_option maxRecDepth 8000

theorem ownsRow_mono {w : World} {b b' : Nat} {E : TypeId} {v : Value} {n : Nat} {xs : List Value} (h : w.ownsRow b E 1 v n xs) (hb : b' ≤ b) : w.ownsRow b' E 1 v n xs := by
  refine ⟨h.1, ?_⟩
  rcases h.2 with h | ⟨g, cap, cur, e, h1, h2⟩
  · exact .inl h
  · exact .inr ⟨g, cap, cur, e, by omega, h2⟩

theorem kept_grown {w w' : World} {row : Option Nat} {S : Nat → Prop} (h : w.grownBy w' row) (hr : ∀ k, row = some k → S k) : Kept w w' S :=
  ⟨h.os, h.tape, h.output, h.size, fun k hk hn => h.block k hk (fun e => hn (hr k e.symm))⟩

theorem has_more {w : World} {ao : Option Addr} {cap k off : Nat} {cs : Array Value} {E : TypeId} {xs : List Value} {y : Value} (h : (⟨ao, xs.length, cap⟩ : Pc).Has w xs) (ha : ao = some ⟨k, off, none⟩) (hr : w.heap[k]? = some (.cells cs E (0, 0))) (hsz : off + xs.length < cs.size) :
    (⟨ao, (xs ++ [y]).length, cap⟩ : Pc).Has (w.setCell ⟨k, off + xs.length, none⟩ y) (xs ++ [y]) := by
  refine ⟨rfl, .inr ⟨k, off, ha, fun i hi => ?_⟩⟩
  have hrow : (w.setCell ⟨k, off + xs.length, none⟩ y).heap[k]? = some (.cells (cs.setIfInBounds (off + xs.length) y) E (0, 0)) := by
    rw [setCell_eq_setRow w k _ cs E (0, 0) y hr]; exact setRow_heap w k cs _ E (0, 0) hr
  rw [cell_of_row _ k (off + i) _ _ _ hrow]
  by_cases e : i = xs.length
  · subst e
    rw [Array.getElem?_setIfInBounds_self_of_lt hsz]
    simp
  · have hi2 : i < xs.length := by rw [List.length_append] at hi; simp at hi; omega
    rw [Array.getElem?_setIfInBounds_ne (by omega), ← cell_of_row w k (off + i) cs E (0, 0) hr]
    rcases h.2 with h0 | ⟨k', off', e', h2⟩
    · rw [h0] at hi2; simp at hi2
    · have e2 : some (⟨k, off, none⟩ : Addr) = some ⟨k', off', none⟩ := ha.symm.trans e'
      simp at e2
      obtain ⟨rfl, rfl⟩ := e2
      rw [h2 i hi2, List.getElem_append_left hi2]

/-- The blocks whose elements are of type E. -/
def OfType (w : World) (E : TypeId) (k : Nat) : Prop := ∃ cs fr, w.heap[k]? = some (.cells cs E fr)

theorem wpList_more2 {P : Program} {wi wr : World} {ops : Array Oper} {rest : List Oper} {o : Oper} {a : Act} {Q : Exit → Act → World → Prop}
    (hgd : o.guard = none) (s x : Operand) (t : TypeId) (hop : o.op = Op.call { callee := Callee.builtin Builtin.append, args := #[s, x], argTypes := #[t, t] })
    (E : TypeId) (i : TypeInfo) (z : Value) (bytes : Nat) (ht : P.underlying t = some (.slice E)) (hi : P.info? E = some i) (hz : i.zero = some z) (hsize : i.size = 1) (hby : i.bytes = bytes) (hzs : z.cells.size = 1)
    (p : Pc) (m : Value) (xs : List Value) (hG : Grown wi wr E p m xs) (hl : Lies wi E p) (hm : a.eval s = m)
    (kx ox c : Nat) (y : Value) (hx : a.eval x = .slice (some ⟨kx, ox, none⟩) 1 c) (hc : wr.cell? ⟨kx, ox, none⟩ = some y) (h1 : y.oneCell' = true) (b1 : xs.length + 1 ≤ maxLen) (b2 : (xs.length + 1) * bytes ≤ 140737488355328)
    (hK : ∀ m' w', Grown wi w' E p m' (xs ++ [y]) → Kept wr w' (OfType wr E) → wpList P ops Q rest (a.put o.dst m') w') : wpList P ops Q (o :: rest) a wr := by
  have hlen : (xs ++ [y]).length = xs.length + 1 := by simp
  have hnews : ∀ j u, [y][j]? = some u → wr.cell? ((⟨kx, ox, none⟩ : Addr).add j) = some u := by
    intro j u hj
    cases j with
    | zero => simp at hj; subst hj; rw [Addr.add_lit]; exact hc
    | succ j => simp at hj
  have hone : ∀ u ∈ [y], u.oneCell' = true := by intro u hu; simp at hu; subst hu; exact h1
  obtain ⟨hT, hn, hcase⟩ := hG
  have hl' := hl.turned hT
  rcases hcase with ⟨rfl, hle, hhas⟩ | hown
  · by_cases hroom : xs.length + 1 ≤ p.cap
    · obtain ⟨k, off, cs, ha, hr, hsz⟩ := hl'.at' (by omega)
      have hk0 : ∀ j u, xs[j]? = some u → wr.cell? ⟨k, off + j, none⟩ = some u := by
        intro j u hj
        obtain ⟨hj1, hj2⟩ := List.getElem?_eq_some_iff.1 hj
        rcases hhas.2 with h0 | ⟨k', off', e', h2⟩
        · rw [h0] at hj1; simp at hj1
        · have e2 : some (⟨k, off, none⟩ : Addr) = some ⟨k', off', none⟩ := ha.symm.trans e'
          simp at e2
          obtain ⟨rfl, rfl⟩ := e2
          rw [h2 j hj1, hj2]
      refine wpList_append_arg wr hgd s x t hop E i z 1 bytes ht hi hz hsize hby hzs (by decide) k off xs.length p.cap xs (by rw [hm]; unfold Pc.val; rw [ha]) (by simp) hk0 ⟨kx, ox, none⟩ 1 c [y] hx (by simp) hnews hone (fun _ j hj => ?_) b1 b2 (fun _ => ?_) (fun hcap => by omega)
      · have hj0 : j = 0 := by simp at hj; omega
        subst hj0
        refine ⟨?_, frozen_of_row wr k _ cs E hr⟩
        rw [cell_of_row wr k _ cs E (0, 0) hr]
        simp only [Nat.mul_one, Nat.add_zero]
        rw [Array.getElem?_eq_getElem (by omega)]
        rfl
      · have e1 : (Value.slice (some ⟨k, off, none⟩) (xs.length + 1) p.cap) = (⟨p.ao, (xs ++ [y]).length, p.cap⟩ : Pc).val := by unfold Pc.val; rw [hlen, ha]
        have e2 : wr.setCells k (off + xs.length * 1) [y] = wr.setCell ⟨k, off + xs.length, none⟩ y := by rw [Nat.mul_one]; rfl
        rw [e1, e2]
        refine hK _ _ ⟨hT.setCell y (fun _ => ⟨off, ha, by omega, by omega⟩), by omega, .inl ⟨rfl, by omega, has_more hhas ha hr (by omega)⟩⟩ ((Kept.refl wr _).setCell _ _ (fun _ => ⟨cs, _, hr⟩))
    · refine wpList_append_grows wr hgd s x t hop E i z 1 bytes ht hi hz hsize hby hzs (by decide) p.ao xs.length p.cap xs (by rw [hm]; rfl) (fun e => ?_) (by simp) (fun b hb j u hj => ?_) ⟨kx, ox, none⟩ 1 c [y] hx (by simp) hnews hone (by omega) b1 b2 (fun v' w' h1 h2 => ?_)
      · have := hl.nil e; omega
      · obtain ⟨hj1, hj2⟩ := List.getElem?_eq_some_iff.1 hj
        rcases hhas.2 with h0 | ⟨k', off', e', h2⟩
        · rw [h0] at hj1; simp at hj1
        · have e2 : some b = some ⟨k', off', none⟩ := hb.symm.trans e'
          simp at e2
          subst e2
          rw [Addr.add_lit, h2 j hj1, hj2]
      · refine hK _ _ ⟨hT.new (kept_grown h2 (fun k e => by simp at e)), by omega, .inr ?_⟩ ?_
        · rw [hlen]
          exact ownsRow_mono h1 hT.size
        · exact kept_grown h2 (fun k e => by simp at e)
  · refine wpList_append_own_at wr hgd s x t hop wi.heap.size E i z 1 bytes ht hi hz hsize hby hzs (by decide) m xs.length xs hm hown ⟨kx, ox, none⟩ 1 c [y] hx (by simp) hnews hone b1 b2 hT.size (fun v' w' h1 h2 _ _ => ?_)
    refine hK _ _ ⟨hT.own (B := wi.heap.size) (Nat.le_refl _) (kept_grown h2 (fun k e => ?_)), by omega, .inr ?_⟩ ?_
    · rcases hown.2 with ⟨rfl, _⟩ | ⟨g, cap, cur, rfl, hb, _⟩
      · simp [Value.ownBlock] at e
      · simp [Value.ownBlock] at e; omega
    · rw [hlen]; exact h1
    · refine kept_grown h2 (fun k e => ?_)
      rcases hown.2 with ⟨rfl, _⟩ | ⟨g, cap, cur, rfl, hb, hg, _⟩
      · simp [Value.ownBlock] at e
      · simp [Value.ownBlock] at e
        subst e
        exact ⟨cur, _, hg⟩

theorem wpList_more {P : Program} {wi wr : World} {ops : Array Oper} {rest : List Oper} {o : Oper} {a : Act} {Q : Exit → Act → World → Prop}
    (hgd : o.guard = none) (s x : Operand) (t : TypeId) (hop : o.op = Op.call { callee := Callee.builtin Builtin.append, args := #[s, x], argTypes := #[t, t] })
    (E : TypeId) (i : TypeInfo) (z : Value) (bytes : Nat) (ht : P.underlying t = some (.slice E)) (hi : P.info? E = some i) (hz : i.zero = some z) (hsize : i.size = 1) (hby : i.bytes = bytes) (hzs : z.cells.size = 1)
    (p : Pc) (m : Value) (xs : List Value) (hG : Grown wi wr E p m xs) (hl : Lies wi E p) (hm : a.eval s = m)
    (kx ox c : Nat) (y : Value) (hx : a.eval x = .slice (some ⟨kx, ox, none⟩) 1 c) (hc : wr.cell? ⟨kx, ox, none⟩ = some y) (h1 : y.oneCell' = true) (b1 : xs.length + 1 ≤ maxLen) (b2 : (xs.length + 1) * bytes ≤ 140737488355328)
    (hK : ∀ m' w', Grown wi w' E p m' (xs ++ [y]) → wpList P ops Q rest (a.put o.dst m') w') : wpList P ops Q (o :: rest) a wr :=
  wpList_more2 hgd s x t hop E i z bytes ht hi hz hsize hby hzs p m xs hG hl hm kx ox c y hx hc h1 b1 b2 (fun m' w' h _ => hK m' w' h)

end Go.Proofs.YtoeialngbbfoeaaGreatDoor

/- A list of lists that are grown one by one; no Go function is walked here. -/
namespace Go.Proofs.YtoeialngbbfoeaaGreatDoor
open Go.RowKit
set_option maxRecDepth 8000

/-- A list of lists: its row is of type T. -/
def SeesPcs (w : World) (T : TypeId) (v : Value) (ps : List Pc) : Prop :=
  ∃ ao cap, v = .slice ao ps.length cap ∧ ps.length ≤ cap ∧ cap ≤ maxLen ∧ (ps = [] ∨ ∃ b off, ao = some ⟨b, off, none⟩ ∧ (∃ cs fr, w.heap[b]? = some (.cells cs T fr)) ∧ ∀ i (h : i < ps.length), w.cell? ⟨b, off + i, none⟩ = some ps[i].val)

/-- No two of the lists have room in common. -/
def ApartPcs (ps : List Pc) : Prop := ∀ i j (hi : i < ps.length) (hj : j < ps.length), i ≠ j → ∀ k x, ps[i].foot k x → ¬ ps[j].foot k x

/-- The room of all of them; their spare room. -/
def feet (ps : List Pc) (k x : Nat) : Prop := ∃ p ∈ ps, p.foot k x
def spares (ps : List Pc) (k x : Nat) : Prop := ∃ p ∈ ps, p.spare k x

theorem SeesPcs.turned {w w' : World} {T E : TypeId} {v : Value} {ps qs : List Pc} {S : Nat → Nat → Prop} (h : SeesPcs w T v ps) (ht : Turned w w' S) (hS : ∀ k x, S k x → feet qs k x) (hl : ∀ p ∈ qs, Lies w E p) (hTE : T ≠ E) : SeesPcs w' T v ps := by
  obtain ⟨ao, cap, rfl, h1, h2, h3⟩ := h
  refine ⟨ao, cap, rfl, h1, h2, ?_⟩
  rcases h3 with h3 | ⟨b, off, rfl, ⟨cs, fr, hr⟩, h4⟩
  · exact .inl h3
  · obtain ⟨cs', k1, _, _⟩ := ht.row b cs T fr hr
    refine .inr ⟨b, off, rfl, ⟨cs', fr, k1⟩, fun i hi => ht.cell (h4 i hi) (fun hs => ?_)⟩
    obtain ⟨p, hp, hf⟩ := hS _ _ hs
    obtain ⟨_, cs2, hr2⟩ := (hl p hp).foot_lt hf
    rw [hr] at hr2
    simp at hr2
    exact hTE hr2.2.1

/-- Behind i rounds: the lists qs, grown by so many, lie in the list mv. -/
structure Built (w wr : World) (E T : TypeId) (ps : List Pc) (m M : Nat → Value) (more : Nat) (i : Nat) (mv : Value) (qs : List Pc) : Prop where
  le : i ≤ ps.length
  len : qs.length = i
  own : wr.ownsRow w.heap.size T 1 mv i (qs.map Pc.val)
  turned : Turned w wr (spares ps)
  has : ∀ j (hq : j < qs.length) (hp : j < ps.length), qs[j].Has wr (List.replicate ps[j].n (m j) ++ List.replicate more (M j))
  lies : ∀ j (hq : j < qs.length), Lies wr E qs[j]
  place : ∀ j (hq : j < qs.length) (hp : j < ps.length) k x, qs[j].foot k x → ps[j].foot k x ∨ w.heap.size ≤ k

theorem Built.start (w : World) (E T : TypeId) (ps : List Pc) (m M : Nat → Value) (more : Nat) : Built w w E T ps m M more 0 (.slice none 0 0) [] :=
  ⟨Nat.zero_le _, rfl, World.ownsRow_nil _ _ _ _, Turned.refl _ _, fun j hq => by simp at hq, fun j hq => by simp at hq, fun j hq => by simp at hq⟩

/-- What a grown list is in the end. -/
theorem Grown.pc {wi wr : World} {E : TypeId} {p : Pc} {v : Value} {xs : List Value} (h : Grown wi wr E p v xs) (hl : Lies wi E p) : ∃ q : Pc, v = q.val ∧ q.Has wr xs ∧ Lies wr E q ∧ ∀ k x, q.foot k x → p.foot k x ∨ wi.heap.size ≤ k := by
  obtain ⟨hT, hn, h | h⟩ := h
  · obtain ⟨rfl, hle, hhas⟩ := h
    have hl' := hl.turned hT
    exact ⟨⟨p.ao, xs.length, p.cap⟩, rfl, hhas, ⟨hle, hl'.most, hl'.nil, hl'.at'⟩, fun k x hf => .inl hf⟩
  · obtain ⟨q, h1, h2, h3, h4, h5⟩ := own_has h
    exact ⟨q, h1, h3, h4, fun k x hf => .inr (h5 k x hf)⟩

theorem ownsRow_same {w w' : World} {base : Nat} {T : TypeId} {v : Value} {n : Nat} {xs : List Value} (h : w.ownsRow base T 1 v n xs) (hk : ∀ g o, w.heap[g]? = some o → base ≤ g → v.ownBlock = some g → w'.heap[g]? = w.heap[g]?) : w'.ownsRow base T 1 v n xs := by
  refine ⟨h.1, ?_⟩
  rcases h.2 with h | ⟨g, cap, cur, e, h1, h2, h3⟩
  · exact .inl h
  · exact .inr ⟨g, cap, cur, e, h1, by rw [hk g _ h2 h1 (by rw [e]; rfl)]; exact h2, h3⟩

section
variable {w wr w1 w2 w3 : World} {E T : TypeId} {ps qs : List Pc} {m M : Nat → Value} {more i : Nat} {mv v mv' : Value}

/-- Lists that lay apart from what the i-th round turns. -/
theorem Built.mid (h : Built w wr E T ps m M more i mv qs) (hl : ∀ p ∈ ps, Lies w E p) (hap : ApartPcs ps) (hi : i < ps.length) (ht : Turned wr w1 ps[i].spare) :
    Built w w1 E T ps m M more i mv qs := by
  have hsp : ∀ k x, ps[i].spare k x → k < w.heap.size := fun k x hs => ((hl ps[i] (List.getElem_mem hi)).foot_lt (Pc.spare_foot hs)).1
  refine ⟨h.le, h.len, ownsRow_same h.own (fun g o hg hb _ => ?_), h.turned.trans ht (fun k x _ hs => ⟨ps[i], List.getElem_mem hi, hs⟩), fun j hq hp => ?_, fun j hq => (h.lies j hq).turned ht, h.place⟩
  · exact ht.same g (lt_of_block hg) (fun x hs => by have := hsp g x hs; omega)
  · refine (h.has j hq hp).turned ht (fun k x hf => .inr fun hs => ?_) (h.lies j hq).le
    rcases h.place j hq hp k x hf with hf' | hk
    · exact hap j i hp hi (by have := h.len; omega) k x hf' (Pc.spare_foot hs)
    · have := hsp k x hs; omega

/-- A list that lies apart from a row of another type. -/
theorem has_far {q : Pc} {xs : List Value} {g : Nat} {cs : Array Value} {fr : Nat × Nat} (h : q.Has w1 xs) (hl : Lies w1 E q) (hk : Kept w1 w2 (fun k => k = g)) (hr : g < w1.heap.size → w1.heap[g]? = some (.cells cs T fr)) (hTE : T ≠ E) : q.Has w2 xs ∧ Lies w2 E q := by
  have hne : ∀ k o, w1.heap[k]? = some o → (∃ cs, o = .cells cs E (0, 0)) → k ≠ g := by
    intro k o ho hE e
    subst e
    have := hr (lt_of_block ho)
    obtain ⟨cs', rfl⟩ := hE
    rw [this] at ho
    simp at ho
    exact hTE ho.2.1
  refine ⟨⟨h.1, ?_⟩, hl.le, hl.most, hl.nil, fun h0 => ?_⟩
  · rcases h.2 with h0 | ⟨k, off, h1, h2⟩
    · exact .inl h0
    · refine .inr ⟨k, off, h1, fun j hj => hk.cell (h2 j hj) (fun e => ?_)⟩
      have hlen := h.1
      have := hl.le
      obtain ⟨k', off', cs', e1, e2, _⟩ := hl.at' (by omega)
      rw [h1] at e1
      simp at e1
      obtain ⟨rfl, rfl⟩ := e1
      exact hne k _ e2 ⟨_, rfl⟩ e
  · obtain ⟨k, off, cs', e1, e2, e3⟩ := hl.at' h0
    exact ⟨k, off, cs', e1, hk.heap e2 (hne k _ e2 ⟨_, rfl⟩), e3⟩

theorem Built.kept (h : Built w wr E T ps m M more i mv qs) (hk : Kept wr w1 (fun _ => False)) : Built w w1 E T ps m M more i mv qs :=
  ⟨h.le, h.len, ownsRow_same h.own (fun g _ hg _ _ => hk.block g (lt_of_block hg) (fun h => h)), h.turned.new hk, fun j hq hp => (h.has j hq hp).kept hk, fun j hq => (h.lies j hq).turned (Turned.of_kept hk (fun _ _ => False)), h.place⟩

theorem Built.step (h : Built w w1 E T ps m M more i mv qs) (hTE : T ≠ E) (hi : i < ps.length) {q : Pc} (hq : q.Has w1 (List.replicate ps[i].n (m i) ++ List.replicate more (M i))) (hlq : Lies w1 E q) (hpl : ∀ k x, q.foot k x → ps[i].foot k x ∨ w.heap.size ≤ k)
    (hown : w2.ownsRow w.heap.size T 1 mv' (i + 1) (qs.map Pc.val ++ [q.val])) (hg : w1.grownBy w2 mv.ownBlock) : Built w w2 E T ps m M more (i + 1) mv' (qs ++ [q]) := by
  have hfar : ∀ (r : Pc) (xs : List Value), r.Has w1 xs → Lies w1 E r → r.Has w2 xs ∧ Lies w2 E r := by
    intro r xs h1 h2
    cases hmv : mv.ownBlock with
    | none =>
      have hk : Kept w1 w2 (fun _ => False) := kept_grown hg (fun k e => by rw [hmv] at e; simp at e)
      exact ⟨h1.kept hk, h2.turned (Turned.of_kept hk (fun _ _ => False))⟩
    | some g =>
      rcases h.own.2 with ⟨e, _⟩ | ⟨g', cap, cur, e, hb, hr, _⟩
      · rw [e] at hmv; simp [Value.ownBlock] at hmv
      · rw [e] at hmv
        simp [Value.ownBlock] at hmv
        subst hmv
        refine has_far (g := g') h1 h2 (kept_grown hg (fun k e' => ?_)) (fun _ => hr) hTE
        rw [e] at e'
        simp [Value.ownBlock] at e'
        exact e'.symm
  refine ⟨hi, by simp [h.len], by rw [List.map_append]; exact hown, ?_, fun j hj hp => ?_, fun j hj => ?_, fun j hj hp k x hf => ?_⟩
  · refine h.turned.own (B := w.heap.size) (Nat.le_refl _) (kept_grown hg (fun k e => ?_))
    rcases h.own.2 with ⟨e', _⟩ | ⟨g', cap, cur, e', hb, _⟩
    · rw [e'] at e; simp [Value.ownBlock] at e
    · rw [e'] at e; simp [Value.ownBlock] at e; omega
  · by_cases hj' : j < qs.length
    · rw [List.getElem_append_left hj']
      exact (hfar _ _ (h.has j hj' hp) (h.lies j hj')).1
    · have e : j = i := by rw [List.length_append] at hj; have := h.len; simp at hj; omega
      subst e
      rw [List.getElem_append_right (by omega)]
      simp only [h.len, Nat.sub_self, List.getElem_cons_zero]
      exact (hfar _ _ hq hlq).1
  · by_cases hj' : j < qs.length
    · rw [List.getElem_append_left hj']
      by_cases hp : j < ps.length
      · exact (hfar _ _ (h.has j hj' hp) (h.lies j hj')).2
      · have := h.len; have := h.le; omega
    · have e : j = i := by rw [List.length_append] at hj; have := h.len; simp at hj; omega
      subst e
      rw [List.getElem_append_right (by omega)]
      simp only [h.len, Nat.sub_self, List.getElem_cons_zero]
      exact (hfar _ _ hq hlq).2
  · by_cases hj' : j < qs.length
    · rw [List.getElem_append_left hj'] at hf
      exact h.place j hj' hp k x hf
    · have e : j = i := by rw [List.length_append] at hj; have := h.len; simp at hj; omega
      subst e
      rw [List.getElem_append_right (by omega)] at hf
      simp only [h.len, Nat.sub_self, List.getElem_cons_zero] at hf
      exact hpl k x hf

end
end Go.Proofs.YtoeialngbbfoeaaGreatDoor

/- Lists that lie in blocks of their own, one block behind the other: what holds of them. No Go function is walked here. -/
namespace Go.Proofs.YtoeialngbbfoeaaGreatDoor
open Go.RowKit
set_option maxRecDepth 8000
set_option linter.unusedVariables false
set_option linter.unusedSimpArgs false

theorem row_lo {w : World} {b b' : Nat} {T : TypeId} {z n : Nat} {v : Value} {xs : List Value} (h : w.ownsRow b T z v n xs) (hb : ∀ g, v.ownBlock = some g → b' ≤ g) : w.ownsRow b' T z v n xs := by
  obtain ⟨h1, h2 | ⟨g, cap, cur, rfl, a2, a3⟩⟩ := h
  · exact ⟨h1, .inl h2⟩
  · exact ⟨h1, .inr ⟨g, cap, cur, rfl, hb g rfl, a3⟩⟩

/-- Lists of one kind: each in a block of its own between lo and hi, one behind the other. -/
structure RowsIn (w : World) (lo hi : Nat) (T : TypeId) (z : Nat) (vs : List Value) : Prop where
  row : ∀ v ∈ vs, ∃ n xs, w.ownsRow lo T z v n xs ∧ n ≤ 1000000000 ∧ ∀ g, v.ownBlock = some g → g < hi
  up : vs.Pairwise fun a b => ∀ g h, a.ownBlock = some g → b.ownBlock = some h → g < h

section
variable {w w' : World} {lo mid hi lo' hi' : Nat} {T : TypeId} {z : Nat} {vs us : List Value}

theorem RowsIn.nil : RowsIn w lo hi T z [] := ⟨by simp, List.Pairwise.nil⟩
theorem RowsIn.one {v : Value} {n : Nat} {xs : List Value} (h : w.ownsRow lo T z v n xs) (hn : n ≤ 1000000000) (hh : ∀ g, v.ownBlock = some g → g < hi) : RowsIn w lo hi T z [v] :=
  ⟨fun u hu => by rw [List.mem_singleton] at hu; subst hu; exact ⟨n, xs, h, hn, hh⟩, List.pairwise_singleton _ _⟩
theorem RowsIn.blk (h : RowsIn w lo hi T z vs) {v : Value} (hv : v ∈ vs) {g : Nat} (hg : v.ownBlock = some g) : lo ≤ g ∧ g < hi ∧ g < w.heap.size ∧ ∃ cs, w.heap[g]? = some (.cells cs T (0, 0)) := by
  obtain ⟨n, xs, h1, _, h3⟩ := h.row v hv
  exact ⟨row_base h1 hg, h3 g hg, row_lt h1 hg, row_type h1 hg⟩
theorem RowsIn.mono (h : RowsIn w lo hi T z vs) (h1 : lo' ≤ lo) (h2 : hi ≤ hi') : RowsIn w lo' hi' T z vs :=
  ⟨fun v hv => by
    obtain ⟨n, xs, k1, k2, k3⟩ := h.row v hv
    exact ⟨n, xs, row_lo k1 (fun g hg => Nat.le_trans h1 (row_base k1 hg)), k2, fun g hg => Nat.lt_of_lt_of_le (k3 g hg) h2⟩, h.up⟩
theorem RowsIn.append (h : RowsIn w lo mid T z vs) (h' : RowsIn w mid hi T z us) (h1 : lo ≤ mid) (h2 : mid ≤ hi) : RowsIn w lo hi T z (vs ++ us) := by
  refine ⟨fun v hv => ?_, List.pairwise_append.2 ⟨h.up, h'.up, fun a ha b hb g k hg hk => ?_⟩⟩
  · rcases List.mem_append.1 hv with hv | hv
    · exact (h.mono (Nat.le_refl _) h2).row v hv
    · exact (h'.mono h1 (Nat.le_refl _)).row v hv
  · have e1 := (h.blk ha hg).2.1
    have e2 := (h'.blk hb hk).1
    omega
theorem RowsIn.take (h : RowsIn w lo hi T z vs) (k : Nat) : RowsIn w lo hi T z (vs.take k) :=
  ⟨fun v hv => h.row v (List.mem_of_mem_take hv), h.up.sublist (List.take_sublist _ _)⟩
theorem RowsIn.kept {S : Nat → Prop} (h : RowsIn w lo hi T z vs) (hk : Kept w w' S) (hS : ∀ k, lo ≤ k → k < hi → ¬ S k) : RowsIn w' lo hi T z vs :=
  ⟨fun v hv => by
    obtain ⟨n, xs, k1, k2, k3⟩ := h.row v hv
    exact ⟨n, xs, row_kept k1 hk (fun g hg => hS g (row_base k1 hg) (k3 g hg)), k2, k3⟩, h.up⟩
/-- Rows of another kind's blocks: they stand where blocks of the type E alone change. -/
theorem RowsIn.other {S : Nat → Prop} {E : TypeId} (h : RowsIn w lo hi T z vs) (hk : Kept w w' S) (hS : ∀ k, k < w.heap.size → S k → ∃ cs, w.heap[k]? = some (.cells cs E (0, 0))) (hTE : T ≠ E) : RowsIn w' lo hi T z vs :=
  ⟨fun v hv => by
    obtain ⟨n, xs, k1, k2, k3⟩ := h.row v hv
    refine ⟨n, xs, row_kept k1 hk (fun g hg e => ?_), k2, k3⟩
    obtain ⟨cs, e1⟩ := row_type k1 hg
    obtain ⟨cs', e2⟩ := hS g (row_lt k1 hg) e
    rw [e1] at e2
    simp at e2
    exact hTE e2.2, h.up⟩

/-- A list as a row and its length. -/
def rwQ : Value → Rw
  | .slice a n c => ⟨.slice a n c, n⟩
  | v => ⟨v, 0⟩
theorem rwQ_v (v : Value) : (rwQ v).v = v := by cases v <;> rfl
theorem rwQ_n {v : Value} {b n : Nat} {xs : List Value} (h : w.ownsRow b T z v n xs) : (rwQ v).n = n := by
  rcases h.2 with ⟨rfl, h0⟩ | ⟨g, c, cur, rfl, _⟩
  · exact h0.symm
  · rfl

theorem RowsIn.rows (h : RowsIn w lo hi T z vs) : ∃ Xs, RowsR w T z (vs.map rwQ) Xs := by
  have : ∀ j, ∃ xs, ∀ (hj : j < (vs.map rwQ).length), w.ownsRow 0 T z ((vs.map rwQ)[j]).v ((vs.map rwQ)[j]).n xs := fun j => by
    by_cases hj : j < vs.length
    · obtain ⟨n, xs, k1, _, _⟩ := h.row vs[j] (List.getElem_mem hj)
      refine ⟨xs, fun _ => ?_⟩
      rw [List.getElem_map, rwQ_v, rwQ_n k1]
      exact row_lo k1 (fun _ _ => Nat.zero_le _)
    · exact ⟨[], fun hj' => absurd (by simpa using hj') hj⟩
  exact ⟨fun j => (this j).choose, fun j hj => (this j).choose_spec hj⟩
theorem RowsIn.short (h : RowsIn w lo hi T z vs) : ∀ j (hj : j < (vs.map rwQ).length), ((vs.map rwQ)[j]).n ≤ 1100000000 := fun j hj => by
  have hj' : j < vs.length := by simpa using hj
  obtain ⟨n, xs, k1, k2, _⟩ := h.row vs[j] (List.getElem_mem hj')
  rw [List.getElem_map, rwQ_n k1]
  omega
theorem RowsIn.apart (h : RowsIn w lo hi T z vs) : ApartR (vs.map rwQ) := by
  have key : ∀ i j (hi : i < vs.length) (hj : j < vs.length), i < j → ∀ g k, vs[i].ownBlock = some g → vs[j].ownBlock = some k → g < k := fun i j hi hj hij => (List.pairwise_iff_getElem.1 h.up) i j hi hj hij
  intro i j hi hj hij g hg hg'
  rw [List.length_map] at hi hj
  rw [List.getElem_map, rwQ_v] at hg hg'
  rcases Nat.lt_or_gt_of_ne hij with e | e
  · have := key i j hi hj e g g hg hg'; omega
  · have := key j i hj hi e g g hg' hg; omega
theorem RowsIn.blkR (h : RowsIn w lo hi T z vs) {k : Nat} (hk : BlkR (vs.map rwQ) k) : lo ≤ k ∧ k < hi ∧ k < w.heap.size ∧ ∃ cs, w.heap[k]? = some (.cells cs T (0, 0)) := by
  obtain ⟨j, hj, e⟩ := hk
  rw [List.length_map] at hj
  rw [List.getElem_map, rwQ_v] at e
  exact h.blk (List.getElem_mem hj) e
/-- The same lists, with other elements. -/
theorem RowsIn.again (h : RowsIn w lo hi T z vs) {Xs : Nat → List Value} (hr : RowsR w' T z (vs.map rwQ) Xs) : RowsIn w' lo hi T z vs :=
  ⟨fun v hv => by
    obtain ⟨n, xs, k1, k2, k3⟩ := h.row v hv
    obtain ⟨j, hj, rfl⟩ := List.getElem_of_mem hv
    have := hr j (by simpa using hj)
    rw [List.getElem_map, rwQ_v, rwQ_n k1] at this
    exact ⟨n, _, row_lo this (fun g hg => row_base k1 hg), k2, k3⟩, h.up⟩
end

/-- Lists of bytes as pieces. -/
def pcQ : Value → Pc
  | .slice a n c => ⟨a, n, c⟩
  | _ => ⟨none, 0, 0⟩
section
variable {w w' : World} {lo hi : Nat} {vs : List Value}
theorem pcQ_val {v : Value} {T : TypeId} {z b n : Nat} {xs : List Value} (h : w.ownsRow b T z v n xs) : (pcQ v).val = v ∧ (pcQ v).n = n := by
  rcases h.2 with ⟨rfl, h0⟩ | ⟨g, c, cur, rfl, _⟩
  · exact ⟨rfl, h0.symm⟩
  · exact ⟨rfl, rfl⟩
theorem pcQ_map {T : TypeId} {z : Nat} (h : RowsIn w lo hi T z vs) : (vs.map pcQ).map Pc.val = vs := by
  rw [List.map_map]
  conv => rhs; rw [← List.map_id vs]
  refine List.map_congr_left (fun v hv => ?_)
  obtain ⟨n, xs, k1, _⟩ := h.row v hv
  exact (pcQ_val k1).1
theorem pcQ_foot {v : Value} {k x : Nat} (h : (pcQ v).foot k x) : v.ownBlock = some k := by
  obtain ⟨off, e, _⟩ := h
  cases v <;> simp only [pcQ, reduceCtorEq] at e
  subst e
  rfl
theorem RowsIn.lies (h : RowsIn w lo hi 5 1 vs) : ∀ q ∈ vs.map pcQ, Lies w 5 q := fun q hq => by
  obtain ⟨v, hv, rfl⟩ := List.mem_map.1 hq
  obtain ⟨n, xs, ⟨h1, ⟨rfl, h0⟩ | ⟨g, cap, cur, rfl, a2, a3, a4, a5, a6, a7⟩⟩, _⟩ := h.row v hv
  · exact ⟨Nat.le_refl _, Nat.zero_le _, fun _ => rfl, fun h => absurd h (by simp [pcQ])⟩
  · exact ⟨a4, a5, fun h => by simp [pcQ] at h, fun _ => ⟨g, 0, cur, rfl, a3, by show 0 + cap ≤ _; omega⟩⟩
theorem RowsIn.pcsApart (h : RowsIn w lo hi 5 1 vs) : ApartPcs (vs.map pcQ) := by
  have key : ∀ i j (hi : i < vs.length) (hj : j < vs.length), i < j → ∀ g k, vs[i].ownBlock = some g → vs[j].ownBlock = some k → g < k := fun i j hi hj hij => (List.pairwise_iff_getElem.1 h.up) i j hi hj hij
  intro i j hi hj hij k x hf hf'
  rw [List.length_map] at hi hj
  rw [List.getElem_map] at hf hf'
  rcases Nat.lt_or_gt_of_ne hij with e | e
  · have := key i j hi hj e k k (pcQ_foot hf) (pcQ_foot hf'); omega
  · have := key j i hj hi e k k (pcQ_foot hf') (pcQ_foot hf); omega
theorem RowsIn.pcsShort (h : RowsIn w lo hi 5 1 vs) : ∀ q ∈ vs.map pcQ, q.n ≤ 70000000000000 := fun q hq => by
  obtain ⟨v, hv, rfl⟩ := List.mem_map.1 hq
  obtain ⟨n, xs, k1, k2, _⟩ := h.row v hv
  rw [(pcQ_val k1).2]
  omega
theorem RowsIn.feet (h : RowsIn w lo hi 5 1 vs) {k x : Nat} (hf : feet (vs.map pcQ) k x) : lo ≤ k ∧ k < hi ∧ k < w.heap.size ∧ ∃ cs, w.heap[k]? = some (.cells cs 5 (0, 0)) := by
  obtain ⟨q, hq, hf⟩ := hf
  obtain ⟨v, hv, rfl⟩ := List.mem_map.1 hq
  exact h.blk hv (pcQ_foot hf)
theorem turned_keptQ {ps : List Pc} (h : Turned w w' (Go.Proofs.YtoeialngbbfoeaaGreatDoor.feet ps)) : Kept w w' (fun k => ∃ x, Go.Proofs.YtoeialngbbfoeaaGreatDoor.feet ps k x) :=
  ⟨h.os, h.tape, h.output, h.size, fun k hk hn => h.same k hk (fun i hi => hn ⟨i, hi⟩)⟩
/-- Lists of bytes that were turned are the same lists with other bytes. -/
theorem RowsIn.turned (h : RowsIn w lo hi 5 1 vs) {S : Nat → Nat → Prop} (ht : Turned w w' S) : RowsIn w' lo hi 5 1 vs :=
  ⟨fun v hv => by
    obtain ⟨n, xs, ⟨h1, ⟨rfl, h0⟩ | ⟨g, cap, cur, rfl, a2, a3, a4, a5, a6, a7⟩⟩, k2, k3⟩ := h.row v hv
    · exact ⟨n, xs, ⟨h1, .inl ⟨rfl, h0⟩⟩, k2, k3⟩
    · obtain ⟨cs', r1, r2, _⟩ := ht.row g cur 5 (0, 0) a3
      refine ⟨n, cs'.toList.take (n * 1), ⟨?_, .inr ⟨g, cap, cs', rfl, a2, r1, a4, a5, by omega, rfl⟩⟩, k2, k3⟩
      rw [List.length_take, Array.length_toList]
      omega, h.up⟩
end
end Go.Proofs.YtoeialngbbfoeaaGreatDoor
