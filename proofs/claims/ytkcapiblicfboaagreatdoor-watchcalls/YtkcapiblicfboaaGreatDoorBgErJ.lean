/- A list that grows mark by mark, its old row left as it was: what holds of it. -/
import Derived.Test.YtkcapiblicfboaaGreatDoorBgAJ
import Derived.Test.YtkcapiblicfboaaGreatDoorProg
import Derived.Lib.SlFresh
import Derived.Deep.RegionHeld
namespace Go.Proofs.YtkcapiblicfboaaGreatDoor
open Go.RowKit
set_option maxRecDepth 8000

/-- Each of n elements of z cells has this mark in its cell q. -/
def Mk (z q n : Nat) (s : Value) (xs : List Value) : Prop := ∀ k, k < n → xs[k * z + q]? = some s

theorem Mk.left {z q n : Nat} {s : Value} {xs ys : List Value} (h : Mk z q n s xs) (hl : xs.length = n * z) (hq : q < z) : Mk z q n s (xs ++ ys) := fun k hk => by
  have : k * z + q < xs.length := by
    rw [hl]
    have := Nat.mul_le_mul_right z (show k + 1 ≤ n from hk)
    rw [Nat.add_mul, Nat.one_mul] at this
    omega
  rw [List.getElem?_append_left this]
  exact h k hk

theorem Mk.right {z q n m : Nat} {s : Value} {xs ys : List Value} (h : Mk z q m s ys) (hl : xs.length = n * z) {k : Nat} (h1 : n ≤ k) (h2 : k < n + m) : (xs ++ ys)[k * z + q]? = some s := by
  obtain ⟨j, rfl⟩ : ∃ j, k = n + j := ⟨k - n, by omega⟩
  rw [List.getElem?_append_right (by rw [hl, Nat.add_mul]; omega), hl, show (n + j) * z + q - n * z = j * z + q by rw [Nat.add_mul]; omega]
  exact h j (by omega)

theorem Mk.snoc {z q t : Nat} {s : Value} {ys news : List Value} (h : Mk z q t s ys) (hl : ys.length = t * z) (hq : q < z) (hs : news[q]? = some s) : Mk z q (t + 1) s (ys ++ news) := fun k hk => by
  by_cases hkt : k < t
  · exact h.left hl hq k hkt
  · obtain rfl : k = t := by omega
    rw [List.getElem?_append_right (by omega), hl, show k * z + q - k * z = q by omega]
    exact hs

theorem row_kept {w w' : World} {S : Nat → Prop} {base : Nat} {T : TypeId} {z n : Nat} {v : Value} {xs : List Value} (h : w.ownsRow base T z v n xs) (hk : Kept w w' S) (hn : ∀ g, v.ownBlock = some g → ¬ S g) : w'.ownsRow base T z v n xs := by
  obtain ⟨h1, h2 | ⟨g, cap, cur, rfl, a2, a3, a4⟩⟩ := h
  · exact ⟨h1, .inl h2⟩
  · refine ⟨h1, .inr ⟨g, cap, cur, rfl, a2, ?_, a4⟩⟩
    rw [hk.block g (lt_of_block a3) (hn g rfl)]
    exact a3

theorem row_lt {w : World} {base : Nat} {T : TypeId} {z n : Nat} {v : Value} {xs : List Value} (h : w.ownsRow base T z v n xs) {g : Nat} (hg : v.ownBlock = some g) : g < w.heap.size := by
  obtain ⟨_, ⟨rfl, _⟩ | ⟨g', cap, cur, rfl, _, a3, _⟩⟩ := h
  · cases hg
  · simp [Value.ownBlock] at hg
    subst hg
    exact lt_of_block a3

/-- A list on its way: t marks behind what it had. -/
structure Gw (wi wx : World) (T : TypeId) (z q : Nat) (v : Value) (n : Nat) (xs : List Value) (s : Value) (t : Nat) (m : Value) : Prop where
  ys : ∃ ys, wx.ownsRow 0 T z m (n + t) (xs ++ ys) ∧ ys.length = t * z ∧ Mk z q t s ys
  old : wx.ownsRow 0 T z v n xs
  kept : Kept wi wx (fun k => v.ownBlock = some k)
  lies : (t = 0 ∧ m = v) ∨ (∃ g cap, v = .slice (some ⟨g, 0, none⟩) n cap ∧ m = .slice (some ⟨g, 0, none⟩) (n + t) cap) ∨ ∃ g, m.ownBlock = some g ∧ wi.heap.size ≤ g

theorem Gw.start {w : World} {T : TypeId} {z q n : Nat} {v : Value} {xs : List Value} (s : Value) (h : w.ownsRow 0 T z v n xs) : Gw w w T z q v n xs s 0 v :=
  ⟨⟨[], by rw [List.append_nil]; exact h, by simp, fun k hk => by omega⟩, h, Kept.refl _ _, .inl ⟨rfl, rfl⟩⟩

theorem Gw.next {wi wx w1 : World} {T : TypeId} {z q n t : Nat} {v m s : Value} {xs : List Value} (h : Gw wi wx T z q v n xs s t m) (hk : Kept wx w1 (fun _ => False)) : Gw wi w1 T z q v n xs s t m := by
  obtain ⟨⟨ys, h1, h2, h3⟩, h4, h5, h6⟩ := h
  exact ⟨⟨ys, row_kept h1 hk (fun _ _ h => h), h2, h3⟩, row_kept h4 hk (fun _ _ h => h), h5.trans hk (fun _ _ h => h.elim), h6⟩

theorem Gw.more {wi w1 w' : World} {T : TypeId} {z q n t : Nat} {v m m' s : Value} {xs news : List Value} (h : Gw wi w1 T z q v n xs s t m) (hv : ∀ g, v.ownBlock = some g → g < wi.heap.size) (hxl : xs.length = n * z) (hn : news.length = z) (hq : q < z) (hs : news[q]? = some s)
    (ho : ∀ ys, w1.ownsRow 0 T z m (n + t) (xs ++ ys) → w'.ownsRow 0 T z m' (n + t + 1) (xs ++ ys ++ news)) (hg : w1.grownBy w' m.ownBlock)
    (hc : (∃ g cap, m = .slice (some ⟨g, 0, none⟩) (n + t) cap ∧ m' = .slice (some ⟨g, 0, none⟩) (n + t + 1) cap) ∨ (m'.ownBlock = some w1.heap.size ∧ w1.grownBy w' none)) : Gw wi w' T z q v n xs s (t + 1) m' := by
  obtain ⟨⟨ys, h1, h2, h3⟩, h4, h5, h6⟩ := h
  have hrow : w'.ownsRow 0 T z m' (n + (t + 1)) (xs ++ (ys ++ news)) := by
    have := ho ys h1
    rw [List.append_assoc] at this
    exact this
  have hys : ∃ ys, w'.ownsRow 0 T z m' (n + (t + 1)) (xs ++ ys) ∧ ys.length = (t + 1) * z ∧ Mk z q (t + 1) s ys :=
    ⟨ys ++ news, hrow, by rw [List.length_append, h2, hn, Nat.add_mul, Nat.one_mul], h3.snoc h2 hq hs⟩
  rcases hc with ⟨g, cap, rfl, rfl⟩ | ⟨hnew, hg0⟩
  · have hblk : (Value.slice (some ⟨g, 0, none⟩) (n + t) cap).ownBlock = some g := rfl
    by_cases hvg : v.ownBlock = some g
    · have hsame : ∃ g' cap', v = .slice (some ⟨g', 0, none⟩) n cap' ∧ Value.slice (some ⟨g, 0, none⟩) (n + t) cap = .slice (some ⟨g', 0, none⟩) (n + t) cap' := by
        rcases h6 with ⟨rfl, e⟩ | h6 | ⟨g2, e2, hlt⟩
        · exact ⟨g, cap, by rw [← e, Nat.add_zero], rfl⟩
        · exact h6
        · rw [hblk] at e2
          cases e2
          have := hv g hvg
          omega
      obtain ⟨g', cap', rfl, e⟩ := hsame
      simp only [Value.slice.injEq, Option.some.injEq, Addr.mk.injEq, and_true, true_and] at e
      obtain ⟨rfl, rfl⟩ := e
      refine ⟨hys, row_front hrow hxl, h5.trans ⟨hg.os, hg.tape, hg.output, hg.size, fun k hk hne => hg.block k hk (fun e => hne e.symm)⟩ (fun _ _ h => h), .inr (.inl ⟨g, cap, rfl, rfl⟩)⟩
    · have hge : wi.heap.size ≤ g := by
        rcases h6 with ⟨rfl, e⟩ | ⟨g2, c2, rfl, e⟩ | ⟨g2, e2, hlt⟩
        · rw [← e] at hvg; exact absurd hblk hvg
        · cases e; exact absurd rfl hvg
        · rw [hblk] at e2; cases e2; exact hlt
      refine ⟨hys, row_other h4 hg (fun g3 h3 e3 => hvg (by rw [h3, ← e3, hblk])), h5.trans ⟨hg.os, hg.tape, hg.output, hg.size, fun k hk hne => hg.block k hk (fun e => hne e.symm)⟩ (fun k hk e => ?_), .inr (.inr ⟨g, rfl, hge⟩)⟩
      exfalso
      cases e
      have hk2 : g < wi.heap.size := hk
      omega
  · refine ⟨hys, row_other h4 hg0 (fun _ _ e => by cases e), h5.trans ⟨hg0.os, hg0.tape, hg0.output, hg0.size, fun k hk _ => hg0.block k hk (fun e => by cases e)⟩ (fun _ _ h => h), .inr (.inr ⟨_, hnew, h5.size⟩)⟩

end Go.Proofs.YtkcapiblicfboaaGreatDoor

/- Lists that lie apart, each grown by marks of its own, gathered: what holds of them. -/
namespace Go.Proofs.YtkcapiblicfboaaGreatDoor
open Go.RowKit
set_option maxRecDepth 8000

/-- A list: its value and its length. -/
structure Rw where
  v : Value
  n : Nat

/-- No two lists lie in one block. -/
def ApartR (rs : List Rw) : Prop := ∀ i j (hi : i < rs.length) (hj : j < rs.length), i ≠ j → ∀ g, rs[i].v.ownBlock = some g → rs[j].v.ownBlock ≠ some g

/-- All lists stand. -/
def RowsR (w : World) (T : TypeId) (z : Nat) (rs : List Rw) (Xs : Nat → List Value) : Prop := ∀ j (hj : j < rs.length), w.ownsRow 0 T z rs[j].v rs[j].n (Xs j)

/-- The first i lists are grown and gathered. -/
structure Bd (w wr : World) (T T1 : TypeId) (z q : Nat) (rs : List Rw) (Xs : Nat → List Value) (s : Nat → Value) (c i : Nat) (mv : Value) (ms : List Value) : Prop where
  len : ms.length = i
  more : wr.ownsRow w.heap.size T1 1 mv i ms
  rows : RowsR wr T z rs Xs
  news : ∀ j (hj : j < rs.length) (hm : j < ms.length), ∃ ys, wr.ownsRow 0 T z ms[j] (rs[j].n + c) (Xs j ++ ys) ∧ Mk z q c (s j) ys
  far : ∀ j (hj : j < rs.length) (hm : j < ms.length) g, ms[j].ownBlock = some g → rs[j].v.ownBlock = some g ∨ w.heap.size ≤ g
  kept : Kept w wr (fun k => ∃ j, ∃ hj : j < rs.length, rs[j].v.ownBlock = some k)

theorem Bd.start {w : World} {T T1 : TypeId} {z q c : Nat} {rs : List Rw} {Xs : Nat → List Value} {s : Nat → Value} (h : RowsR w T z rs Xs) : Bd w w T T1 z q rs Xs s c 0 (.slice none 0 0) [] :=
  ⟨rfl, World.ownsRow_nil _ _ _ _, h, fun j _ hm => by simp at hm, fun j _ hm => by simp at hm, Kept.refl _ _⟩

theorem row_type {w : World} {base : Nat} {T : TypeId} {z n : Nat} {v : Value} {xs : List Value} (h : w.ownsRow base T z v n xs) {g : Nat} (hg : v.ownBlock = some g) : ∃ cs, w.heap[g]? = some (.cells cs T (0, 0)) := by
  obtain ⟨_, ⟨rfl, _⟩ | ⟨g', cap, cur, rfl, _, a3, _⟩⟩ := h
  · cases hg
  · simp [Value.ownBlock] at hg
    subst hg
    exact ⟨cur, a3⟩

theorem type_ne {w : World} {b b' : Nat} {T T' : TypeId} {z z' n n' : Nat} {v v' : Value} {xs xs' : List Value} (hT : T ≠ T') (h : w.ownsRow b T z v n xs) (h' : w.ownsRow b' T' z' v' n' xs') : ∀ g, v.ownBlock = some g → v'.ownBlock ≠ some g := by
  intro g hg hg'
  obtain ⟨cs, e⟩ := row_type h hg
  obtain ⟨cs', e'⟩ := row_type h' hg'
  rw [e] at e'
  simp at e'
  exact hT e'.2

theorem row_base {w : World} {base : Nat} {T : TypeId} {z n : Nat} {v : Value} {xs : List Value} (h : w.ownsRow base T z v n xs) {g : Nat} (hg : v.ownBlock = some g) : base ≤ g := by
  obtain ⟨_, ⟨rfl, _⟩ | ⟨g', cap, cur, rfl, a2, _⟩⟩ := h
  · cases hg
  · simp [Value.ownBlock] at hg
    subst hg
    exact a2

/-- Nothing but new memory: all stands. -/
theorem Bd.next {w wr w1 : World} {T T1 : TypeId} {z q c i : Nat} {rs : List Rw} {Xs : Nat → List Value} {s : Nat → Value} {mv : Value} {ms : List Value} (h : Bd w wr T T1 z q rs Xs s c i mv ms) (hk : Kept wr w1 (fun _ => False)) : Bd w w1 T T1 z q rs Xs s c i mv ms :=
  ⟨h.len, row_kept h.more hk (fun _ _ h => h), fun j hj => row_kept (h.rows j hj) hk (fun _ _ h => h), fun j hj hm => by
    obtain ⟨ys, h1, h2⟩ := h.news j hj hm
    exact ⟨ys, row_kept h1 hk (fun _ _ h => h), h2⟩, h.far, h.kept.trans hk (fun _ _ h => h.elim)⟩

theorem Bd.step {w wr wx w' : World} {T T1 : TypeId} {z q c i : Nat} {rs : List Rw} {Xs : Nat → List Value} {s : Nat → Value} {mv mv' m : Value} {ms : List Value} (h : Bd w wr T T1 z q rs Xs s c i mv ms) (hT : T ≠ T1) (h0 : RowsR w T z rs Xs) (hap : ApartR rs) (hi : i < rs.length)
    (hg : Gw wr wx T z q rs[i].v rs[i].n (Xs i) (s i) c m) (ho : w'.ownsRow w.heap.size T1 1 mv' (i + 1) (ms ++ [m])) (hgr : wx.grownBy w' mv.ownBlock) : Bd w w' T T1 z q rs Xs s c (i + 1) mv' (ms ++ [m]) := by
  obtain ⟨⟨ys, g1, _, g3⟩, g4, g5, g6⟩ := hg
  have hold : ∀ g, rs[i].v.ownBlock = some g → g < w.heap.size := fun g hg => row_lt (h0 i hi) hg
  have hmvx : wx.ownsRow w.heap.size T1 1 mv i ms := row_kept h.more g5 (fun g hg e => by have := hold g e; have := row_base h.more hg; omega)
  have hrow : ∀ {n : Nat} {v : Value} {xs : List Value}, wx.ownsRow 0 T z v n xs → w'.ownsRow 0 T z v n xs := fun hr => row_other hr hgr (fun g hg e => type_ne hT hr hmvx g hg e)
  have hrows : RowsR wx T z rs Xs := fun j hj => by
    by_cases hji : j = i
    · subst hji; exact g4
    · exact row_kept (h.rows j hj) g5 (fun g hg e => hap j i hj hi hji g hg e)
  have hlt : ms.length = i := h.len
  refine ⟨by simp [hlt], ho, fun j hj => hrow (hrows j hj), fun j hj hm => ?_, fun j hj hm g hb => ?_, ?_⟩
  · by_cases hji : j < ms.length
    · rw [List.getElem_append_left hji]
      obtain ⟨zs, z1, z2⟩ := h.news j hj hji
      refine ⟨zs, hrow (row_kept z1 g5 (fun g hg e => ?_)), z2⟩
      rcases h.far j hj hji g hg with e2 | e2
      · exact hap j i hj hi (by omega) g e2 e
      · have := hold g e; omega
    · obtain rfl : j = i := by simp at hm; omega
      have e : (ms ++ [m])[j] = m := by rw [List.getElem_append_right (by omega)]; simp [hlt]
      rw [e]
      exact ⟨ys, hrow g1, g3⟩
  · by_cases hji : j < ms.length
    · rw [List.getElem_append_left hji] at hb
      exact h.far j hj hji g hb
    · obtain rfl : j = i := by simp at hm; omega
      have e : (ms ++ [m])[j] = m := by rw [List.getElem_append_right (by omega)]; simp [hlt]
      rw [e] at hb
      rcases g6 with ⟨_, e2⟩ | ⟨g2, cap, e2, e3⟩ | ⟨g2, e2, hle⟩
      · left; rw [← e2]; exact hb
      · left
        rw [e3] at hb
        rw [e2]
        exact hb
      · right
        rw [e2] at hb
        cases hb
        exact Nat.le_trans h.kept.size hle
  · refine (h.kept.trans g5 (fun k _ e => ⟨i, hi, e⟩)).trans ⟨hgr.os, hgr.tape, hgr.output, hgr.size, fun k hk hne => hgr.block k hk (fun e => hne e.symm)⟩ (fun k hk e => ?_)
    have := row_base h.more e
    omega

end Go.Proofs.YtkcapiblicfboaaGreatDoor

/- Lists that lie apart, filled with marks element by element: what holds of them. -/
namespace Go.Proofs.YtkcapiblicfboaaGreatDoor
open Go.RowKit
set_option maxRecDepth 8000

/-- The blocks of these lists. -/
def BlkR (rs : List Rw) (k : Nat) : Prop := ∃ j, ∃ hj : j < rs.length, rs[j].v.ownBlock = some k

/-- The first i lists are filled, of the next one the first t. -/
def Fd (w wr : World) (T : TypeId) (z q : Nat) (rs : List Rw) (s : Nat → Value) (i t : Nat) (Xs : Nat → List Value) : Prop :=
  RowsR wr T z rs Xs ∧ (∀ j (hj : j < rs.length), j < i → Mk z q rs[j].n (s j) (Xs j)) ∧ Mk z q t (s i) (Xs i) ∧ Kept w wr (BlkR rs)

theorem Fd.start {w : World} {T : TypeId} {z q : Nat} {rs : List Rw} {s : Nat → Value} {Xs : Nat → List Value} (h : RowsR w T z rs Xs) : Fd w w T z q rs s 0 0 Xs :=
  ⟨h, fun j _ hj => by omega, fun k hk => by omega, Kept.refl _ _⟩

theorem Fd.next {w wr w1 : World} {T : TypeId} {z q i t : Nat} {rs : List Rw} {s : Nat → Value} {Xs : Nat → List Value} (h : Fd w wr T z q rs s i t Xs) (hk : Kept wr w1 (fun _ => False)) : Fd w w1 T z q rs s i t Xs :=
  ⟨fun j hj => row_kept (h.1 j hj) hk (fun _ _ h => h), h.2.1, h.2.2.1, h.2.2.2.trans hk (fun _ _ h => h.elim)⟩

theorem Fd.turn {w wr : World} {T : TypeId} {z q i t : Nat} {rs : List Rw} {s : Nat → Value} {Xs : Nat → List Value} (h : Fd w wr T z q rs s i t Xs) (hi : i < rs.length) (ht : rs[i].n ≤ t) : Fd w wr T z q rs s (i + 1) 0 Xs := by
  refine ⟨h.1, fun j hj hji => ?_, fun k hk => by omega, h.2.2.2⟩
  by_cases hj2 : j < i
  · exact h.2.1 j hj hj2
  · obtain rfl : j = i := by omega
    exact fun k hk => h.2.2.1 k (by omega)

/-- The sets that store one element change no other element's mark. -/
theorem Mk.set {z q n k : Nat} {s u : Value} {xs : List Value} (h : Mk z q n s xs) (hk : ∀ j, j < n → k ≠ j * z + q) : Mk z q n s (xs.set k u) := fun j hj => by
  rw [List.getElem?_set_ne (hk j hj)]
  exact h j hj

theorem Fd.store {w wr w' : World} {T : TypeId} {z q i t g : Nat} {rs : List Rw} {s : Nat → Value} {Xs : Nat → List Value} {xs' : List Value} (h : Fd w wr T z q rs s i t Xs) (hap : ApartR rs) (hi : i < rs.length) (hb : rs[i].v.ownBlock = some g) (ho : w'.ownsRow 0 T z rs[i].v rs[i].n xs') (hg : wr.grownBy w' (some g)) (hm : Mk z q (t + 1) (s i) xs') :
    Fd w w' T z q rs s i (t + 1) (fun j => if j = i then xs' else Xs j) := by
  refine ⟨fun j hj => ?_, fun j hj hji => ?_, ?_, ?_⟩
  · by_cases hji : j = i
    · subst hji
      simp only [if_pos]
      exact ho
    · simp only [if_neg hji]
      exact row_other (h.1 j hj) hg (fun g2 h2 e => by cases e; exact hap j i hj hi hji g h2 hb)
  · simp only [if_neg (show j ≠ i by omega)]
    exact h.2.1 j hj hji
  · simp only [if_pos]
    exact hm
  · exact h.2.2.2.trans ⟨hg.os, hg.tape, hg.output, hg.size, fun k hk hne => hg.block k hk (fun e => hne (by cases e; exact ⟨i, hi, hb⟩))⟩ (fun _ _ h => h)

/-- A list of lists in memory, in a block of its own kind. -/
def SeesL (w : World) (T1 : TypeId) (lv : Value) (rs : List Rw) : Prop := ∃ ao cap, lv = .slice ao rs.length cap ∧ rs.length ≤ cap ∧ (rs ≠ [] → ∃ b off, ao = some ⟨b, off, none⟩ ∧ (∃ cs fr, w.heap[b]? = some (.cells cs T1 fr)) ∧ ∀ j (hj : j < rs.length), w.cell? ⟨b, off + j, none⟩ = some rs[j].v)

theorem SeesL.kept {w w' : World} {T T1 : TypeId} {z : Nat} {lv : Value} {rs : List Rw} {Xs : Nat → List Value} (h : SeesL w T1 lv rs) (hr : RowsR w T z rs Xs) (hT : T ≠ T1) (hk : Kept w w' (BlkR rs)) : SeesL w' T1 lv rs := by
  obtain ⟨ao, cap, h1, h2, h3⟩ := h
  refine ⟨ao, cap, h1, h2, fun hn => ?_⟩
  obtain ⟨b, off, h4, ⟨cs, fr, h5⟩, h6⟩ := h3 hn
  have hnb : ¬ BlkR rs b := by
    rintro ⟨j, hj, e⟩
    obtain ⟨cs', e'⟩ := row_type (hr j hj) e
    rw [h5] at e'
    simp at e'
    exact hT e'.2.1.symm
  have hb : w'.heap[b]? = w.heap[b]? := hk.block b (lt_of_block h5) hnb
  refine ⟨b, off, h4, ⟨cs, fr, by rw [hb]; exact h5⟩, fun j hj => ?_⟩
  have := h6 j hj
  unfold World.cell? at this ⊢
  rw [hb]
  exact this

end Go.Proofs.YtkcapiblicfboaaGreatDoor

/- Rows of memory and their forms: what grownX and apartX of lagoonref00 share. -/
namespace Go.Proofs.YtkcapiblicfboaaGreatDoor
open Go.RowKit Go.Shelf
set_option maxRecDepth 8000

theorem info3B {T : TypeId} {z : Value} {s b : Nat} (h : (Tryz.prog.info? T).map (fun i => (i.zero, i.size, i.bytes)) = some (some z, s, b)) : ∃ i, Tryz.prog.info? T = some i ∧ i.zero = some z ∧ i.size = s ∧ i.bytes = b := by
  cases hh : Tryz.prog.info? T with
  | none => rw [hh] at h; simp at h
  | some i => rw [hh] at h; simp at h; exact ⟨i, rfl, h.1, h.2.1, h.2.2⟩

theorem below_new {w w' : World} (h : Below w.heap.size w w') : Kept w w' (fun _ => False) := ⟨h.os, h.tape, h.output, h.size, fun k hk _ => h.block k hk⟩

theorem row_form {w : World} {base : Nat} {T : TypeId} {z n : Nat} {v : Value} {xs : List Value} (h : w.ownsRow base T z v n xs) : ∃ a n c, v = .slice a n c := by
  obtain ⟨_, ⟨rfl, _⟩ | ⟨g, cap, cur, rfl, _⟩⟩ := h
  · exact ⟨_, _, _, rfl⟩
  · exact ⟨_, _, _, rfl⟩

theorem row_val {w : World} {base : Nat} {T : TypeId} {z n : Nat} {v : Value} {xs : List Value} (h : w.ownsRow base T z v n xs) : ∃ a c, v = .slice a n c := by
  obtain ⟨_, ⟨rfl, rfl⟩ | ⟨g, cap, cur, rfl, _⟩⟩ := h
  · exact ⟨_, _, rfl⟩
  · exact ⟨_, _, rfl⟩

theorem row_first {w : World} {base : Nat} {T : TypeId} {z n n' cap : Nat} {a : Option Addr} {xs : List Value} (h : w.ownsRow base T z (.slice a n' cap) n xs) (hn : 0 < n) : ∃ g, a = some ⟨g, 0, none⟩ ∧ ∀ j, j < n * z → w.cell? ⟨g, j, none⟩ = xs[j]? := by
  obtain ⟨h1, ⟨e, h0⟩ | ⟨g, cap', cur, e, a2⟩⟩ := id h
  · omega
  · simp only [Value.slice.injEq] at e
    obtain ⟨rfl, rfl, rfl⟩ := e
    exact ⟨g, rfl, fun j hj => h.cellAt j hj⟩

/-- One row holds one list. -/
theorem own_same {w : World} {base : Nat} {T : TypeId} {z n : Nat} {v : Value} {xs ys : List Value} (h : w.ownsRow base T z v n xs) (h' : w.ownsRow base T z v n ys) : xs = ys := by
  obtain ⟨l1, ⟨rfl, h0⟩ | ⟨g, cap, cur, rfl, _, a3, _, _, _, a7⟩⟩ := h
  · have l2 := h'.1
    rw [h0, Nat.zero_mul] at l1 l2
    rw [List.length_eq_zero_iff.1 l1, List.length_eq_zero_iff.1 l2]
  · obtain ⟨_, ⟨e, _⟩ | ⟨g', cap', cur', e, _, b3, _, _, _, b7⟩⟩ := h'
    · cases e
    · simp only [Value.slice.injEq, Option.some.injEq, Addr.mk.injEq, and_true, true_and] at e
      obtain ⟨rfl, rfl⟩ := e
      rw [a3] at b3
      simp only [Option.some.injEq, Obj.cells.injEq, and_true] at b3
      rw [← a7, ← b7, b3]
end Go.Proofs.YtkcapiblicfboaaGreatDoor
