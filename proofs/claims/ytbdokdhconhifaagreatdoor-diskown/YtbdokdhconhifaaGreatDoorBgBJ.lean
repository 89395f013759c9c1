/- Rows of a list's own, whatever size its elements have: an append into its own room, or into a new row that leaves the old one as it was. -/
import Derived.Test.YtbdokdhconhifaaGreatDoorMemJ
import Derived.Maps.AppendAt
namespace Go.Proofs.YtbdokdhconhifaaGreatDoor
open Go.RowKit
set_option maxRecDepth 8000

/-- A row in another block than the one that changed. -/
theorem row_other {w w' : World} {b : Option Nat} {base : Nat} {T : TypeId} {z n : Nat} {v : Value} {xs : List Value} (h : w.ownsRow base T z v n xs) (hg : w.grownBy w' b) (hne : ∀ g, v.ownBlock = some g → b ≠ some g) : w'.ownsRow base T z v n xs := by
  obtain ⟨h1, h2 | ⟨g, cap, cur, rfl, a2, a3, a4⟩⟩ := h
  · exact ⟨h1, .inl h2⟩
  · refine ⟨h1, .inr ⟨g, cap, cur, rfl, a2, ?_, a4⟩⟩
    rw [hg.block g (lt_of_block a3) (fun e => hne g rfl e.symm)]
    exact a3

/-- The beginning of a row is a row, with the same room. -/
theorem row_front {w : World} {base : Nat} {T : TypeId} {z n m g cap : Nat} {xs ys : List Value} (h : w.ownsRow base T z (.slice (some ⟨g, 0, none⟩) (n + m) cap) (n + m) (xs ++ ys)) (hl : xs.length = n * z) : w.ownsRow base T z (.slice (some ⟨g, 0, none⟩) n cap) n xs := by
  refine ⟨hl, ?_⟩
  obtain ⟨h1, ⟨e, _⟩ | ⟨g', cap', cur, e, a2, a3, a4, a5, a6, a7⟩⟩ := h
  · cases e
  · simp only [Value.slice.injEq, Option.some.injEq, Addr.mk.injEq, and_true, true_and] at e
    obtain ⟨rfl, rfl⟩ := e
    refine .inr ⟨g, cap, cur, rfl, a2, a3, by omega, a5, a6, ?_⟩
    have := congrArg (List.take (n * z)) a7
    rw [List.take_take, Nat.min_eq_left (Nat.mul_le_mul_right z (by omega)), ← hl, List.take_left] at this
    rw [← hl]
    exact this

/-- One more element: in its own room, or in a new row, the old one left as it was. -/
theorem app_row {P : Program} {w : World} (base : Nat) (t ty e : TypeId) (i : TypeInfo) (zv : Value) (size bytes : Nat) (ht : P.underlying t = some (.slice e)) (hi : P.info? e = some i) (hz : i.zero = some zv)
    (hsize : i.size = size) (hby : i.bytes = bytes) (hzs : zv.cells.size = size) (hsz : 0 < size) (v : Value) (n : Nat) (xs : List Value) (ho : w.ownsRow base e size v n xs) (m : Nat) (news : List Value) (hn : news.length = size)
    (hm : w.heap[m]? = some (.cells news.toArray e (0, 0))) (h1 : ∀ u ∈ news, u.oneCell' = true) (hl : n ≤ 2000000000) (hb1 : bytes ≤ 1000) (hb : base ≤ w.heap.size) :
    ∃ v' w', (Builtin.append_ #[t, t] ty #[v, .slice (some ⟨m, 0, none⟩) 1 1]).run P w = .ok v' w' ∧ w'.ownsRow base e size v' (n + 1) (xs ++ news) ∧ w.grownBy w' v.ownBlock ∧
      ((∃ g cap, v = .slice (some ⟨g, 0, none⟩) n cap ∧ v' = .slice (some ⟨g, 0, none⟩) (n + 1) cap) ∨ (v'.ownBlock = some w.heap.size ∧ w.grownBy w' none)) := by
  have hnews : ∀ j u, news[j]? = some u → w.cell? ((⟨m, 0, none⟩ : Addr).add j) = some u := fun j u hj => by
    rw [Addr.add_lit, Nat.zero_add, cell_of_row w m j _ _ _ hm, ← Array.getElem?_toList]
    exact hj
  have hby2 : (n + 1) * bytes ≤ 140737488355328 := Nat.le_trans (Nat.mul_le_mul (show n + 1 ≤ 2000000001 by omega) hb1) (by decide)
  obtain ⟨v', w', hr, o1, o2, o3, o4⟩ := run_append_own_at (P := P) w base t ty e i zv size bytes ht hi hz hsize hby hzs hsz v n xs ho ⟨m, 0, none⟩ 1 1 news (by rw [hn, Nat.one_mul]) hnews h1 (by unfold maxLen; omega) hby2 hb
  refine ⟨v', w', hr, o1, o2, ?_⟩
  obtain ⟨hxl, ⟨rfl, h0⟩ | ⟨g, cap, cur, rfl, a2, a3, a4, a5, a6, a7⟩⟩ := ho
  · right
    rcases o4 with o4 | o4
    · obtain ⟨_, ⟨_, h1'⟩ | ⟨g, cap, cur, rfl, _⟩⟩ := o1
      · omega
      · simp [Value.ownBlock] at o4
    · exact ⟨o4, o2⟩
  · by_cases hroom : n + 1 ≤ cap
    · left
      have hfit : n * i.size + news.length ≤ cur.size := by
        have := Nat.mul_le_mul_right size hroom
        rw [Nat.add_mul, Nat.one_mul] at this
        rw [hsize, a6, hn]
        exact this
      have h2 := run_append_room (P := P) w t ty e i ht hi g n cap cur a3 ⟨m, 0, none⟩ 1 1 news (by rw [hn, hsize, Nat.one_mul]) hnews h1 hroom hfit
      rw [hr] at h2
      injection h2 with e1 e2
      exact ⟨g, cap, rfl, e1⟩
    · right
      have holds : ∀ j u, xs[j]? = some u → w.cell? ((⟨g, 0, none⟩ : Addr).add j) = some u := fun j u hj => by
        rw [Addr.add_lit, Nat.zero_add, cell_of_row w g j _ _ _ a3, ← Array.getElem?_toList]
        rw [← a7, List.getElem?_take] at hj
        split at hj
        · exact hj
        · cases hj
      have h2 := run_append_grow (P := P) w t ty e i zv ht hi hz ⟨g, 0, none⟩ n cap xs (by rw [hxl, hsize]) holds ⟨m, 0, none⟩ 1 1 news (by rw [hn, hsize, Nat.one_mul]) hnews (by omega) (by omega) (growslice_fits (by omega) (by rw [hby]; exact hby2))
      rw [hr] at h2
      injection h2 with e1 e2
      rw [e1, e2]
      exact ⟨rfl, rfl, rfl, rfl, by simp, fun k hk _ => heap_alloc_old w.drew _ hk⟩

end Go.Proofs.YtbdokdhconhifaaGreatDoor

/- A list that grows mark by mark, its old row left as it was: what holds of it. -/
namespace Go.Proofs.YtbdokdhconhifaaGreatDoor
open Go.RowKit
set_option maxRecDepth 8000

/-- Each of n elements of z cells has this mark in its cell q. -/
def Mk (z q n : Nat) (s : Value) (xs : List Value) : Prop := ∀ k, k < n → xs[k * z + q]? = some s

theorem Mk.left {z q n : Nat} {s : Value} {xs ys : List Value} (h : Mk z q n s xs) (hl : xs.length = n * z) (hq : q < z) : Mk z q n s (xs ++ ys) := fun k hk => by
  have : k * z + q < xs.length := by
    rw [hl]
    have := Nat.mul_le_mul_right z (show k + 1 ≤ n from hk)
    rw [Nat.add_mul, Nat.one_mul] at this
    omega
  rw [List.getElem?_append_left this]
  exact h k hk

theorem Mk.right {z q n m : Nat} {s : Value} {xs ys : List Value} (h : Mk z q m s ys) (hl : xs.length = n * z) {k : Nat} (h1 : n ≤ k) (h2 : k < n + m) : (xs ++ ys)[k * z + q]? = some s := by
  obtain ⟨j, rfl⟩ : ∃ j, k = n + j := ⟨k - n, by omega⟩
  rw [List.getElem?_append_right (by rw [hl, Nat.add_mul]; omega), hl, show (n + j) * z + q - n * z = j * z + q by rw [Nat.add_mul]; omega]
  exact h j (by omega)

theorem Mk.snoc {z q t : Nat} {s : Value} {ys news : List Value} (h : Mk z q t s ys) (hl : ys.length = t * z) (hq : q < z) (hs : news[q]? = some s) : Mk z q (t + 1) s (ys ++ news) := fun k hk => by
  by_cases hkt : k < t
  · exact h.left hl hq k hkt
  · obtain rfl : k = t := by omega
    rw [List.getElem?_append_right (by omega), hl, show k * z + q - k * z = q by omega]
    exact hs

theorem row_kept {w w' : World} {S : Nat → Prop} {base : Nat} {T : TypeId} {z n : Nat} {v : Value} {xs : List Value} (h : w.ownsRow base T z v n xs) (hk : Kept w w' S) (hn : ∀ g, v.ownBlock = some g → ¬ S g) : w'.ownsRow base T z v n xs := by
  obtain ⟨h1, h2 | ⟨g, cap, cur, rfl, a2, a3, a4⟩⟩ := h
  · exact ⟨h1, .inl h2⟩
  · refine ⟨h1, .inr ⟨g, cap, cur, rfl, a2, ?_, a4⟩⟩
    rw [hk.block g (lt_of_block a3) (hn g rfl)]
    exact a3

theorem row_lt {w : World} {base : Nat} {T : TypeId} {z n : Nat} {v : Value} {xs : List Value} (h : w.ownsRow base T z v n xs) {g : Nat} (hg : v.ownBlock = some g) : g < w.heap.size := by
  obtain ⟨_, ⟨rfl, _⟩ | ⟨g', cap, cur, rfl, _, a3, _⟩⟩ := h
  · cases hg
  · simp [Value.ownBlock] at hg
    subst hg
    exact lt_of_block a3

/-- A list on its way: t marks behind what it had. -/
structure Gw (wi wx : World) (T : TypeId) (z q : Nat) (v : Value) (n : Nat) (xs : List Value) (s : Value) (t : Nat) (m : Value) : Prop where
  ys : ∃ ys, wx.ownsRow 0 T z m (n + t) (xs ++ ys) ∧ ys.length = t * z ∧ Mk z q t s ys
  old : wx.ownsRow 0 T z v n xs
  kept : Kept wi wx (fun k => v.ownBlock = some k)
  lies : (t = 0 ∧ m = v) ∨ (∃ g cap, v = .slice (some ⟨g, 0, none⟩) n cap ∧ m = .slice (some ⟨g, 0, none⟩) (n + t) cap) ∨ ∃ g, m.ownBlock = some g ∧ wi.heap.size ≤ g

theorem Gw.start {w : World} {T : TypeId} {z q n : Nat} {v : Value} {xs : List Value} (s : Value) (h : w.ownsRow 0 T z v n xs) : Gw w w T z q v n xs s 0 v :=
  ⟨⟨[], by rw [List.append_nil]; exact h, by simp, fun k hk => by omega⟩, h, Kept.refl _ _, .inl ⟨rfl, rfl⟩⟩

theorem Gw.next {wi wx w1 : World} {T : TypeId} {z q n t : Nat} {v m s : Value} {xs : List Value} (h : Gw wi wx T z q v n xs s t m) (hk : Kept wx w1 (fun _ => False)) : Gw wi w1 T z q v n xs s t m := by
  obtain ⟨⟨ys, h1, h2, h3⟩, h4, h5, h6⟩ := h
  exact ⟨⟨ys, row_kept h1 hk (fun _ _ h => h), h2, h3⟩, row_kept h4 hk (fun _ _ h => h), h5.trans hk (fun _ _ h => h.elim), h6⟩

theorem Gw.more {wi w1 w' : World} {T : TypeId} {z q n t : Nat} {v m m' s : Value} {xs news : List Value} (h : Gw wi w1 T z q v n xs s t m) (hv : ∀ g, v.ownBlock = some g → g < wi.heap.size) (hxl : xs.length = n * z) (hn : news.length = z) (hq : q < z) (hs : news[q]? = some s)
    (ho : ∀ ys, w1.ownsRow 0 T z m (n + t) (xs ++ ys) → w'.ownsRow 0 T z m' (n + t + 1) (xs ++ ys ++ news)) (hg : w1.grownBy w' m.ownBlock)
    (hc : (∃ g cap, m = .slice (some ⟨g, 0, none⟩) (n + t) cap ∧ m' = .slice (some ⟨g, 0, none⟩) (n + t + 1) cap) ∨ (m'.ownBlock = some w1.heap.size ∧ w1.grownBy w' none)) : Gw wi w' T z q v n xs s (t + 1) m' := by
  obtain ⟨⟨ys, h1, h2, h3⟩, h4, h5, h6⟩ := h
  have hrow : w'.ownsRow 0 T z m' (n + (t + 1)) (xs ++ (ys ++ news)) := by
    have := ho ys h1
    rw [List.append_assoc] at this
    exact this
  have hys : ∃ ys, w'.ownsRow 0 T z m' (n + (t + 1)) (xs ++ ys) ∧ ys.length = (t + 1) * z ∧ Mk z q (t + 1) s ys :=
    ⟨ys ++ news, hrow, by rw [List.length_append, h2, hn, Nat.add_mul, Nat.one_mul], h3.snoc h2 hq hs⟩
  rcases hc with ⟨g, cap, rfl, rfl⟩ | ⟨hnew, hg0⟩
  · have hblk : (Value.slice (some ⟨g, 0, none⟩) (n + t) cap).ownBlock = some g := rfl
    by_cases hvg : v.ownBlock = some g
    · have hsame : ∃ g' cap', v = .slice (some ⟨g', 0, none⟩) n cap' ∧ Value.slice (some ⟨g, 0, none⟩) (n + t) cap = .slice (some ⟨g', 0, none⟩) (n + t) cap' := by
        rcases h6 with ⟨rfl, e⟩ | h6 | ⟨g2, e2, hlt⟩
        · exact ⟨g, cap, by rw [← e, Nat.add_zero], rfl⟩
        · exact h6
        · rw [hblk] at e2
          cases e2
          have := hv g hvg
          omega
      obtain ⟨g', cap', rfl, e⟩ := hsame
      simp only [Value.slice.injEq, Option.some.injEq, Addr.mk.injEq, and_true, true_and] at e
      obtain ⟨rfl, rfl⟩ := e
      refine ⟨hys, row_front hrow hxl, h5.trans ⟨hg.os, hg.tape, hg.output, hg.size, fun k hk hne => hg.block k hk (fun e => hne e.symm)⟩ (fun _ _ h => h), .inr (.inl ⟨g, cap, rfl, rfl⟩)⟩
    · have hge : wi.heap.size ≤ g := by
        rcases h6 with ⟨rfl, e⟩ | ⟨g2, c2, rfl, e⟩ | ⟨g2, e2, hlt⟩
        · rw [← e] at hvg; exact absurd hblk hvg
        · cases e; exact absurd rfl hvg
        · rw [hblk] at e2; cases e2; exact hlt
      refine ⟨hys, row_other h4 hg (fun g3 h3 e3 => hvg (by rw [h3, ← e3, hblk])), h5.trans ⟨hg.os, hg.tape, hg.output, hg.size, fun k hk hne => hg.block k hk (fun e => hne e.symm)⟩ (fun k hk e => ?_), .inr (.inr ⟨g, rfl, hge⟩)⟩
      exfalso
      cases e
      have hk2 : g < wi.heap.size := hk
      omega
  · refine ⟨hys, row_other h4 hg0 (fun _ _ e => by cases e), h5.trans ⟨hg0.os, hg0.tape, hg0.output, hg0.size, fun k hk _ => hg0.block k hk (fun e => by cases e)⟩ (fun _ _ h => h), .inr (.inr ⟨_, hnew, h5.size⟩)⟩

end Go.Proofs.YtbdokdhconhifaaGreatDoor
