/- A list that grows mark by mark, its old row left as it was: what holds of it. -/
import Derived.Test.YtmniefmjdfdedaaGreatDoorBgA
namespace Go.Proofs.YtmniefmjdfdedaaGreatDoor
open Go.RowKit
set_option maxRecDepth 8000

/-- Each of n elements of z cells has this mark in its cell q. -/
def Mk (z q n : Nat) (s : Value) (xs : List Value) : Prop := ∀ k, k < n → xs[k * z + q]? = some s

theorem Mk.left {z q n : Nat} {s : Value} {xs ys : List Value} (h : Mk z q n s xs) (hl : xs.length = n * z) (hq : q < z) : Mk z q n s (xs ++ ys) := fun k hk => by
  have : k * z + q < xs.length := by
    rw [hl]
    have := Nat.mul_le_mul_right z (show k + 1 ≤ n from hk)
    rw [Nat.add_mul, Nat.one_mul] at this
    omega
  rw [List.getElem?_append_left this]
  exact h k hk

theorem Mk.right {z q n m : Nat} {s : Value} {xs ys : List Value} (h : Mk z q m s ys) (hl : xs.length = n * z) {k : Nat} (h1 : n ≤ k) (h2 : k < n + m) : (xs ++ ys)[k * z + q]? = some s := by
  obtain ⟨j, rfl⟩ : ∃ j, k = n + j := ⟨k - n, by omega⟩
  rw [List.getElem?_append_right (by rw [hl, Nat.add_mul]; omega), hl, show (n + j) * z + q - n * z = j * z + q by rw [Nat.add_mul]; omega]
  exact h j (by omega)

theorem Mk.snoc {z q t : Nat} {s : Value} {ys news : List Value} (h : Mk z q t s ys) (hl : ys.length = t * z) (hq : q < z) (hs : news[q]? = some s) : Mk z q (t + 1) s (ys ++ news) := fun k hk => by
  by_cases hkt : k < t
  · exact h.left hl hq k hkt
  · obtain rfl : k = t := by omega
    rw [List.getElem?_append_right (by omega), hl, show k * z + q - k * z = q by omega]
    exact hs

theorem row_kept {w w' : World} {S : Nat → Prop} {base : Nat} {T : TypeId} {z n : Nat} {v : Value} {xs : List Value} (h : w.ownsRow base T z v n xs) (hk : Kept w w' S) (hn : ∀ g, v.ownBlock = some g → ¬ S g) : w'.ownsRow base T z v n xs := by
  obtain ⟨h1, h2 | ⟨g, cap, cur, rfl, a2, a3, a4⟩⟩ := h
  · exact ⟨h1, .inl h2⟩
  · refine ⟨h1, .inr ⟨g, cap, cur, rfl, a2, ?_, a4⟩⟩
    rw [hk.block g (lt_of_block a3) (hn g rfl)]
    exact a3

theorem row_lt {w : World} {base : Nat} {T : TypeId} {z n : Nat} {v : Value} {xs : List Value} (h : w.ownsRow base T z v n xs) {g : Nat} (hg : v.ownBlock = some g) : g < w.heap.size := by
  obtain ⟨_, ⟨rfl, _⟩ | ⟨g', cap, cur, rfl, _, a3, _⟩⟩ := h
  · cases hg
  · simp [Value.ownBlock] at hg
    subst hg
    exact lt_of_block a3

/-- A list on its way: t marks behind what it had. -/
structure Gw (wi wx : World) (T : TypeId) (z q : Nat) (v : Value) (n : Nat) (xs : List Value) (s : Value) (t : Nat) (m : Value) : Prop where
  ys : ∃ ys, wx.ownsRow 0 T z m (n + t) (xs ++ ys) ∧ ys.length = t * z ∧ Mk z q t s ys
  old : wx.ownsRow 0 T z v n xs
  kept : Kept wi wx (fun k => v.ownBlock = some k)
  lies : (t = 0 ∧ m = v) ∨ (∃ g cap, v = .slice (some ⟨g, 0, none⟩) n cap ∧ m = .slice (some ⟨g, 0, none⟩) (n + t) cap) ∨ ∃ g, m.ownBlock = some g ∧ wi.heap.size ≤ g

theorem Gw.start {w : World} {T : TypeId} {z q n : Nat} {v : Value} {xs : List Value} (s : Value) (h : w.ownsRow 0 T z v n xs) : Gw w w T z q v n xs s 0 v :=
  ⟨⟨[], by rw [List.append_nil]; exact h, by simp, fun k hk => by omega⟩, h, Kept.refl _ _, .inl ⟨rfl, rfl⟩⟩

theorem Gw.next {wi wx w1 : World} {T : TypeId} {z q n t : Nat} {v m s : Value} {xs : List Value} (h : Gw wi wx T z q v n xs s t m) (hk : Kept wx w1 (fun _ => False)) : Gw wi w1 T z q v n xs s t m := by
  obtain ⟨⟨ys, h1, h2, h3⟩, h4, h5, h6⟩ := h
  exact ⟨⟨ys, row_kept h1 hk (fun _ _ h => h), h2, h3⟩, row_kept h4 hk (fun _ _ h => h), h5.trans hk (fun _ _ h => h.elim), h6⟩

theorem Gw.more {wi w1 w' : World} {T : TypeId} {z q n t : Nat} {v m m' s : Value} {xs news : List Value} (h : Gw wi w1 T z q v n xs s t m) (hv : ∀ g, v.ownBlock = some g → g < wi.heap.size) (hxl : xs.length = n * z) (hn : news.length = z) (hq : q < z) (hs : news[q]? = some s)
    (ho : ∀ ys, w1.ownsRow 0 T z m (n + t) (xs ++ ys) → w'.ownsRow 0 T z m' (n + t + 1) (xs ++ ys ++ news)) (hg : w1.grownBy w' m.ownBlock)
    (hc : (∃ g cap, m = .slice (some ⟨g, 0, none⟩) (n + t) cap ∧ m' = .slice (some ⟨g, 0, none⟩) (n + t + 1) cap) ∨ (m'.ownBlock = some w1.heap.size ∧ w1.grownBy w' none)) : Gw wi w' T z q v n xs s (t + 1) m' := by
  obtain ⟨⟨ys, h1, h2, h3⟩, h4, h5, h6⟩ := h
  have hrow : w'.ownsRow 0 T z m' (n + (t + 1)) (xs ++ (ys ++ news)) := by
    have := ho ys h1
    rw [List.append_assoc] at this
    exact this
  have hys : ∃ ys, w'.ownsRow 0 T z m' (n + (t + 1)) (xs ++ ys) ∧ ys.length = (t + 1) * z ∧ Mk z q (t + 1) s ys :=
    ⟨ys ++ news, hrow, by rw [List.length_append, h2, hn, Nat.add_mul, Nat.one_mul], h3.snoc h2 hq hs⟩
  rcases hc with ⟨g, cap, rfl, rfl⟩ | ⟨hnew, hg0⟩
  · have hblk : (Value.slice (some ⟨g, 0, none⟩) (n + t) cap).ownBlock = some g := rfl
    by_cases hvg : v.ownBlock = some g
    · have hsame : ∃ g' cap', v = .slice (some ⟨g', 0, none⟩) n cap' ∧ Value.slice (some ⟨g, 0, none⟩) (n + t) cap = .slice (some ⟨g', 0, none⟩) (n + t) cap' := by
        rcases h6 with ⟨rfl, e⟩ | h6 | ⟨g2, e2, hlt⟩
        · exact ⟨g, cap, by rw [← e, Nat.add_zero], rfl⟩
        · exact h6
        · rw [hblk] at e2
          cases e2
          have := hv g hvg
          omega
      obtain ⟨g', cap', rfl, e⟩ := hsame
      simp only [Value.slice.injEq, Option.some.injEq, Addr.mk.injEq, and_true, true_and] at e
      obtain ⟨rfl, rfl⟩ := e
      refine ⟨hys, row_front hrow hxl, h5.trans ⟨hg.os, hg.tape, hg.output, hg.size, fun k hk hne => hg.block k hk (fun e => hne e.symm)⟩ (fun _ _ h => h), .inr (.inl ⟨g, cap, rfl, rfl⟩)⟩
    · have hge : wi.heap.size ≤ g := by
        rcases h6 with ⟨rfl, e⟩ | ⟨g2, c2, rfl, e⟩ | ⟨g2, e2, hlt⟩
        · rw [← e] at hvg; exact absurd hblk hvg
        · cases e; exact absurd rfl hvg
        · rw [hblk] at e2; cases e2; exact hlt
      refine ⟨hys, row_other h4 hg (fun g3 h3 e3 => hvg (by rw [h3, ← e3, hblk])), h5.trans ⟨hg.os, hg.tape, hg.output, hg.size, fun k hk hne => hg.block k hk (fun e => hne e.symm)⟩ (fun k hk e => ?_), .inr (.inr ⟨g, rfl, hge⟩)⟩
      exfalso
      cases e
      have hk2 : g < wi.heap.size := hk
      omega
  · refine ⟨hys, row_other h4 hg0 (fun _ _ e => by cases e), h5.trans ⟨hg0.os, hg0.tape, hg0.output, hg0.size, fun k hk _ => hg0.block k hk (fun e => by cases e)⟩ (fun _ _ h => h), .inr (.inr ⟨_, hnew, h5.size⟩)⟩

end Go.Proofs.YtmniefmjdfdedaaGreatDoor
