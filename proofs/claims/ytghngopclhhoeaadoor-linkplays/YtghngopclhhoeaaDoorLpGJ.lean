/- A list that grows mark by mark, its old row left as it was: what holds of it. -/
import Derived.Test.YtghngopclhhoeaaDoorBgAJ
import Derived.Test.YtghngopclhhoeaaDoorLpFJ
import Derived.Laws.IdiomStrings
namespace Go.Proofs.YtghngopclhhoeaaDoor
open Go.RowKit
set_option maxRecDepth 8000

theorem row_kept {w w' : World} {S : Nat → Prop} {base : Nat} {T : TypeId} {z n : Nat} {v : Value} {xs : List Value} (h : w.ownsRow base T z v n xs) (hk : Kept w w' S) (hn : ∀ g, v.ownBlock = some g → ¬ S g) : w'.ownsRow base T z v n xs := by
  obtain ⟨h1, h2 | ⟨g, cap, cur, rfl, a2, a3, a4⟩⟩ := h
  · exact ⟨h1, .inl h2⟩
  · refine ⟨h1, .inr ⟨g, cap, cur, rfl, a2, ?_, a4⟩⟩
    rw [hk.block g (lt_of_block a3) (hn g rfl)]
    exact a3

theorem row_lt {w : World} {base : Nat} {T : TypeId} {z n : Nat} {v : Value} {xs : List Value} (h : w.ownsRow base T z v n xs) {g : Nat} (hg : v.ownBlock = some g) : g < w.heap.size := by
  obtain ⟨_, ⟨rfl, _⟩ | ⟨g', cap, cur, rfl, _, a3, _⟩⟩ := h
  · cases hg
  · simp [Value.ownBlock] at hg
    subst hg
    exact lt_of_block a3

end Go.Proofs.YtghngopclhhoeaaDoor

/- A list of elements that hold bytes, grown mark by mark: each mark is a text of bytes in a block of its own. -/
namespace Go.Proofs.YtghngopclhhoeaaDoor
open Go.RowKit
set_option maxRecDepth 8000
set_option linter.unusedSimpArgs false
set_option linter.unusedVariables false

/-- A text of bytes in memory, in a block of bytes, whatever its room. -/
def MarkAt (w : World) (v : Value) (s : ByteArray) : Prop := ∃ b off cap, v = .slice (some ⟨b, off, none⟩) s.data.toList.length cap ∧ (∃ cs fr, w.heap[b]? = some (.cells cs 5 fr)) ∧ ∀ j (hj : j < s.data.toList.length), w.cell? ⟨b, off + j, none⟩ = some (.int .u8 ((s.data.toList[j]).toNat : Int))

theorem MarkAt.type {w : World} {v : Value} {s : ByteArray} (h : MarkAt w v s) {g : Nat} (hg : v.ownBlock = some g) : ∃ cs fr, w.heap[g]? = some (.cells cs 5 fr) := by
  obtain ⟨b, off, cap, rfl, ht, _⟩ := h
  cases hg
  exact ht

theorem MarkAt.kept {w w' : World} {S : Nat → Prop} {v : Value} {s : ByteArray} (h : MarkAt w v s) (hk : Kept w w' S) (hn : ∀ g, v.ownBlock = some g → ¬ S g) : MarkAt w' v s := by
  obtain ⟨b, off, cap, rfl, ⟨cs, fr, ht⟩, hc⟩ := h
  have hb := hn b rfl
  exact ⟨b, off, cap, rfl, ⟨cs, fr, hk.heap ht hb⟩, fun j hj => hk.cell (hc j hj) hb⟩

theorem MarkAt.run {w : World} {v : Value} {s : ByteArray} (h : MarkAt w v s) : (convert 39 9 v).run Tryd.prog w = .ok (.string s) w := by
  obtain ⟨b, off, cap, rfl, _, hc⟩ := h
  have := run_convert_bytes_back (P := Tryd.prog) w 39 9 5 ⟨b, off, none⟩ cap s.data.toList Tryd.underlying39 Tryd.underlying5 Tryd.underlying9 (fun j hj => by rw [Addr.add_lit]; exact hc j hj)
  exact this

theorem markAt_new (w : World) (s : ByteArray) (mk : Nat × Nat) : MarkAt (w.drew.alloc (.cells (bytesRow s (grownCap w s.size 0 5)) 5 mk)) (.slice (some ⟨w.heap.size, 0, none⟩) s.size (grownCap w s.size 0 5)) s := by
  refine ⟨w.heap.size, 0, _, rfl, ⟨_, _, heap_alloc_new w.drew _⟩, fun j hj => ?_⟩
  have := World.cell?_alloc_mark w.drew (bytesRow s (grownCap w s.size 0 5)) 5 mk j
  rw [Nat.zero_add, show w.heap.size = w.drew.heap.size from rfl, this]
  have hj' : j < s.data.size := by simpa using hj
  unfold bytesRow
  rw [Array.getElem?_append_left (by simpa using hj')]
  simp [Array.getElem?_eq_getElem hj']

/-- Each of n elements of z cells has in its cell q a text of these bytes. -/
def MkO (w : World) (z q n : Nat) (s : ByteArray) (xs : List Value) : Prop := ∀ k, k < n → ∃ v, xs[k * z + q]? = some v ∧ MarkAt w v s

theorem MkO.left {w : World} {z q n : Nat} {s : ByteArray} {xs ys : List Value} (h : MkO w z q n s xs) (hl : xs.length = n * z) (hq : q < z) : MkO w z q n s (xs ++ ys) := fun k hk => by
  have : k * z + q < xs.length := by
    rw [hl]
    have := Nat.mul_le_mul_right z (show k + 1 ≤ n from hk)
    rw [Nat.add_mul, Nat.one_mul] at this
    omega
  obtain ⟨v, h1, h2⟩ := h k hk
  exact ⟨v, by rw [List.getElem?_append_left this]; exact h1, h2⟩

theorem MkO.right {w : World} {z q n m : Nat} {s : ByteArray} {xs ys : List Value} (h : MkO w z q m s ys) (hl : xs.length = n * z) {k : Nat} (h1 : n ≤ k) (h2 : k < n + m) : ∃ v, (xs ++ ys)[k * z + q]? = some v ∧ MarkAt w v s := by
  obtain ⟨j, rfl⟩ : ∃ j, k = n + j := ⟨k - n, by omega⟩
  obtain ⟨v, h3, h4⟩ := h j (by omega)
  refine ⟨v, ?_, h4⟩
  rw [List.getElem?_append_right (by rw [hl, Nat.add_mul]; omega), hl, show (n + j) * z + q - n * z = j * z + q by rw [Nat.add_mul]; omega]
  exact h3

theorem MkO.snoc {w : World} {z q t : Nat} {s : ByteArray} {sv : Value} {ys news : List Value} (h : MkO w z q t s ys) (hl : ys.length = t * z) (hq : q < z) (hs : news[q]? = some sv) (hsv : MarkAt w sv s) : MkO w z q (t + 1) s (ys ++ news) := fun k hk => by
  by_cases hkt : k < t
  · exact h.left hl hq k hkt
  · obtain rfl : k = t := by omega
    refine ⟨sv, ?_, hsv⟩
    rw [List.getElem?_append_right (by omega), hl, show k * z + q - k * z = q by omega]
    exact hs

theorem MkO.kept {w w' : World} {S : Nat → Prop} {z q n : Nat} {s : ByteArray} {xs : List Value} (h : MkO w z q n s xs) (hk : Kept w w' S) (hn : ∀ g, ¬ S g) : MkO w' z q n s xs := fun k hkn => by
  obtain ⟨v, h1, h2⟩ := h k hkn
  exact ⟨v, h1, h2.kept hk (fun g _ => hn g)⟩

theorem MkO.grown {w w' : World} {T : TypeId} {o : Option Nat} {z q n : Nat} {s : ByteArray} {xs : List Value} (h : MkO w z q n s xs) (hg : w.grownBy w' o) (ho : ∀ g, o = some g → ∃ cs, w.heap[g]? = some (.cells cs T (0, 0))) (hT : T ≠ 5) : MkO w' z q n s xs := fun k hkn => by
  obtain ⟨v, h1, h2⟩ := h k hkn
  refine ⟨v, h1, h2.kept (S := fun k => o = some k) ⟨hg.os, hg.tape, hg.output, hg.size, fun k hk hne => hg.block k hk (fun e => hne e.symm)⟩ (fun g3 h3 e3 => ?_)⟩
  obtain ⟨cs, e4⟩ := ho g3 e3
  obtain ⟨cs2, fr2, e5⟩ := h2.type h3
  rw [e4] at e5
  simp only [Option.some.injEq, Obj.cells.injEq] at e5
  exact hT e5.2.1

/-- A list on its way: t marks behind what it had. -/
structure Gm (wi wx : World) (T : TypeId) (z q : Nat) (v : Value) (n : Nat) (xs : List Value) (s : ByteArray) (t : Nat) (m : Value) : Prop where
  ys : ∃ ys, wx.ownsRow 0 T z m (n + t) (xs ++ ys) ∧ ys.length = t * z ∧ MkO wx z q t s ys
  old : wx.ownsRow 0 T z v n xs
  kept : Kept wi wx (fun k => v.ownBlock = some k)
  lies : (t = 0 ∧ m = v) ∨ (∃ g cap, v = .slice (some ⟨g, 0, none⟩) n cap ∧ m = .slice (some ⟨g, 0, none⟩) (n + t) cap) ∨ ∃ g, m.ownBlock = some g ∧ wi.heap.size ≤ g

theorem Gm.start {w : World} {T : TypeId} {z q n : Nat} {v : Value} {xs : List Value} (s : ByteArray) (h : w.ownsRow 0 T z v n xs) : Gm w w T z q v n xs s 0 v :=
  ⟨⟨[], by rw [List.append_nil]; exact h, by simp, fun k hk => by omega⟩, h, Kept.refl _ _, .inl ⟨rfl, rfl⟩⟩

theorem Gm.next {wi wx w1 : World} {T : TypeId} {z q n t : Nat} {v m : Value} {s : ByteArray} {xs : List Value} (h : Gm wi wx T z q v n xs s t m) (hk : Kept wx w1 (fun _ => False)) : Gm wi w1 T z q v n xs s t m := by
  obtain ⟨⟨ys, h1, h2, h3⟩, h4, h5, h6⟩ := h
  exact ⟨⟨ys, row_kept h1 hk (fun _ _ h => h), h2, h3.kept hk (fun _ h => h)⟩, row_kept h4 hk (fun _ _ h => h), h5.trans hk (fun _ _ h => h.elim), h6⟩

theorem Gm.more {wi w1 w' : World} {T : TypeId} {z q n t : Nat} {v m m' sv : Value} {s : ByteArray} {xs news : List Value} (h : Gm wi w1 T z q v n xs s t m) (hv : ∀ g, v.ownBlock = some g → g < wi.heap.size) (hxl : xs.length = n * z) (hn : news.length = z) (hq : q < z) (hs : news[q]? = some sv) (hsv : MarkAt w1 sv s) (hT : T ≠ 5)
    (ho : ∀ ys, w1.ownsRow 0 T z m (n + t) (xs ++ ys) → w'.ownsRow 0 T z m' (n + t + 1) (xs ++ ys ++ news)) (hg : w1.grownBy w' m.ownBlock)
    (hc : (∃ g cap, m = .slice (some ⟨g, 0, none⟩) (n + t) cap ∧ m' = .slice (some ⟨g, 0, none⟩) (n + t + 1) cap) ∨ (m'.ownBlock = some w1.heap.size ∧ w1.grownBy w' none)) : Gm wi w' T z q v n xs s (t + 1) m' := by
  obtain ⟨⟨ys, h1, h2, h3⟩, h4, h5, h6⟩ := h
  have hrow : w'.ownsRow 0 T z m' (n + (t + 1)) (xs ++ (ys ++ news)) := by
    have := ho ys h1
    rw [List.append_assoc] at this
    exact this
  have hys : ∃ ys, w'.ownsRow 0 T z m' (n + (t + 1)) (xs ++ ys) ∧ ys.length = (t + 1) * z ∧ MkO w' z q (t + 1) s ys :=
    ⟨ys ++ news, hrow, by rw [List.length_append, h2, hn, Nat.add_mul, Nat.one_mul], (h3.snoc h2 hq hs hsv).grown hg (fun g e => rowTl h1 e) hT⟩
  rcases hc with ⟨g, cap, rfl, rfl⟩ | ⟨hnew, hg0⟩
  · have hblk : (Value.slice (some ⟨g, 0, none⟩) (n + t) cap).ownBlock = some g := rfl
    by_cases hvg : v.ownBlock = some g
    · have hsame : ∃ g' cap', v = .slice (some ⟨g', 0, none⟩) n cap' ∧ Value.slice (some ⟨g, 0, none⟩) (n + t) cap = .slice (some ⟨g', 0, none⟩) (n + t) cap' := by
        rcases h6 with ⟨rfl, e⟩ | h6 | ⟨g2, e2, hlt⟩
        · exact ⟨g, cap, by rw [← e, Nat.add_zero], rfl⟩
        · exact h6
        · rw [hblk] at e2
          cases e2
          have := hv g hvg
          omega
      obtain ⟨g', cap', rfl, e⟩ := hsame
      simp only [Value.slice.injEq, Option.some.injEq, Addr.mk.injEq, and_true, true_and] at e
      obtain ⟨rfl, rfl⟩ := e
      refine ⟨hys, row_front hrow hxl, h5.trans ⟨hg.os, hg.tape, hg.output, hg.size, fun k hk hne => hg.block k hk (fun e => hne e.symm)⟩ (fun _ _ h => h), .inr (.inl ⟨g, cap, rfl, rfl⟩)⟩
    · have hge : wi.heap.size ≤ g := by
        rcases h6 with ⟨rfl, e⟩ | ⟨g2, c2, rfl, e⟩ | ⟨g2, e2, hlt⟩
        · rw [← e] at hvg; exact absurd hblk hvg
        · cases e; exact absurd rfl hvg
        · rw [hblk] at e2; cases e2; exact hlt
      refine ⟨hys, row_other h4 hg (fun g3 h3 e3 => hvg (by rw [h3, ← e3, hblk])), h5.trans ⟨hg.os, hg.tape, hg.output, hg.size, fun k hk hne => hg.block k hk (fun e => hne e.symm)⟩ (fun k hk e => ?_), .inr (.inr ⟨g, rfl, hge⟩)⟩
      exfalso
      cases e
      have hk2 : g < wi.heap.size := hk
      omega
  · refine ⟨hys, row_other h4 hg0 (fun _ _ e => by cases e), h5.trans ⟨hg0.os, hg0.tape, hg0.output, hg0.size, fun k hk _ => hg0.block k hk (fun e => by cases e)⟩ (fun _ _ h => h), .inr (.inr ⟨_, hnew, h5.size⟩)⟩

end Go.Proofs.YtghngopclhhoeaaDoor
