/- Lists that lie apart, filled with marks element by element: what holds of them. -/
import Derived.Test.YtmniefmjdfdedaaGreatDoorBgC
namespace Go.Proofs.YtmniefmjdfdedaaGreatDoor
open Go.RowKit
set_option maxRecDepth 8000

/-- The blocks of these lists. -/
def BlkR (rs : List Rw) (k : Nat) : Prop := ∃ j, ∃ hj : j < rs.length, rs[j].v.ownBlock = some k

/-- The first i lists are filled, of the next one the first t. -/
def Fd (w wr : World) (T : TypeId) (z q : Nat) (rs : List Rw) (s : Nat → Value) (i t : Nat) (Xs : Nat → List Value) : Prop :=
  RowsR wr T z rs Xs ∧ (∀ j (hj : j < rs.length), j < i → Mk z q rs[j].n (s j) (Xs j)) ∧ Mk z q t (s i) (Xs i) ∧ Kept w wr (BlkR rs)

theorem Fd.start {w : World} {T : TypeId} {z q : Nat} {rs : List Rw} {s : Nat → Value} {Xs : Nat → List Value} (h : RowsR w T z rs Xs) : Fd w w T z q rs s 0 0 Xs :=
  ⟨h, fun j _ hj => by omega, fun k hk => by omega, Kept.refl _ _⟩

theorem Fd.next {w wr w1 : World} {T : TypeId} {z q i t : Nat} {rs : List Rw} {s : Nat → Value} {Xs : Nat → List Value} (h : Fd w wr T z q rs s i t Xs) (hk : Kept wr w1 (fun _ => False)) : Fd w w1 T z q rs s i t Xs :=
  ⟨fun j hj => row_kept (h.1 j hj) hk (fun _ _ h => h), h.2.1, h.2.2.1, h.2.2.2.trans hk (fun _ _ h => h.elim)⟩

theorem Fd.turn {w wr : World} {T : TypeId} {z q i t : Nat} {rs : List Rw} {s : Nat → Value} {Xs : Nat → List Value} (h : Fd w wr T z q rs s i t Xs) (hi : i < rs.length) (ht : rs[i].n ≤ t) : Fd w wr T z q rs s (i + 1) 0 Xs := by
  refine ⟨h.1, fun j hj hji => ?_, fun k hk => by omega, h.2.2.2⟩
  by_cases hj2 : j < i
  · exact h.2.1 j hj hj2
  · obtain rfl : j = i := by omega
    exact fun k hk => h.2.2.1 k (by omega)

/-- The sets that store one element change no other element's mark. -/
theorem Mk.set {z q n k : Nat} {s u : Value} {xs : List Value} (h : Mk z q n s xs) (hk : ∀ j, j < n → k ≠ j * z + q) : Mk z q n s (xs.set k u) := fun j hj => by
  rw [List.getElem?_set_ne (hk j hj)]
  exact h j hj

theorem Fd.store {w wr w' : World} {T : TypeId} {z q i t g : Nat} {rs : List Rw} {s : Nat → Value} {Xs : Nat → List Value} {xs' : List Value} (h : Fd w wr T z q rs s i t Xs) (hap : ApartR rs) (hi : i < rs.length) (hb : rs[i].v.ownBlock = some g) (ho : w'.ownsRow 0 T z rs[i].v rs[i].n xs') (hg : wr.grownBy w' (some g)) (hm : Mk z q (t + 1) (s i) xs') :
    Fd w w' T z q rs s i (t + 1) (fun j => if j = i then xs' else Xs j) := by
  refine ⟨fun j hj => ?_, fun j hj hji => ?_, ?_, ?_⟩
  · by_cases hji : j = i
    · subst hji
      simp only [if_pos]
      exact ho
    · simp only [if_neg hji]
      exact row_other (h.1 j hj) hg (fun g2 h2 e => by cases e; exact hap j i hj hi hji g h2 hb)
  · simp only [if_neg (show j ≠ i by omega)]
    exact h.2.1 j hj hji
  · simp only [if_pos]
    exact hm
  · exact h.2.2.2.trans ⟨hg.os, hg.tape, hg.output, hg.size, fun k hk hne => hg.block k hk (fun e => hne (by cases e; exact ⟨i, hi, hb⟩))⟩ (fun _ _ h => h)

/-- A list of lists in memory, in a block of its own kind. -/
def SeesL (w : World) (T1 : TypeId) (lv : Value) (rs : List Rw) : Prop := ∃ ao cap, lv = .slice ao rs.length cap ∧ rs.length ≤ cap ∧ (rs ≠ [] → ∃ b off, ao = some ⟨b, off, none⟩ ∧ (∃ cs fr, w.heap[b]? = some (.cells cs T1 fr)) ∧ ∀ j (hj : j < rs.length), w.cell? ⟨b, off + j, none⟩ = some rs[j].v)

theorem SeesL.kept {w w' : World} {T T1 : TypeId} {z : Nat} {lv : Value} {rs : List Rw} {Xs : Nat → List Value} (h : SeesL w T1 lv rs) (hr : RowsR w T z rs Xs) (hT : T ≠ T1) (hk : Kept w w' (BlkR rs)) : SeesL w' T1 lv rs := by
  obtain ⟨ao, cap, h1, h2, h3⟩ := h
  refine ⟨ao, cap, h1, h2, fun hn => ?_⟩
  obtain ⟨b, off, h4, ⟨cs, fr, h5⟩, h6⟩ := h3 hn
  have hnb : ¬ BlkR rs b := by
    rintro ⟨j, hj, e⟩
    obtain ⟨cs', e'⟩ := row_type (hr j hj) e
    rw [h5] at e'
    simp at e'
    exact hT e'.2.1.symm
  have hb : w'.heap[b]? = w.heap[b]? := hk.block b (lt_of_block h5) hnb
  refine ⟨b, off, h4, ⟨cs, fr, by rw [hb]; exact h5⟩, fun j hj => ?_⟩
  have := h6 j hj
  unfold World.cell? at this ⊢
  rw [hb]
  exact this

end Go.Proofs.YtmniefmjdfdedaaGreatDoor
