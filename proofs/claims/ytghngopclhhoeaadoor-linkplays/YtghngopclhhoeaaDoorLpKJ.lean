/- Lists of messages that lie apart, filled with marks message by message: what holds of them. -/
import Derived.Test.YtghngopclhhoeaaDoorBgErJ
namespace Go.Proofs.YtghngopclhhoeaaDoor
open Go.RowKit
set_option maxRecDepth 8000
set_option linter.unusedVariables false

/-- The first i lists are filled, of the next one the first t. -/
def Fm (w wr : World) (T : TypeId) (z q : Nat) (rs : List Rw) (s : Nat → ByteArray) (i t : Nat) (Xs : Nat → List Value) : Prop :=
  RowsR wr T z rs Xs ∧ (∀ j (hj : j < rs.length), j < i → MkO wr z q rs[j].n (s j) (Xs j)) ∧ MkO wr z q t (s i) (Xs i) ∧ Kept w wr (BlkR rs)

theorem Fm.start {w : World} {T : TypeId} {z q : Nat} {rs : List Rw} {s : Nat → ByteArray} {Xs : Nat → List Value} (h : RowsR w T z rs Xs) : Fm w w T z q rs s 0 0 Xs :=
  ⟨h, fun j _ hj => by omega, fun k hk => by omega, Kept.refl _ _⟩

theorem Fm.next {w wr w1 : World} {T : TypeId} {z q i t : Nat} {rs : List Rw} {s : Nat → ByteArray} {Xs : Nat → List Value} (h : Fm w wr T z q rs s i t Xs) (hk : Kept wr w1 (fun _ => False)) : Fm w w1 T z q rs s i t Xs :=
  ⟨fun j hj => row_kept (h.1 j hj) hk (fun _ _ h => h), fun j hj hji => (h.2.1 j hj hji).kept hk (fun _ h => h), h.2.2.1.kept hk (fun _ h => h), h.2.2.2.trans hk (fun _ _ h => h.elim)⟩

theorem Fm.turn {w wr : World} {T : TypeId} {z q i t : Nat} {rs : List Rw} {s : Nat → ByteArray} {Xs : Nat → List Value} (h : Fm w wr T z q rs s i t Xs) (hi : i < rs.length) (ht : rs[i].n ≤ t) : Fm w wr T z q rs s (i + 1) 0 Xs := by
  refine ⟨h.1, fun j hj hji => ?_, fun k hk => by omega, h.2.2.2⟩
  by_cases hj2 : j < i
  · exact h.2.1 j hj hj2
  · obtain rfl : j = i := by omega
    exact fun k hk => h.2.2.1 k (by omega)

theorem Fm.store {w wr w' : World} {T : TypeId} {z q i t g : Nat} {rs : List Rw} {s : Nat → ByteArray} {Xs : Nat → List Value} {xs' : List Value} (h : Fm w wr T z q rs s i t Xs) (hT : T ≠ 5) (hap : ApartR rs) (hi : i < rs.length) (hb : rs[i].v.ownBlock = some g) (ho : w'.ownsRow 0 T z rs[i].v rs[i].n xs') (hg : wr.grownBy w' (some g)) (hm : MkO w' z q (t + 1) (s i) xs') :
    Fm w w' T z q rs s i (t + 1) (fun j => if j = i then xs' else Xs j) := by
  refine ⟨fun j hj => ?_, fun j hj hji => ?_, ?_, ?_⟩
  · by_cases hji : j = i
    · subst hji
      simp only [if_pos]
      exact ho
    · simp only [if_neg hji]
      exact row_other (h.1 j hj) hg (fun g2 h2 e => by cases e; exact hap j i hj hi hji g h2 hb)
  · simp only [if_neg (show j ≠ i by omega)]
    exact (h.2.1 j hj hji).grown hg (fun g2 e => by cases e; exact row_type (h.1 i hi) hb) hT
  · simp only [if_pos]
    exact hm
  · exact h.2.2.2.trans ⟨hg.os, hg.tape, hg.output, hg.size, fun k hk hne => hg.block k hk (fun e => hne (by cases e; exact ⟨i, hi, hb⟩))⟩ (fun _ _ h => h)

/-- One more message is stored, cell by cell. -/
theorem MkO.stored {W W' : World} {T : TypeId} {g k : Nat} {s : ByteArray} {xs : List Value} {c0 c1 sv c3 : Value} (h : MkO W 4 2 k s xs) (hg : W.grownBy W' (some g)) (hb : ∃ cs, W.heap[g]? = some (.cells cs T (0, 0))) (hT : T ≠ 5) (hl : k * 4 + 3 < xs.length) (hsv : MarkAt W sv s) :
    MkO W' 4 2 (k + 1) s ((((xs.set (k * 4) c0).set (k * 4 + 1) c1).set (k * 4 + 2) sv).set (k * 4 + 3) c3) := fun j hj => by
  have hkp : ∀ v, MarkAt W v s → MarkAt W' v s := fun v hv => hv.kept (S := fun k => some g = some k) ⟨hg.os, hg.tape, hg.output, hg.size, fun k hk hne => hg.block k hk (fun e => hne e.symm)⟩ (fun g2 h2 e => by
    cases e
    obtain ⟨cs, e1⟩ := hb
    obtain ⟨cs2, fr, e2⟩ := hv.type h2
    rw [e1] at e2
    simp at e2
    exact hT e2.2.1)
  by_cases hjk : j < k
  · obtain ⟨v, h1, h2⟩ := h j hjk
    refine ⟨v, ?_, hkp v h2⟩
    rw [List.getElem?_set_ne (by omega), List.getElem?_set_ne (by omega), List.getElem?_set_ne (by omega), List.getElem?_set_ne (by omega)]
    exact h1
  · obtain rfl : j = k := by omega
    refine ⟨sv, ?_, hkp sv hsv⟩
    rw [List.getElem?_set_ne (by omega), List.getElem?_set_self (by simp; omega)]

end Go.Proofs.YtghngopclhhoeaaDoor
