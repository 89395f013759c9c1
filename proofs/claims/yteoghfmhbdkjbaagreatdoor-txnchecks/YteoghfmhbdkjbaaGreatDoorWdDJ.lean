/- WideRequests and WideRequest of lagoonref00: requests of their own, each list with marks behind it. -/
import Derived.Test.YteoghfmhbdkjbaaGreatDoorWdCJ
import Derived.Test.YteoghfmhbdkjbaaGreatDoorWdUJ
import Derived.Maps.AppendAt
namespace Go.Proofs.YteoghfmhbdkjbaaGreatDoor
open Go.RowKit Go.Shelf
set_option maxRecDepth 8000

/-- Eleven places of a list stored over. -/
theorem set11 (fl : List Value) (k : Nat) (hl : k * 11 + 11 ≤ fl.length) (c0 c1 c2 c3 c4 c5 c6 c7 c8 c9 c10 : Value) :
    (∀ i j, i ≠ k → j < 11 → (((((((((((fl.set (k * 11) (c0)).set (k * 11 + 1) (c1)).set (k * 11 + 2) (c2)).set (k * 11 + 3) (c3)).set (k * 11 + 4) (c4)).set (k * 11 + 5) (c5)).set (k * 11 + 6) (c6)).set (k * 11 + 7) (c7)).set (k * 11 + 8) (c8)).set (k * 11 + 9) (c9)).set (k * 11 + 10) (c10))[i * 11 + j]? = fl[i * 11 + j]?) ∧ ∀ j, j < 11 → (((((((((((fl.set (k * 11) (c0)).set (k * 11 + 1) (c1)).set (k * 11 + 2) (c2)).set (k * 11 + 3) (c3)).set (k * 11 + 4) (c4)).set (k * 11 + 5) (c5)).set (k * 11 + 6) (c6)).set (k * 11 + 7) (c7)).set (k * 11 + 8) (c8)).set (k * 11 + 9) (c9)).set (k * 11 + 10) (c10))[k * 11 + j]? = some (([c0, c1, c2, c3, c4, c5, c6, c7, c8, c9, c10] : List Value).getD j (.bool false)) := by
  refine ⟨fun i j hi hj => ?_, fun j hj => ?_⟩
  · rw [List.getElem?_set_ne (by omega), List.getElem?_set_ne (by omega), List.getElem?_set_ne (by omega), List.getElem?_set_ne (by omega), List.getElem?_set_ne (by omega), List.getElem?_set_ne (by omega), List.getElem?_set_ne (by omega), List.getElem?_set_ne (by omega), List.getElem?_set_ne (by omega), List.getElem?_set_ne (by omega), List.getElem?_set_ne (by omega)]
  · rcases (show j = 0 ∨ j = 1 ∨ j = 2 ∨ j = 3 ∨ j = 4 ∨ j = 5 ∨ j = 6 ∨ j = 7 ∨ j = 8 ∨ j = 9 ∨ j = 10 by omega) with rfl | rfl | rfl | rfl | rfl | rfl | rfl | rfl | rfl | rfl | rfl
    · simp only [Nat.add_zero]; rw [List.getElem?_set_ne (by omega), List.getElem?_set_ne (by omega), List.getElem?_set_ne (by omega), List.getElem?_set_ne (by omega), List.getElem?_set_ne (by omega), List.getElem?_set_ne (by omega), List.getElem?_set_ne (by omega), List.getElem?_set_ne (by omega), List.getElem?_set_ne (by omega), List.getElem?_set_ne (by omega), List.getElem?_set_self (by first | omega | (simp only [List.length_set]; omega))]; rfl
    · rw [List.getElem?_set_ne (by omega), List.getElem?_set_ne (by omega), List.getElem?_set_ne (by omega), List.getElem?_set_ne (by omega), List.getElem?_set_ne (by omega), List.getElem?_set_ne (by omega), List.getElem?_set_ne (by omega), List.getElem?_set_ne (by omega), List.getElem?_set_ne (by omega), List.getElem?_set_self (by first | omega | (simp only [List.length_set]; omega))]; rfl
    · rw [List.getElem?_set_ne (by omega), List.getElem?_set_ne (by omega), List.getElem?_set_ne (by omega), List.getElem?_set_ne (by omega), List.getElem?_set_ne (by omega), List.getElem?_set_ne (by omega), List.getElem?_set_ne (by omega), List.getElem?_set_ne (by omega), List.getElem?_set_self (by first | omega | (simp only [List.length_set]; omega))]; rfl
    · rw [List.getElem?_set_ne (by omega), List.getElem?_set_ne (by omega), List.getElem?_set_ne (by omega), List.getElem?_set_ne (by omega), List.getElem?_set_ne (by omega), List.getElem?_set_ne (by omega), List.getElem?_set_ne (by omega), List.getElem?_set_self (by first | omega | (simp only [List.length_set]; omega))]; rfl
    · rw [List.getElem?_set_ne (by omega), List.getElem?_set_ne (by omega), List.getElem?_set_ne (by omega), List.getElem?_set_ne (by omega), List.getElem?_set_ne (by omega), List.getElem?_set_ne (by omega), List.getElem?_set_self (by first | omega | (simp only [List.length_set]; omega))]; rfl
    · rw [List.getElem?_set_ne (by omega), List.getElem?_set_ne (by omega), List.getElem?_set_ne (by omega), List.getElem?_set_ne (by omega), List.getElem?_set_ne (by omega), List.getElem?_set_self (by first | omega | (simp only [List.length_set]; omega))]; rfl
    · rw [List.getElem?_set_ne (by omega), List.getElem?_set_ne (by omega), List.getElem?_set_ne (by omega), List.getElem?_set_ne (by omega), List.getElem?_set_self (by first | omega | (simp only [List.length_set]; omega))]; rfl
    · rw [List.getElem?_set_ne (by omega), List.getElem?_set_ne (by omega), List.getElem?_set_ne (by omega), List.getElem?_set_self (by first | omega | (simp only [List.length_set]; omega))]; rfl
    · rw [List.getElem?_set_ne (by omega), List.getElem?_set_ne (by omega), List.getElem?_set_self (by first | omega | (simp only [List.length_set]; omega))]; rfl
    · rw [List.getElem?_set_ne (by omega), List.getElem?_set_self (by first | omega | (simp only [List.length_set]; omega))]; rfl
    · rw [List.getElem?_set_self (by first | omega | (simp only [List.length_set]; omega))]; rfl

/-- The same in memory. -/
theorem own11 {w : World} {g N k : Nat} {t : TypeId} {fl : List Value} (h : w.ownsRow g t 11 (.slice (some ⟨g, 0, none⟩) N N) N fl) (c0 c1 c2 c3 c4 c5 c6 c7 c8 c9 c10 : Value) :
    (((((((((((w.setCell ⟨g, k * 11, none⟩ (c0)).setCell ⟨g, k * 11 + 1, none⟩ (c1)).setCell ⟨g, k * 11 + 2, none⟩ (c2)).setCell ⟨g, k * 11 + 3, none⟩ (c3)).setCell ⟨g, k * 11 + 4, none⟩ (c4)).setCell ⟨g, k * 11 + 5, none⟩ (c5)).setCell ⟨g, k * 11 + 6, none⟩ (c6)).setCell ⟨g, k * 11 + 7, none⟩ (c7)).setCell ⟨g, k * 11 + 8, none⟩ (c8)).setCell ⟨g, k * 11 + 9, none⟩ (c9)).setCell ⟨g, k * 11 + 10, none⟩ (c10)).ownsRow g t 11 (.slice (some ⟨g, 0, none⟩) N N) N (((((((((((fl.set (k * 11) (c0)).set (k * 11 + 1) (c1)).set (k * 11 + 2) (c2)).set (k * 11 + 3) (c3)).set (k * 11 + 4) (c4)).set (k * 11 + 5) (c5)).set (k * 11 + 6) (c6)).set (k * 11 + 7) (c7)).set (k * 11 + 8) (c8)).set (k * 11 + 9) (c9)).set (k * 11 + 10) (c10)) ∧ Kept w (((((((((((w.setCell ⟨g, k * 11, none⟩ (c0)).setCell ⟨g, k * 11 + 1, none⟩ (c1)).setCell ⟨g, k * 11 + 2, none⟩ (c2)).setCell ⟨g, k * 11 + 3, none⟩ (c3)).setCell ⟨g, k * 11 + 4, none⟩ (c4)).setCell ⟨g, k * 11 + 5, none⟩ (c5)).setCell ⟨g, k * 11 + 6, none⟩ (c6)).setCell ⟨g, k * 11 + 7, none⟩ (c7)).setCell ⟨g, k * 11 + 8, none⟩ (c8)).setCell ⟨g, k * 11 + 9, none⟩ (c9)).setCell ⟨g, k * 11 + 10, none⟩ (c10)) (fun q => q = g) := by
  refine ⟨?_, ?_⟩
  · exact (((((((((((h.stored (k * 11) c0).1.stored (k * 11 + 1) c1).1.stored (k * 11 + 2) c2).1.stored (k * 11 + 3) c3).1.stored (k * 11 + 4) c4).1.stored (k * 11 + 5) c5).1.stored (k * 11 + 6) c6).1.stored (k * 11 + 7) c7).1.stored (k * 11 + 8) c8).1.stored (k * 11 + 9) c9).1.stored (k * 11 + 10) c10).1
  · exact (((((((((((Kept.refl w (fun q => q = g)).setCell ⟨g, k * 11, none⟩ c0 (fun _ => rfl)).setCell ⟨g, k * 11 + 1, none⟩ c1 (fun _ => rfl)).setCell ⟨g, k * 11 + 2, none⟩ c2 (fun _ => rfl)).setCell ⟨g, k * 11 + 3, none⟩ c3 (fun _ => rfl)).setCell ⟨g, k * 11 + 4, none⟩ c4 (fun _ => rfl)).setCell ⟨g, k * 11 + 5, none⟩ c5 (fun _ => rfl)).setCell ⟨g, k * 11 + 6, none⟩ c6 (fun _ => rfl)).setCell ⟨g, k * 11 + 7, none⟩ c7 (fun _ => rfl)).setCell ⟨g, k * 11 + 8, none⟩ c8 (fun _ => rfl)).setCell ⟨g, k * 11 + 9, none⟩ c9 (fun _ => rfl)).setCell ⟨g, k * 11 + 10, none⟩ c10 (fun _ => rfl)

/-- What stands after k rounds. -/
def WrI (w wr : World) (g n : Nat) (ops : Fin n → Rq) (k : Nat) : Prop :=
  Below g w wr ∧ ∃ (fl : List Value) (E : Nat → List Value), wr.ownsRow g 33 11 (.slice (some ⟨g, 0, none⟩) (n + 64) (n + 64)) (n + 64) fl ∧ (∀ i, i < k → i < n + 64 → ∀ j, j < 11 → fl[i * 11 + j]? = some ((E i).getD j (.bool false))) ∧
    (∀ i (hi : i < n), i < k → WidQ wr (fun q => g < q ∧ q < wr.heap.size) (E i) (ops ⟨i, hi⟩)) ∧ ∀ i, n ≤ i → i < k → E i = rqMark i

/-- A round: the next element is laid. -/
theorem WrI_step {w wr w5 : World} {g n k : Nat} {ops : Fin n → Rq} {c0 c1 c2 c3 c4 c5 c6 c7 c8 c9 c10 : Value} (hg : g < wr.heap.size) (h : WrI w wr g n ops k) (hk : k < n + 64) (b5 : Below wr.heap.size wr w5)
    (hq : ∀ hi : k < n, WidQ w5 (fun q => wr.heap.size ≤ q ∧ q < w5.heap.size) [c0, c1, c2, c3, c4, c5, c6, c7, c8, c9, c10] (ops ⟨k, hi⟩)) (hm : n ≤ k → [c0, c1, c2, c3, c4, c5, c6, c7, c8, c9, c10] = rqMark k) :
    WrI w (((((((((((w5.setCell ⟨g, k * 11, none⟩ (c0)).setCell ⟨g, k * 11 + 1, none⟩ (c1)).setCell ⟨g, k * 11 + 2, none⟩ (c2)).setCell ⟨g, k * 11 + 3, none⟩ (c3)).setCell ⟨g, k * 11 + 4, none⟩ (c4)).setCell ⟨g, k * 11 + 5, none⟩ (c5)).setCell ⟨g, k * 11 + 6, none⟩ (c6)).setCell ⟨g, k * 11 + 7, none⟩ (c7)).setCell ⟨g, k * 11 + 8, none⟩ (c8)).setCell ⟨g, k * 11 + 9, none⟩ (c9)).setCell ⟨g, k * 11 + 10, none⟩ (c10)) g n ops (k + 1) := by
  obtain ⟨hb, fl, E, h1, h2, h3, h4⟩ := h
  have h1' := ownsRow_kept h1 (Below.kept b5) (fun q hq e => by cases hq; exact absurd (show wr.heap.size ≤ g from e) (by omega))
  obtain ⟨o1, o2⟩ := own11 (k := k) h1' c0 c1 c2 c3 c4 c5 c6 c7 c8 c9 c10
  have hfl : fl.length = (n + 64) * 11 := h1.1
  obtain ⟨s1, s2⟩ := set11 fl k (by omega) c0 c1 c2 c3 c4 c5 c6 c7 c8 c9 c10
  have hs5 := b5.size
  have hs6 := o2.size
  refine ⟨(hb.trans (b5.mono (Nat.le_of_lt hg))).trans (o2.below (Nat.le_trans (Nat.le_of_lt hg) b5.size) (fun q e => by omega)), _, fun i => if i = k then [c0, c1, c2, c3, c4, c5, c6, c7, c8, c9, c10] else E i, o1, fun i hi hn j hj => ?_, fun i hi hk' => ?_, fun i hi hk' => ?_⟩
  · dsimp only
    by_cases e : i = k
    · subst e
      rw [if_pos rfl]
      exact s2 j hj
    · rw [if_neg e, s1 i j e hj]
      exact h2 i (by omega) hn j hj
  · dsimp only
    by_cases e : i = k
    · subst e
      rw [if_pos rfl]
      exact WidQ.kept o2 (fun q hq => ⟨fun e => by omega, by omega, by omega⟩) (hq hi)
    · rw [if_neg e]
      exact WidQ.kept o2 (fun q hq => ⟨fun e => by omega, hq⟩) (WidQ.kept (Below.kept b5) (fun q hq => ⟨fun e => by omega, hq.1, (by omega : q < _)⟩) (h3 i hi (by omega)))
  · dsimp only
    by_cases e : i = k
    · subst e
      rw [if_pos rfl]
      exact hm hi
    · rw [if_neg e]
      exact h4 i hi (by omega)

end Go.Proofs.YteoghfmhbdkjbaaGreatDoor
