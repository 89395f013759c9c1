/- A row of sixteen cells stored over; what stands while transactions are made wide. No Go function is walked here. -/
import Derived.Test.YtobnggkgpenmfaaGreatDoorWdHJ
import Derived.Test.YtobnggkgpenmfaaGreatDoorLargeTJ
import Derived.Test.YtobnggkgpenmfaaGreatDoorCopyXJ
import Derived.Test.YtobnggkgpenmfaaGreatDoorRisesTJ
namespace Go.Proofs.YtobnggkgpenmfaaGreatDoor
open Go.RowKit Go.Shelf
set_option maxRecDepth 8000

/-- Sixteen places of a list stored over. -/
theorem set16 (fl : List Value) (k : Nat) (hl : k * 16 + 16 ≤ fl.length) (c0 c1 c2 c3 c4 c5 c6 c7 c8 c9 c10 c11 c12 c13 c14 c15 : Value) :
    (∀ i j, i ≠ k → j < 16 → ((((((((((((((((fl.set (k * 16) (c0)).set (k * 16 + 1) (c1)).set (k * 16 + 2) (c2)).set (k * 16 + 3) (c3)).set (k * 16 + 4) (c4)).set (k * 16 + 5) (c5)).set (k * 16 + 6) (c6)).set (k * 16 + 7) (c7)).set (k * 16 + 8) (c8)).set (k * 16 + 9) (c9)).set (k * 16 + 10) (c10)).set (k * 16 + 11) (c11)).set (k * 16 + 12) (c12)).set (k * 16 + 13) (c13)).set (k * 16 + 14) (c14)).set (k * 16 + 15) (c15))[i * 16 + j]? = fl[i * 16 + j]?) ∧ ∀ j, j < 16 → ((((((((((((((((fl.set (k * 16) (c0)).set (k * 16 + 1) (c1)).set (k * 16 + 2) (c2)).set (k * 16 + 3) (c3)).set (k * 16 + 4) (c4)).set (k * 16 + 5) (c5)).set (k * 16 + 6) (c6)).set (k * 16 + 7) (c7)).set (k * 16 + 8) (c8)).set (k * 16 + 9) (c9)).set (k * 16 + 10) (c10)).set (k * 16 + 11) (c11)).set (k * 16 + 12) (c12)).set (k * 16 + 13) (c13)).set (k * 16 + 14) (c14)).set (k * 16 + 15) (c15))[k * 16 + j]? = some (([c0, c1, c2, c3, c4, c5, c6, c7, c8, c9, c10, c11, c12, c13, c14, c15] : List Value).getD j (.bool false)) := by
  refine ⟨fun i j hi hj => ?_, fun j hj => ?_⟩
  · rw [List.getElem?_set_ne (by omega), List.getElem?_set_ne (by omega), List.getElem?_set_ne (by omega), List.getElem?_set_ne (by omega), List.getElem?_set_ne (by omega), List.getElem?_set_ne (by omega), List.getElem?_set_ne (by omega), List.getElem?_set_ne (by omega), List.getElem?_set_ne (by omega), List.getElem?_set_ne (by omega), List.getElem?_set_ne (by omega), List.getElem?_set_ne (by omega), List.getElem?_set_ne (by omega), List.getElem?_set_ne (by omega), List.getElem?_set_ne (by omega), List.getElem?_set_ne (by omega)]
  · rcases (show j = 0 ∨ j = 1 ∨ j = 2 ∨ j = 3 ∨ j = 4 ∨ j = 5 ∨ j = 6 ∨ j = 7 ∨ j = 8 ∨ j = 9 ∨ j = 10 ∨ j = 11 ∨ j = 12 ∨ j = 13 ∨ j = 14 ∨ j = 15 by omega) with rfl | rfl | rfl | rfl | rfl | rfl | rfl | rfl | rfl | rfl | rfl | rfl | rfl | rfl | rfl | rfl
    · simp only [Nat.add_zero]; rw [List.getElem?_set_ne (by omega), List.getElem?_set_ne (by omega), List.getElem?_set_ne (by omega), List.getElem?_set_ne (by omega), List.getElem?_set_ne (by omega), List.getElem?_set_ne (by omega), List.getElem?_set_ne (by omega), List.getElem?_set_ne (by omega), List.getElem?_set_ne (by omega), List.getElem?_set_ne (by omega), List.getElem?_set_ne (by omega), List.getElem?_set_ne (by omega), List.getElem?_set_ne (by omega), List.getElem?_set_ne (by omega), List.getElem?_set_ne (by omega), List.getElem?_set_self (by first | omega | (simp only [List.length_set]; omega))]; rfl
    · rw [List.getElem?_set_ne (by omega), List.getElem?_set_ne (by omega), List.getElem?_set_ne (by omega), List.getElem?_set_ne (by omega), List.getElem?_set_ne (by omega), List.getElem?_set_ne (by omega), List.getElem?_set_ne (by omega), List.getElem?_set_ne (by omega), List.getElem?_set_ne (by omega), List.getElem?_set_ne (by omega), List.getElem?_set_ne (by omega), List.getElem?_set_ne (by omega), List.getElem?_set_ne (by omega), List.getElem?_set_ne (by omega), List.getElem?_set_self (by first | omega | (simp only [List.length_set]; omega))]; rfl
    · rw [List.getElem?_set_ne (by omega), List.getElem?_set_ne (by omega), List.getElem?_set_ne (by omega), List.getElem?_set_ne (by omega), List.getElem?_set_ne (by omega), List.getElem?_set_ne (by omega), List.getElem?_set_ne (by omega), List.getElem?_set_ne (by omega), List.getElem?_set_ne (by omega), List.getElem?_set_ne (by omega), List.getElem?_set_ne (by omega), List.getElem?_set_ne (by omega), List.getElem?_set_ne (by omega), List.getElem?_set_self (by first | omega | (simp only [List.length_set]; omega))]; rfl
    · rw [List.getElem?_set_ne (by omega), List.getElem?_set_ne (by omega), List.getElem?_set_ne (by omega), List.getElem?_set_ne (by omega), List.getElem?_set_ne (by omega), List.getElem?_set_ne (by omega), List.getElem?_set_ne (by omega), List.getElem?_set_ne (by omega), List.getElem?_set_ne (by omega), List.getElem?_set_ne (by omega), List.getElem?_set_ne (by omega), List.getElem?_set_ne (by omega), List.getElem?_set_self (by first | omega | (simp only [List.length_set]; omega))]; rfl
    · rw [List.getElem?_set_ne (by omega), List.getElem?_set_ne (by omega), List.getElem?_set_ne (by omega), List.getElem?_set_ne (by omega), List.getElem?_set_ne (by omega), List.getElem?_set_ne (by omega), List.getElem?_set_ne (by omega), List.getElem?_set_ne (by omega), List.getElem?_set_ne (by omega), List.getElem?_set_ne (by omega), List.getElem?_set_ne (by omega), List.getElem?_set_self (by first | omega | (simp only [List.length_set]; omega))]; rfl
    · rw [List.getElem?_set_ne (by omega), List.getElem?_set_ne (by omega), List.getElem?_set_ne (by omega), List.getElem?_set_ne (by omega), List.getElem?_set_ne (by omega), List.getElem?_set_ne (by omega), List.getElem?_set_ne (by omega), List.getElem?_set_ne (by omega), List.getElem?_set_ne (by omega), List.getElem?_set_ne (by omega), List.getElem?_set_self (by first | omega | (simp only [List.length_set]; omega))]; rfl
    · rw [List.getElem?_set_ne (by omega), List.getElem?_set_ne (by omega), List.getElem?_set_ne (by omega), List.getElem?_set_ne (by omega), List.getElem?_set_ne (by omega), List.getElem?_set_ne (by omega), List.getElem?_set_ne (by omega), List.getElem?_set_ne (by omega), List.getElem?_set_ne (by omega), List.getElem?_set_self (by first | omega | (simp only [List.length_set]; omega))]; rfl
    · rw [List.getElem?_set_ne (by omega), List.getElem?_set_ne (by omega), List.getElem?_set_ne (by omega), List.getElem?_set_ne (by omega), List.getElem?_set_ne (by omega), List.getElem?_set_ne (by omega), List.getElem?_set_ne (by omega), List.getElem?_set_ne (by omega), List.getElem?_set_self (by first | omega | (simp only [List.length_set]; omega))]; rfl
    · rw [List.getElem?_set_ne (by omega), List.getElem?_set_ne (by omega), List.getElem?_set_ne (by omega), List.getElem?_set_ne (by omega), List.getElem?_set_ne (by omega), List.getElem?_set_ne (by omega), List.getElem?_set_ne (by omega), List.getElem?_set_self (by first | omega | (simp only [List.length_set]; omega))]; rfl
    · rw [List.getElem?_set_ne (by omega), List.getElem?_set_ne (by omega), List.getElem?_set_ne (by omega), List.getElem?_set_ne (by omega), List.getElem?_set_ne (by omega), List.getElem?_set_ne (by omega), List.getElem?_set_self (by first | omega | (simp only [List.length_set]; omega))]; rfl
    · rw [List.getElem?_set_ne (by omega), List.getElem?_set_ne (by omega), List.getElem?_set_ne (by omega), List.getElem?_set_ne (by omega), List.getElem?_set_ne (by omega), List.getElem?_set_self (by first | omega | (simp only [List.length_set]; omega))]; rfl
    · rw [List.getElem?_set_ne (by omega), List.getElem?_set_ne (by omega), List.getElem?_set_ne (by omega), List.getElem?_set_ne (by omega), List.getElem?_set_self (by first | omega | (simp only [List.length_set]; omega))]; rfl
    · rw [List.getElem?_set_ne (by omega), List.getElem?_set_ne (by omega), List.getElem?_set_ne (by omega), List.getElem?_set_self (by first | omega | (simp only [List.length_set]; omega))]; rfl
    · rw [List.getElem?_set_ne (by omega), List.getElem?_set_ne (by omega), List.getElem?_set_self (by first | omega | (simp only [List.length_set]; omega))]; rfl
    · rw [List.getElem?_set_ne (by omega), List.getElem?_set_self (by first | omega | (simp only [List.length_set]; omega))]; rfl
    · rw [List.getElem?_set_self (by first | omega | (simp only [List.length_set]; omega))]; rfl

/-- The same in memory. -/
theorem own16 {w : World} {g N k : Nat} {t : TypeId} {fl : List Value} (h : w.ownsRow g t 16 (.slice (some ⟨g, 0, none⟩) N N) N fl) (c0 c1 c2 c3 c4 c5 c6 c7 c8 c9 c10 c11 c12 c13 c14 c15 : Value) :
    ((((((((((((((((w.setCell ⟨g, k * 16, none⟩ (c0)).setCell ⟨g, k * 16 + 1, none⟩ (c1)).setCell ⟨g, k * 16 + 2, none⟩ (c2)).setCell ⟨g, k * 16 + 3, none⟩ (c3)).setCell ⟨g, k * 16 + 4, none⟩ (c4)).setCell ⟨g, k * 16 + 5, none⟩ (c5)).setCell ⟨g, k * 16 + 6, none⟩ (c6)).setCell ⟨g, k * 16 + 7, none⟩ (c7)).setCell ⟨g, k * 16 + 8, none⟩ (c8)).setCell ⟨g, k * 16 + 9, none⟩ (c9)).setCell ⟨g, k * 16 + 10, none⟩ (c10)).setCell ⟨g, k * 16 + 11, none⟩ (c11)).setCell ⟨g, k * 16 + 12, none⟩ (c12)).setCell ⟨g, k * 16 + 13, none⟩ (c13)).setCell ⟨g, k * 16 + 14, none⟩ (c14)).setCell ⟨g, k * 16 + 15, none⟩ (c15)).ownsRow g t 16 (.slice (some ⟨g, 0, none⟩) N N) N ((((((((((((((((fl.set (k * 16) (c0)).set (k * 16 + 1) (c1)).set (k * 16 + 2) (c2)).set (k * 16 + 3) (c3)).set (k * 16 + 4) (c4)).set (k * 16 + 5) (c5)).set (k * 16 + 6) (c6)).set (k * 16 + 7) (c7)).set (k * 16 + 8) (c8)).set (k * 16 + 9) (c9)).set (k * 16 + 10) (c10)).set (k * 16 + 11) (c11)).set (k * 16 + 12) (c12)).set (k * 16 + 13) (c13)).set (k * 16 + 14) (c14)).set (k * 16 + 15) (c15)) ∧ Kept w ((((((((((((((((w.setCell ⟨g, k * 16, none⟩ (c0)).setCell ⟨g, k * 16 + 1, none⟩ (c1)).setCell ⟨g, k * 16 + 2, none⟩ (c2)).setCell ⟨g, k * 16 + 3, none⟩ (c3)).setCell ⟨g, k * 16 + 4, none⟩ (c4)).setCell ⟨g, k * 16 + 5, none⟩ (c5)).setCell ⟨g, k * 16 + 6, none⟩ (c6)).setCell ⟨g, k * 16 + 7, none⟩ (c7)).setCell ⟨g, k * 16 + 8, none⟩ (c8)).setCell ⟨g, k * 16 + 9, none⟩ (c9)).setCell ⟨g, k * 16 + 10, none⟩ (c10)).setCell ⟨g, k * 16 + 11, none⟩ (c11)).setCell ⟨g, k * 16 + 12, none⟩ (c12)).setCell ⟨g, k * 16 + 13, none⟩ (c13)).setCell ⟨g, k * 16 + 14, none⟩ (c14)).setCell ⟨g, k * 16 + 15, none⟩ (c15)) (fun q => q = g) := by
  refine ⟨?_, ?_⟩
  · exact ((((((((((((((((h.stored (k * 16) c0).1.stored (k * 16 + 1) c1).1.stored (k * 16 + 2) c2).1.stored (k * 16 + 3) c3).1.stored (k * 16 + 4) c4).1.stored (k * 16 + 5) c5).1.stored (k * 16 + 6) c6).1.stored (k * 16 + 7) c7).1.stored (k * 16 + 8) c8).1.stored (k * 16 + 9) c9).1.stored (k * 16 + 10) c10).1.stored (k * 16 + 11) c11).1.stored (k * 16 + 12) c12).1.stored (k * 16 + 13) c13).1.stored (k * 16 + 14) c14).1.stored (k * 16 + 15) c15).1
  · exact ((((((((((((((((Kept.refl w (fun q => q = g)).setCell ⟨g, k * 16, none⟩ c0 (fun _ => rfl)).setCell ⟨g, k * 16 + 1, none⟩ c1 (fun _ => rfl)).setCell ⟨g, k * 16 + 2, none⟩ c2 (fun _ => rfl)).setCell ⟨g, k * 16 + 3, none⟩ c3 (fun _ => rfl)).setCell ⟨g, k * 16 + 4, none⟩ c4 (fun _ => rfl)).setCell ⟨g, k * 16 + 5, none⟩ c5 (fun _ => rfl)).setCell ⟨g, k * 16 + 6, none⟩ c6 (fun _ => rfl)).setCell ⟨g, k * 16 + 7, none⟩ c7 (fun _ => rfl)).setCell ⟨g, k * 16 + 8, none⟩ c8 (fun _ => rfl)).setCell ⟨g, k * 16 + 9, none⟩ c9 (fun _ => rfl)).setCell ⟨g, k * 16 + 10, none⟩ c10 (fun _ => rfl)).setCell ⟨g, k * 16 + 11, none⟩ c11 (fun _ => rfl)).setCell ⟨g, k * 16 + 12, none⟩ c12 (fun _ => rfl)).setCell ⟨g, k * 16 + 13, none⟩ c13 (fun _ => rfl)).setCell ⟨g, k * 16 + 14, none⟩ c14 (fun _ => rfl)).setCell ⟨g, k * 16 + 15, none⟩ c15 (fun _ => rfl)

/-- What a mark among transactions has. -/
def txMark (j : Nat) : List Value := [.int .u32 0, .int .u32 0, .int .i8 0, .int .u32 0, .int .i64 (-3000000 - (j : Int)), .int .i8 0, .string ⟨#[]⟩, .slice none 0 0, .slice none 0 0, .int .i32 0, .bool false, .bool false, .int .i64 0, .int .i32 0, .slice none 0 0, .slice none 0 0]

/-- A transaction's cells, its request wide. -/
def WidX (w : World) (F : Nat → Prop) (cs : List Value) (t : TxD) : Prop := ∃ rc, cs = txHead t ++ rc ∧ WidQ w F rc t.rq

theorem WidX.kept {w w' : World} {S F F' : Nat → Prop} (hk : Kept w w' S) (hF : ∀ k, F k → ¬ S k ∧ F' k) {cs : List Value} {t : TxD} (h : WidX w F cs t) : WidX w' F' cs t := by
  obtain ⟨rc, e, h⟩ := h
  exact ⟨rc, e, h.kept hk hF⟩

theorem WidX.sees {w : World} {F : Nat → Prop} {cs : List Value} {t : TxD} (h : WidX w F cs t) (hp : t.rq.parts ≤ 20000) : SeesTx w cs t := by
  obtain ⟨rc, e, h⟩ := h
  exact ⟨rc, e, h.sees hp⟩

/-- What stands after k rounds. -/
def WtI (w wr : World) (g : Nat) (l : List TxD) (k : Nat) : Prop :=
  Below g w wr ∧ ∃ (fl : List Value) (E : Nat → List Value), wr.ownsRow g 49 16 (.slice (some ⟨g, 0, none⟩) (l.length + 64) (l.length + 64)) (l.length + 64) fl ∧ (∀ i, i < k → i < l.length + 64 → ∀ j, j < 16 → fl[i * 16 + j]? = some ((E i).getD j (.bool false))) ∧
    (∀ i (hi : i < l.length), i < k → WidX wr (fun q => g < q ∧ q < wr.heap.size) (E i) l[i]) ∧ ∀ i, l.length ≤ i → i < k → E i = txMark i

/-- A round: the next element is laid. -/
theorem WtI_step {w wr w5 : World} {g k : Nat} {l : List TxD} {c0 c1 c2 c3 c4 c5 c6 c7 c8 c9 c10 c11 c12 c13 c14 c15 : Value} (hg : g < wr.heap.size) (h : WtI w wr g l k) (hk : k < l.length + 64) (b5 : Below wr.heap.size wr w5)
    (hq : ∀ hi : k < l.length, WidX w5 (fun q => wr.heap.size ≤ q ∧ q < w5.heap.size) [c0, c1, c2, c3, c4, c5, c6, c7, c8, c9, c10, c11, c12, c13, c14, c15] l[k]) (hm : l.length ≤ k → [c0, c1, c2, c3, c4, c5, c6, c7, c8, c9, c10, c11, c12, c13, c14, c15] = txMark k) :
    WtI w ((((((((((((((((w5.setCell ⟨g, k * 16, none⟩ (c0)).setCell ⟨g, k * 16 + 1, none⟩ (c1)).setCell ⟨g, k * 16 + 2, none⟩ (c2)).setCell ⟨g, k * 16 + 3, none⟩ (c3)).setCell ⟨g, k * 16 + 4, none⟩ (c4)).setCell ⟨g, k * 16 + 5, none⟩ (c5)).setCell ⟨g, k * 16 + 6, none⟩ (c6)).setCell ⟨g, k * 16 + 7, none⟩ (c7)).setCell ⟨g, k * 16 + 8, none⟩ (c8)).setCell ⟨g, k * 16 + 9, none⟩ (c9)).setCell ⟨g, k * 16 + 10, none⟩ (c10)).setCell ⟨g, k * 16 + 11, none⟩ (c11)).setCell ⟨g, k * 16 + 12, none⟩ (c12)).setCell ⟨g, k * 16 + 13, none⟩ (c13)).setCell ⟨g, k * 16 + 14, none⟩ (c14)).setCell ⟨g, k * 16 + 15, none⟩ (c15)) g l (k + 1) := by
  obtain ⟨hb, fl, E, h1, h2, h3, h4⟩ := h
  have h1' := ownsRow_kept h1 (Below.kept b5) (fun q hq e => by cases hq; exact absurd (show wr.heap.size ≤ g from e) (by omega))
  obtain ⟨o1, o2⟩ := own16 (k := k) h1' c0 c1 c2 c3 c4 c5 c6 c7 c8 c9 c10 c11 c12 c13 c14 c15
  have hfl : fl.length = (l.length + 64) * 16 := h1.1
  obtain ⟨s1, s2⟩ := set16 fl k (by omega) c0 c1 c2 c3 c4 c5 c6 c7 c8 c9 c10 c11 c12 c13 c14 c15
  have hs5 := b5.size
  have hs6 := o2.size
  refine ⟨(hb.trans (b5.mono (Nat.le_of_lt hg))).trans (o2.below (Nat.le_trans (Nat.le_of_lt hg) b5.size) (fun q e => by omega)), _, fun i => if i = k then [c0, c1, c2, c3, c4, c5, c6, c7, c8, c9, c10, c11, c12, c13, c14, c15] else E i, o1, fun i hi hn j hj => ?_, fun i hi hk' => ?_, fun i hi hk' => ?_⟩
  · dsimp only
    by_cases e : i = k
    · subst e
      rw [if_pos rfl]
      exact s2 j hj
    · rw [if_neg e, s1 i j e hj]
      exact h2 i (by omega) hn j hj
  · dsimp only
    by_cases e : i = k
    · subst e
      rw [if_pos rfl]
      exact WidX.kept o2 (fun q hq => ⟨fun e => by omega, by omega, by omega⟩) (hq hi)
    · rw [if_neg e]
      exact WidX.kept o2 (fun q hq => ⟨fun e => by omega, hq⟩) (WidX.kept (Below.kept b5) (fun q hq => ⟨fun e => by omega, hq.1, (by omega : q < _)⟩) (h3 i hi (by omega)))
  · dsimp only
    by_cases e : i = k
    · subst e
      rw [if_pos rfl]
      exact hm hi
    · rw [if_neg e]
      exact h4 i hi (by omega)

/-- Transactions with marks behind them, in block g. -/
def WidT (w : World) (g : Nat) (F : Nat → Prop) (l : List TxD) : Prop :=
  ∃ (fl : List Value) (E : Nat → List Value), w.ownsRow g 49 16 (.slice (some ⟨g, 0, none⟩) (l.length + 64) (l.length + 64)) (l.length + 64) fl ∧ (∀ i, i < l.length + 64 → ∀ j, j < 16 → fl[i * 16 + j]? = some ((E i).getD j (.bool false))) ∧
    (∀ i (hi : i < l.length), WidX w F (E i) l[i]) ∧ ∀ i, l.length ≤ i → i < l.length + 64 → E i = txMark i

theorem WidT.below {w w' : World} {g : Nat} {F : Nat → Prop} {l : List TxD} (h : WidT w g F l) (hF : ∀ k, F k → k < w.heap.size) (hb : Below w.heap.size w w') : WidT w' g F l := by
  obtain ⟨fl, E, h1, h2, h3, h4⟩ := h
  have hg : g < w.heap.size := (h1.lt g rfl).2
  exact ⟨fl, E, ownsRow_kept h1 (Below.kept hb) (fun q hq e => by cases hq; exact absurd (show w.heap.size ≤ g from e) (by omega)), h2, fun i hi => (h3 i hi).kept (Below.kept hb) (fun k hk => ⟨fun e => by have := hF k hk; omega, hk⟩), h4⟩

theorem WidT.at_ {w : World} {g : Nat} {F : Nat → Prop} {l : List TxD} (h : WidT w g F l) (i : Nat) (hi : i < l.length) : ∃ rc, WidQ w F rc l[i].rq ∧ ∀ j, j < 16 → w.cell? ⟨g, i * 16 + j, none⟩ = some ((txHead l[i] ++ rc).getD j (.bool false)) := by
  obtain ⟨fl, E, h1, h2, h3, h4⟩ := h
  obtain ⟨rc, e, hq⟩ := h3 i hi
  exact ⟨rc, hq, fun j hj => by rw [h1.cellAt _ (by omega), h2 i (by omega) j hj, e]⟩

theorem WidT.mark {w : World} {g : Nat} {F : Nat → Prop} {l : List TxD} (h : WidT w g F l) (i : Nat) (hi : l.length ≤ i) (hi' : i < l.length + 64) : w.cell? ⟨g, i * 16 + 4, none⟩ = some (.int .i64 (-3000000 - (i : Int))) := by
  obtain ⟨fl, E, h1, h2, h3, h4⟩ := h
  rw [h1.cellAt _ (by omega), h2 i hi' 4 (by omega), h4 i hi hi']
  rfl

theorem WidT.sees {w : World} {g : Nat} {F : Nat → Prop} {l : List TxD} (h : WidT w g F l) (hl : l.length ≤ 2000000000) (hp : ∀ t ∈ l, t.rq.parts ≤ 20000) : SeesTxs w (.slice (some ⟨g, 0, none⟩) l.length (l.length + 64)) l := by
  obtain ⟨fl, E, h1, h2, h3, h4⟩ := h
  refine ⟨List.ofFn fun i : Fin l.length => E i.1, ⟨_, l.length + 64, by rw [List.length_ofFn], by rw [List.length_ofFn]; omega, by unfold maxLen; omega, fun e => by simp at e, .inr ⟨g, 0, rfl, fun i hi j hj => ?_⟩⟩, by rw [List.length_ofFn], fun i hi hk => ?_⟩
  · rw [List.length_ofFn] at hi
    rw [Nat.zero_add, h1.cellAt _ (by omega), h2 i (by omega) j hj, List.getElem_ofFn]
  · rw [List.getElem_ofFn]
    exact (h3 i hk).sees (hp _ (List.getElem_mem hk))
end Go.Proofs.YtobnggkgpenmfaaGreatDoor

/- CopyTxns of lagoonref00: a list of its own with the same zxids. -/
namespace Go.Proofs.YtobnggkgpenmfaaGreatDoor
open Go.RowKit
set_option maxRecDepth 8000

theorem Tryz.infoTx : (Tryz.prog.info? 49).map (fun i => (i.zero, i.size, i.bytes)) = some (some (.agg #[.int .u32 0, .int .u32 0, .int .i8 0, .int .u32 0, .int .i64 0, .int .i8 0, .string ⟨#[]⟩, .slice none 0 0, .slice none 0 0, .int .i32 0, .bool false, .bool false, .int .i64 0, .int .i32 0, .slice none 0 0, .slice none 0 0]), 16, 168) := by kernel_rfl

/-- Cells of copies: the heads as they were, and requests behind them. -/
def Heads (es : List (List Value)) (l : List TxD) : Prop := es.length = l.length ∧ ∀ j (hj : j < es.length) (hl : j < l.length), ∃ rc, es[j] = txHead l[j] ++ rc ∧ ∃ W r, SeesRq W rc r

theorem Heads.nil : Heads [] [] := ⟨rfl, fun j hj => by simp at hj⟩
theorem Heads.snoc {es : List (List Value)} {l : List TxD} (h : Heads es l) {t : TxD} {rc : List Value} (hr : ∃ W r, SeesRq W rc r) : Heads (es ++ [txHead t ++ rc]) (l ++ [t]) := by
  refine ⟨by simp [h.1], fun j hj hl => ?_⟩
  by_cases hjk : j < es.length
  · rw [List.getElem_append_left hjk, List.getElem_append_left (by rw [← h.1]; exact hjk)]
    exact h.2 j hjk (by rw [← h.1]; exact hjk)
  · have e : j = es.length := by simp at hj; omega
    subst e
    refine ⟨rc, ?_, hr⟩
    rw [List.getElem_append_right (by omega)]
    have : (l ++ [t])[es.length] = t := by
      rw [List.getElem_append_right (by rw [h.1]; omega)]
      simp [h.1]
    rw [this]
    simp

theorem zs_own {w : World} {base : Nat} {v : Value} {es : List (List Value)} {l : List TxD} (hh : Heads es l) (h : w.ownsRow base 49 16 v l.length es.flatten) : SeesZs w v l := by
  have hz : ∀ c ∈ es, c.length = 16 := fun c hc => by
    obtain ⟨j, hj, rfl⟩ := List.getElem_of_mem hc
    obtain ⟨rc, e, W, r, hr⟩ := hh.2 j hj (by rw [← hh.1]; exact hj)
    rw [e]
    simp [txHead, hr.len]
  have hs : SeesR w v 16 es := seesR_own (base := base) (t := 49) (by rw [hh.1]; exact h) hz
  obtain ⟨ao, cap, rfl, h1, h2, h0, h3⟩ := hs
  refine ⟨⟨ao, cap, by rw [hh.1], by rw [← hh.1]; exact h1, h2⟩, fun k hk => ?_⟩
  rcases h3 with h3 | ⟨b, off, rfl, h3⟩
  · have : es.length = 0 := by rw [h3]; rfl
    have := hh.1
    omega
  · have hk' : k < es.length := by rw [hh.1]; exact hk
    obtain ⟨rc, e, hr⟩ := hh.2 k hk' hk
    exact ⟨b, off, cap, rc, by rw [hh.1], hr, fun j hj => by rw [h3 k hk' j hj, e]⟩

set_option maxHeartbeats 4000000 in
theorem copyTxns_any (v : Value) (l : List TxD) (w : World) (h : SeesTxs w v l) (hl : l.length ≤ 1000000) (hp : ∀ t ∈ l, t.rq.parts ≤ 20000) :
    Calls Tryz.prog 12 #[v] w fun e w' => ∃ v', e = .returned v' ∧ SeesZs w' v' l ∧ Below w.heap.size w w' := by
  obtain ⟨ao, cap, rfl, hlc, hcm⟩ := txs_shape h
  have H : Hid (SeesTxs w (.slice ao l.length cap) l ∧ ∀ t ∈ l, t.rq.parts ≤ 20000) := ⟨h, hp⟩
  unfold maxLen at hcm
  clear h hp
  obtain ⟨i0, hi, hz0, hz1, hz2⟩ := info_parts Tryz.infoTx
  go_enter Tryz.func12, Tryz.ntmps12
  go_wp2_with fail
  go_loopw [3, 4] (fun v i wr => ∃ (k : Nat) (es : List (List Value)), k ≤ l.length ∧ i = .int .i64 k ∧ Heads es (l.take k) ∧ wr.ownsRow w.heap.size 49 16 v k es.flatten ∧ Below w.heap.size w wr) (fun _ i _ => l.length - (intOf i).toNat)
  case atStart => exact ⟨0, [], Nat.zero_le _, rfl, Heads.nil, World.ownsRow_nil _ _ _ _, Below.refl _ _⟩
  case round =>
    obtain ⟨k, es, hk, rfl, hhd, hown, hbel⟩ := hrel
    by_cases hlt : k < l.length
    · obtain ⟨b, off, cap', rc, hv, _, _, hr, hat⟩ := txs_at (H.out.1.below hbel (Nat.le_refl _)) k hlt
      simp at hv
      obtain ⟨rfl, rfl⟩ := hv
      have HX := copyTxn_any _ l[k] wr ⟨rc, rfl, hr⟩ (H.out.2 l[k] (List.getElem_mem hlt))
      obtain ⟨qx0, qx1, dx0, dx1, dx2, ax0, ax1, ax2, qx4, qx5, qx6, qx7, qx8, ex0, ex1, ex2, ox0, ox1, ox2, rfl⟩ := rq_forms hr
      have HO : Hid (Heads es (l.take k) ∧ wr.ownsRow w.heap.size 49 16 _ k es.flatten ∧ Below w.heap.size w wr ∧ l.take (k + 1) = l.take k ++ [l[k]]) := ⟨hhd, hown, hbel, List.take_succ_eq_append_getElem hlt⟩
      obtain ⟨s0, s1, s2, rfl⟩ := row_shape hown
      have hsz := hbel.size
      have hh : txHead l[k] = [.int .u32 l[k].ep, .int .u32 l[k].n, .int .i8 l[k].srv, .int .u32 l[k].boot, .int .i64 l[k].num] := rfl
      clear hr hhd hown hbel
      rw [hh] at hat HX
      generalize l[k] = t at *
      have g0 : wr.cell? ⟨b, off + k * 16, none⟩ = some (.int .u32 t.ep) := hat 0 (by omega)
      have g1 : wr.cell? ⟨b, off + k * 16 + 1, none⟩ = some (.int .u32 t.n) := hat 1 (by omega)
      have g2 : wr.cell? ⟨b, off + k * 16 + 2, none⟩ = some (.int .i8 t.srv) := hat 2 (by omega)
      have g3 : wr.cell? ⟨b, off + k * 16 + 3, none⟩ = some (.int .u32 t.boot) := hat 3 (by omega)
      have g4 : wr.cell? ⟨b, off + k * 16 + 4, none⟩ = some (.int .i64 t.num) := hat 4 (by omega)
      have g5 : wr.cell? ⟨b, off + k * 16 + 5, none⟩ = some (.int .i8 qx0) := hat 5 (by omega)
      have g6 : wr.cell? ⟨b, off + k * 16 + 6, none⟩ = some (.string qx1) := hat 6 (by omega)
      have g7 : wr.cell? ⟨b, off + k * 16 + 7, none⟩ = some (.slice dx0 dx1 dx2) := hat 7 (by omega)
      have g8 : wr.cell? ⟨b, off + k * 16 + 8, none⟩ = some (.slice ax0 ax1 ax2) := hat 8 (by omega)
      have g9 : wr.cell? ⟨b, off + k * 16 + 9, none⟩ = some (.int .i32 qx4) := hat 9 (by omega)
      have g10 : wr.cell? ⟨b, off + k * 16 + 10, none⟩ = some (.bool qx5) := hat 10 (by omega)
      have g11 : wr.cell? ⟨b, off + k * 16 + 11, none⟩ = some (.bool qx6) := hat 11 (by omega)
      have g12 : wr.cell? ⟨b, off + k * 16 + 12, none⟩ = some (.int .i64 qx7) := hat 12 (by omega)
      have g13 : wr.cell? ⟨b, off + k * 16 + 13, none⟩ = some (.int .i32 qx8) := hat 13 (by omega)
      have g14 : wr.cell? ⟨b, off + k * 16 + 14, none⟩ = some (.slice ex0 ex1 ex2) := hat 14 (by omega)
      have g15 : wr.cell? ⟨b, off + k * 16 + 15, none⟩ = some (.slice ox0 ox1 ox2) := hat 15 (by omega)
      clear hat
      go_wp2_with fail
      refine HX.mono ?_
      rintro e w5 ⟨ds, rfl, hr5, b5⟩
      obtain ⟨qy0, qy1, dy0, dy1, dy2, ay0, ay1, ay2, qy4, qy5, qy6, qy7, qy8, ey0, ey1, ey2, oy0, oy1, oy2, rfl⟩ := rq_forms hr5.sees
      have H5 : Hid (Below wr.heap.size wr w5 ∧ SeesRq w5 ([.int .i8 qy0, .string qy1, .slice dy0 dy1 dy2, .slice ay0 ay1 ay2, .int .i32 qy4, .bool qy5, .bool qy6, .int .i64 qy7, .int .i32 qy8, .slice ey0 ey1 ey2, .slice oy0 oy1 oy2] : List Value) t.rq) := ⟨b5, hr5.sees⟩
      clear hr5 b5 HX g0 g1 g2 g3 g4 g5 g6 g7 g8 g9 g10 g11 g12 g13 g14 g15
      go_wp2_with (at_builtin; refine wpList_append_own_at _ rfl _ _ 25 rfl w.heap.size 49 i0 _ 16 168 Tryz.underlying25 hi hz0 hz1 hz2 rfl (by decide) _ _ _ rfl (ownsRow_kept HO.out.2.1 ((Below.kept H5.out.1).alloc _) (fun q hq e => by have := (HO.out.2.1.lt q hq).2; omega)) ⟨w5.heap.size, 0, none⟩ 1 1 (txHead t ++ ([.int .i8 qy0, .string qy1, .slice dy0 dy1 dy2, .slice ay0 ay1 ay2, .int .i32 qy4, .bool qy5, .bool qy6, .int .i64 qy7, .int .i32 qy8, .slice ey0 ey1 ey2, .slice oy0 oy1 oy2] : List Value)) rfl rfl ?c1 ?c2 ?c3 ?c4 ?c5 ?_)
      case c1 =>
        intro j u hj
        rw [addrAdd, Nat.zero_add, cell_of_row _ _ _ _ _ _ (heap_alloc_new _ _)]
        rw [← hj]
        simp [txHead]
      case c2 =>
        intro u hu
        simp only [txHead, List.cons_append, List.nil_append, List.mem_cons, List.not_mem_nil, or_false] at hu
        rcases hu with rfl | rfl | rfl | rfl | rfl | rfl | rfl | rfl | rfl | rfl | rfl | rfl | rfl | rfl | rfl | rfl <;> rfl
      case c3 => unfold maxLen; omega
      case c4 => omega
      case c5 => have := H5.out.1.size; simp; omega
      intro v' w6 hown' hgrow _ _
      have HR : Hid (Heads (es ++ [txHead t ++ ([.int .i8 qy0, .string qy1, .slice dy0 dy1 dy2, .slice ay0 ay1 ay2, .int .i32 qy4, .bool qy5, .bool qy6, .int .i64 qy7, .int .i32 qy8, .slice ey0 ey1 ey2, .slice oy0 oy1 oy2] : List Value)]) (l.take (k + 1)) ∧ w6.ownsRow w.heap.size 49 16 v' (k + 1) (es ++ [txHead t ++ ([.int .i8 qy0, .string qy1, .slice dy0 dy1 dy2, .slice ay0 ay1 ay2, .int .i32 qy4, .bool qy5, .bool qy6, .int .i64 qy7, .int .i32 qy8, .slice ey0 ey1 ey2, .slice oy0 oy1 oy2] : List Value)]).flatten ∧ Below w.heap.size w w6) := by
        have hb5 : Below w.heap.size w w5 := HO.out.2.2.1.trans (H5.out.1.mono hsz)
        refine ⟨by rw [HO.out.2.2.2]; exact HO.out.1.snoc ⟨w5, _, H5.out.2⟩, ?_, (hb5.alloc hb5.size _).grown hgrow (by have := hb5.size; simp; omega) (fun q hq => (HO.out.2.1.lt q hq).1)⟩
        rw [List.flatten_append]
        simp only [List.flatten_cons, List.flatten_nil, List.append_nil]
        exact hown'
      clear hown' hgrow HO H5
      go_wp2
      go_roundw
      case rel => exact ⟨k + 1, _, by omega, by go_num, HR.out.1, HR.out.2.1, HR.out.2.2⟩
      case measure => simp [intOf]; omega
    · obtain rfl : k = l.length := by omega
      rw [List.take_length] at hhd
      have HR : Hid _ := And.intro (zs_own hhd hown) hbel
      clear hhd hown hbel
      go_wp2
      go_ret
      exact ⟨_, rfl, HR.out.1, HR.out.2⟩
end Go.Proofs.YtobnggkgpenmfaaGreatDoor
