/- A row of sixteen cells stored over; what stands while transactions are made wide. No Go function is walked here. -/
import Derived.Test.YtobnggkgpenmfaaGreatDoorWdHJ
import Derived.Test.YtobnggkgpenmfaaGreatDoorLargeTJ
import Derived.Test.YtobnggkgpenmfaaGreatDoorRqLJ
import Derived.Test.YtobnggkgpenmfaaGreatDoorWeCJ
namespace Go.Proofs.YtobnggkgpenmfaaGreatDoor
open Go.RowKit Go.Shelf
set_option maxRecDepth 8000

/-- Sixteen places of a list stored over. -/
theorem set16 (fl : List Value) (k : Nat) (hl : k * 16 + 16 ≤ fl.length) (c0 c1 c2 c3 c4 c5 c6 c7 c8 c9 c10 c11 c12 c13 c14 c15 : Value) :
    (∀ i j, i ≠ k → j < 16 → ((((((((((((((((fl.set (k * 16) (c0)).set (k * 16 + 1) (c1)).set (k * 16 + 2) (c2)).set (k * 16 + 3) (c3)).set (k * 16 + 4) (c4)).set (k * 16 + 5) (c5)).set (k * 16 + 6) (c6)).set (k * 16 + 7) (c7)).set (k * 16 + 8) (c8)).set (k * 16 + 9) (c9)).set (k * 16 + 10) (c10)).set (k * 16 + 11) (c11)).set (k * 16 + 12) (c12)).set (k * 16 + 13) (c13)).set (k * 16 + 14) (c14)).set (k * 16 + 15) (c15))[i * 16 + j]? = fl[i * 16 + j]?) ∧ ∀ j, j < 16 → ((((((((((((((((fl.set (k * 16) (c0)).set (k * 16 + 1) (c1)).set (k * 16 + 2) (c2)).set (k * 16 + 3) (c3)).set (k * 16 + 4) (c4)).set (k * 16 + 5) (c5)).set (k * 16 + 6) (c6)).set (k * 16 + 7) (c7)).set (k * 16 + 8) (c8)).set (k * 16 + 9) (c9)).set (k * 16 + 10) (c10)).set (k * 16 + 11) (c11)).set (k * 16 + 12) (c12)).set (k * 16 + 13) (c13)).set (k * 16 + 14) (c14)).set (k * 16 + 15) (c15))[k * 16 + j]? = some (([c0, c1, c2, c3, c4, c5, c6, c7, c8, c9, c10, c11, c12, c13, c14, c15] : List Value).getD j (.bool false)) := by
  refine ⟨fun i j hi hj => ?_, fun j hj => ?_⟩
  · rw [List.getElem?_set_ne (by omega), List.getElem?_set_ne (by omega), List.getElem?_set_ne (by omega), List.getElem?_set_ne (by omega), List.getElem?_set_ne (by omega), List.getElem?_set_ne (by omega), List.getElem?_set_ne (by omega), List.getElem?_set_ne (by omega), List.getElem?_set_ne (by omega), List.getElem?_set_ne (by omega), List.getElem?_set_ne (by omega), List.getElem?_set_ne (by omega), List.getElem?_set_ne (by omega), List.getElem?_set_ne (by omega), List.getElem?_set_ne (by omega), List.getElem?_set_ne (by omega)]
  · rcases (show j = 0 ∨ j = 1 ∨ j = 2 ∨ j = 3 ∨ j = 4 ∨ j = 5 ∨ j = 6 ∨ j = 7 ∨ j = 8 ∨ j = 9 ∨ j = 10 ∨ j = 11 ∨ j = 12 ∨ j = 13 ∨ j = 14 ∨ j = 15 by omega) with rfl | rfl | rfl | rfl | rfl | rfl | rfl | rfl | rfl | rfl | rfl | rfl | rfl | rfl | rfl | rfl
    · simp only [Nat.add_zero]; rw [List.getElem?_set_ne (by omega), List.getElem?_set_ne (by omega), List.getElem?_set_ne (by omega), List.getElem?_set_ne (by omega), List.getElem?_set_ne (by omega), List.getElem?_set_ne (by omega), List.getElem?_set_ne (by omega), List.getElem?_set_ne (by omega), List.getElem?_set_ne (by omega), List.getElem?_set_ne (by omega), List.getElem?_set_ne (by omega), List.getElem?_set_ne (by omega), List.getElem?_set_ne (by omega), List.getElem?_set_ne (by omega), List.getElem?_set_ne (by omega), List.getElem?_set_self (by first | omega | (simp only [List.length_set]; omega))]; rfl
    · rw [List.getElem?_set_ne (by omega), List.getElem?_set_ne (by omega), List.getElem?_set_ne (by omega), List.getElem?_set_ne (by omega), List.getElem?_set_ne (by omega), List.getElem?_set_ne (by omega), List.getElem?_set_ne (by omega), List.getElem?_set_ne (by omega), List.getElem?_set_ne (by omega), List.getElem?_set_ne (by omega), List.getElem?_set_ne (by omega), List.getElem?_set_ne (by omega), List.getElem?_set_ne (by omega), List.getElem?_set_ne (by omega), List.getElem?_set_self (by first | omega | (simp only [List.length_set]; omega))]; rfl
    · rw [List.getElem?_set_ne (by omega), List.getElem?_set_ne (by omega), List.getElem?_set_ne (by omega), List.getElem?_set_ne (by omega), List.getElem?_set_ne (by omega), List.getElem?_set_ne (by omega), List.getElem?_set_ne (by omega), List.getElem?_set_ne (by omega), List.getElem?_set_ne (by omega), List.getElem?_set_ne (by omega), List.getElem?_set_ne (by omega), List.getElem?_set_ne (by omega), List.getElem?_set_ne (by omega), List.getElem?_set_self (by first | omega | (simp only [List.length_set]; omega))]; rfl
    · rw [List.getElem?_set_ne (by omega), List.getElem?_set_ne (by omega), List.getElem?_set_ne (by omega), List.getElem?_set_ne (by omega), List.getElem?_set_ne (by omega), List.getElem?_set_ne (by omega), List.getElem?_set_ne (by omega), List.getElem?_set_ne (by omega), List.getElem?_set_ne (by omega), List.getElem?_set_ne (by omega), List.getElem?_set_ne (by omega), List.getElem?_set_ne (by omega), List.getElem?_set_self (by first | omega | (simp only [List.length_set]; omega))]; rfl
    · rw [List.getElem?_set_ne (by omega), List.getElem?_set_ne (by omega), List.getElem?_set_ne (by omega), List.getElem?_set_ne (by omega), List.getElem?_set_ne (by omega), List.getElem?_set_ne (by omega), List.getElem?_set_ne (by omega), List.getElem?_set_ne (by omega), List.getElem?_set_ne (by omega), List.getElem?_set_ne (by omega), List.getElem?_set_ne (by omega), List.getElem?_set_self (by first | omega | (simp only [List.length_set]; omega))]; rfl
    · rw [List.getElem?_set_ne (by omega), List.getElem?_set_ne (by omega), List.getElem?_set_ne (by omega), List.getElem?_set_ne (by omega), List.getElem?_set_ne (by omega), List.getElem?_set_ne (by omega), List.getElem?_set_ne (by omega), List.getElem?_set_ne (by omega), List.getElem?_set_ne (by omega), List.getElem?_set_ne (by omega), List.getElem?_set_self (by first | omega | (simp only [List.length_set]; omega))]; rfl
    · rw [List.getElem?_set_ne (by omega), List.getElem?_set_ne (by omega), List.getElem?_set_ne (by omega), List.getElem?_set_ne (by omega), List.getElem?_set_ne (by omega), List.getElem?_set_ne (by omega), List.getElem?_set_ne (by omega), List.getElem?_set_ne (by omega), List.getElem?_set_ne (by omega), List.getElem?_set_self (by first | omega | (simp only [List.length_set]; omega))]; rfl
    · rw [List.getElem?_set_ne (by omega), List.getElem?_set_ne (by omega), List.getElem?_set_ne (by omega), List.getElem?_set_ne (by omega), List.getElem?_set_ne (by omega), List.getElem?_set_ne (by omega), List.getElem?_set_ne (by omega), List.getElem?_set_ne (by omega), List.getElem?_set_self (by first | omega | (simp only [List.length_set]; omega))]; rfl
    · rw [List.getElem?_set_ne (by omega), List.getElem?_set_ne (by omega), List.getElem?_set_ne (by omega), List.getElem?_set_ne (by omega), List.getElem?_set_ne (by omega), List.getElem?_set_ne (by omega), List.getElem?_set_ne (by omega), List.getElem?_set_self (by first | omega | (simp only [List.length_set]; omega))]; rfl
    · rw [List.getElem?_set_ne (by omega), List.getElem?_set_ne (by omega), List.getElem?_set_ne (by omega), List.getElem?_set_ne (by omega), List.getElem?_set_ne (by omega), List.getElem?_set_ne (by omega), List.getElem?_set_self (by first | omega | (simp only [List.length_set]; omega))]; rfl
    · rw [List.getElem?_set_ne (by omega), List.getElem?_set_ne (by omega), List.getElem?_set_ne (by omega), List.getElem?_set_ne (by omega), List.getElem?_set_ne (by omega), List.getElem?_set_self (by first | omega | (simp only [List.length_set]; omega))]; rfl
    · rw [List.getElem?_set_ne (by omega), List.getElem?_set_ne (by omega), List.getElem?_set_ne (by omega), List.getElem?_set_ne (by omega), List.getElem?_set_self (by first | omega | (simp only [List.length_set]; omega))]; rfl
    · rw [List.getElem?_set_ne (by omega), List.getElem?_set_ne (by omega), List.getElem?_set_ne (by omega), List.getElem?_set_self (by first | omega | (simp only [List.length_set]; omega))]; rfl
    · rw [List.getElem?_set_ne (by omega), List.getElem?_set_ne (by omega), List.getElem?_set_self (by first | omega | (simp only [List.length_set]; omega))]; rfl
    · rw [List.getElem?_set_ne (by omega), List.getElem?_set_self (by first | omega | (simp only [List.length_set]; omega))]; rfl
    · rw [List.getElem?_set_self (by first | omega | (simp only [List.length_set]; omega))]; rfl

/-- The same in memory. -/
theorem own16 {w : World} {g N k : Nat} {t : TypeId} {fl : List Value} (h : w.ownsRow g t 16 (.slice (some ⟨g, 0, none⟩) N N) N fl) (c0 c1 c2 c3 c4 c5 c6 c7 c8 c9 c10 c11 c12 c13 c14 c15 : Value) :
    ((((((((((((((((w.setCell ⟨g, k * 16, none⟩ (c0)).setCell ⟨g, k * 16 + 1, none⟩ (c1)).setCell ⟨g, k * 16 + 2, none⟩ (c2)).setCell ⟨g, k * 16 + 3, none⟩ (c3)).setCell ⟨g, k * 16 + 4, none⟩ (c4)).setCell ⟨g, k * 16 + 5, none⟩ (c5)).setCell ⟨g, k * 16 + 6, none⟩ (c6)).setCell ⟨g, k * 16 + 7, none⟩ (c7)).setCell ⟨g, k * 16 + 8, none⟩ (c8)).setCell ⟨g, k * 16 + 9, none⟩ (c9)).setCell ⟨g, k * 16 + 10, none⟩ (c10)).setCell ⟨g, k * 16 + 11, none⟩ (c11)).setCell ⟨g, k * 16 + 12, none⟩ (c12)).setCell ⟨g, k * 16 + 13, none⟩ (c13)).setCell ⟨g, k * 16 + 14, none⟩ (c14)).setCell ⟨g, k * 16 + 15, none⟩ (c15)).ownsRow g t 16 (.slice (some ⟨g, 0, none⟩) N N) N ((((((((((((((((fl.set (k * 16) (c0)).set (k * 16 + 1) (c1)).set (k * 16 + 2) (c2)).set (k * 16 + 3) (c3)).set (k * 16 + 4) (c4)).set (k * 16 + 5) (c5)).set (k * 16 + 6) (c6)).set (k * 16 + 7) (c7)).set (k * 16 + 8) (c8)).set (k * 16 + 9) (c9)).set (k * 16 + 10) (c10)).set (k * 16 + 11) (c11)).set (k * 16 + 12) (c12)).set (k * 16 + 13) (c13)).set (k * 16 + 14) (c14)).set (k * 16 + 15) (c15)) ∧ Kept w ((((((((((((((((w.setCell ⟨g, k * 16, none⟩ (c0)).setCell ⟨g, k * 16 + 1, none⟩ (c1)).setCell ⟨g, k * 16 + 2, none⟩ (c2)).setCell ⟨g, k * 16 + 3, none⟩ (c3)).setCell ⟨g, k * 16 + 4, none⟩ (c4)).setCell ⟨g, k * 16 + 5, none⟩ (c5)).setCell ⟨g, k * 16 + 6, none⟩ (c6)).setCell ⟨g, k * 16 + 7, none⟩ (c7)).setCell ⟨g, k * 16 + 8, none⟩ (c8)).setCell ⟨g, k * 16 + 9, none⟩ (c9)).setCell ⟨g, k * 16 + 10, none⟩ (c10)).setCell ⟨g, k * 16 + 11, none⟩ (c11)).setCell ⟨g, k * 16 + 12, none⟩ (c12)).setCell ⟨g, k * 16 + 13, none⟩ (c13)).setCell ⟨g, k * 16 + 14, none⟩ (c14)).setCell ⟨g, k * 16 + 15, none⟩ (c15)) (fun q => q = g) := by
  refine ⟨?_, ?_⟩
  · exact ((((((((((((((((h.stored (k * 16) c0).1.stored (k * 16 + 1) c1).1.stored (k * 16 + 2) c2).1.stored (k * 16 + 3) c3).1.stored (k * 16 + 4) c4).1.stored (k * 16 + 5) c5).1.stored (k * 16 + 6) c6).1.stored (k * 16 + 7) c7).1.stored (k * 16 + 8) c8).1.stored (k * 16 + 9) c9).1.stored (k * 16 + 10) c10).1.stored (k * 16 + 11) c11).1.stored (k * 16 + 12) c12).1.stored (k * 16 + 13) c13).1.stored (k * 16 + 14) c14).1.stored (k * 16 + 15) c15).1
  · exact ((((((((((((((((Kept.refl w (fun q => q = g)).setCell ⟨g, k * 16, none⟩ c0 (fun _ => rfl)).setCell ⟨g, k * 16 + 1, none⟩ c1 (fun _ => rfl)).setCell ⟨g, k * 16 + 2, none⟩ c2 (fun _ => rfl)).setCell ⟨g, k * 16 + 3, none⟩ c3 (fun _ => rfl)).setCell ⟨g, k * 16 + 4, none⟩ c4 (fun _ => rfl)).setCell ⟨g, k * 16 + 5, none⟩ c5 (fun _ => rfl)).setCell ⟨g, k * 16 + 6, none⟩ c6 (fun _ => rfl)).setCell ⟨g, k * 16 + 7, none⟩ c7 (fun _ => rfl)).setCell ⟨g, k * 16 + 8, none⟩ c8 (fun _ => rfl)).setCell ⟨g, k * 16 + 9, none⟩ c9 (fun _ => rfl)).setCell ⟨g, k * 16 + 10, none⟩ c10 (fun _ => rfl)).setCell ⟨g, k * 16 + 11, none⟩ c11 (fun _ => rfl)).setCell ⟨g, k * 16 + 12, none⟩ c12 (fun _ => rfl)).setCell ⟨g, k * 16 + 13, none⟩ c13 (fun _ => rfl)).setCell ⟨g, k * 16 + 14, none⟩ c14 (fun _ => rfl)).setCell ⟨g, k * 16 + 15, none⟩ c15 (fun _ => rfl)

/-- What a mark among transactions has. -/
def txMark (j : Nat) : List Value := [.int .u32 0, .int .u32 0, .int .i8 0, .int .u32 0, .int .i64 (-3000000 - (j : Int)), .int .i8 0, .string ⟨#[]⟩, .slice none 0 0, .slice none 0 0, .int .i32 0, .bool false, .bool false, .int .i64 0, .int .i32 0, .slice none 0 0, .slice none 0 0]

/-- A transaction's cells, its request wide. -/
def WidX (w : World) (F : Nat → Prop) (cs : List Value) (t : TxD) : Prop := ∃ rc, cs = txHead t ++ rc ∧ WidQ w F rc t.rq

theorem WidX.kept {w w' : World} {S F F' : Nat → Prop} (hk : Kept w w' S) (hF : ∀ k, F k → ¬ S k ∧ F' k) {cs : List Value} {t : TxD} (h : WidX w F cs t) : WidX w' F' cs t := by
  obtain ⟨rc, e, h⟩ := h
  exact ⟨rc, e, h.kept hk hF⟩

theorem WidX.sees {w : World} {F : Nat → Prop} {cs : List Value} {t : TxD} (h : WidX w F cs t) (hp : t.rq.parts ≤ 20000) : SeesTx w cs t := by
  obtain ⟨rc, e, h⟩ := h
  exact ⟨rc, e, h.sees hp⟩

/-- What stands after k rounds. -/
def WtI (w wr : World) (g : Nat) (l : List TxD) (k : Nat) : Prop :=
  Below g w wr ∧ ∃ (fl : List Value) (E : Nat → List Value), wr.ownsRow g 49 16 (.slice (some ⟨g, 0, none⟩) (l.length + 64) (l.length + 64)) (l.length + 64) fl ∧ (∀ i, i < k → i < l.length + 64 → ∀ j, j < 16 → fl[i * 16 + j]? = some ((E i).getD j (.bool false))) ∧
    (∀ i (hi : i < l.length), i < k → WidX wr (fun q => g < q ∧ q < wr.heap.size) (E i) l[i]) ∧ ∀ i, l.length ≤ i → i < k → E i = txMark i

/-- A round: the next element is laid. -/
theorem WtI_step {w wr w5 : World} {g k : Nat} {l : List TxD} {c0 c1 c2 c3 c4 c5 c6 c7 c8 c9 c10 c11 c12 c13 c14 c15 : Value} (hg : g < wr.heap.size) (h : WtI w wr g l k) (hk : k < l.length + 64) (b5 : Below wr.heap.size wr w5)
    (hq : ∀ hi : k < l.length, WidX w5 (fun q => wr.heap.size ≤ q ∧ q < w5.heap.size) [c0, c1, c2, c3, c4, c5, c6, c7, c8, c9, c10, c11, c12, c13, c14, c15] l[k]) (hm : l.length ≤ k → [c0, c1, c2, c3, c4, c5, c6, c7, c8, c9, c10, c11, c12, c13, c14, c15] = txMark k) :
    WtI w ((((((((((((((((w5.setCell ⟨g, k * 16, none⟩ (c0)).setCell ⟨g, k * 16 + 1, none⟩ (c1)).setCell ⟨g, k * 16 + 2, none⟩ (c2)).setCell ⟨g, k * 16 + 3, none⟩ (c3)).setCell ⟨g, k * 16 + 4, none⟩ (c4)).setCell ⟨g, k * 16 + 5, none⟩ (c5)).setCell ⟨g, k * 16 + 6, none⟩ (c6)).setCell ⟨g, k * 16 + 7, none⟩ (c7)).setCell ⟨g, k * 16 + 8, none⟩ (c8)).setCell ⟨g, k * 16 + 9, none⟩ (c9)).setCell ⟨g, k * 16 + 10, none⟩ (c10)).setCell ⟨g, k * 16 + 11, none⟩ (c11)).setCell ⟨g, k * 16 + 12, none⟩ (c12)).setCell ⟨g, k * 16 + 13, none⟩ (c13)).setCell ⟨g, k * 16 + 14, none⟩ (c14)).setCell ⟨g, k * 16 + 15, none⟩ (c15)) g l (k + 1) := by
  obtain ⟨hb, fl, E, h1, h2, h3, h4⟩ := h
  have h1' := ownsRow_kept h1 (Below.kept b5) (fun q hq e => by cases hq; exact absurd (show wr.heap.size ≤ g from e) (by omega))
  obtain ⟨o1, o2⟩ := own16 (k := k) h1' c0 c1 c2 c3 c4 c5 c6 c7 c8 c9 c10 c11 c12 c13 c14 c15
  have hfl : fl.length = (l.length + 64) * 16 := h1.1
  obtain ⟨s1, s2⟩ := set16 fl k (by omega) c0 c1 c2 c3 c4 c5 c6 c7 c8 c9 c10 c11 c12 c13 c14 c15
  have hs5 := b5.size
  have hs6 := o2.size
  refine ⟨(hb.trans (b5.mono (Nat.le_of_lt hg))).trans (o2.below (Nat.le_trans (Nat.le_of_lt hg) b5.size) (fun q e => by omega)), _, fun i => if i = k then [c0, c1, c2, c3, c4, c5, c6, c7, c8, c9, c10, c11, c12, c13, c14, c15] else E i, o1, fun i hi hn j hj => ?_, fun i hi hk' => ?_, fun i hi hk' => ?_⟩
  · dsimp only
    by_cases e : i = k
    · subst e
      rw [if_pos rfl]
      exact s2 j hj
    · rw [if_neg e, s1 i j e hj]
      exact h2 i (by omega) hn j hj
  · dsimp only
    by_cases e : i = k
    · subst e
      rw [if_pos rfl]
      exact WidX.kept o2 (fun q hq => ⟨fun e => by omega, by omega, by omega⟩) (hq hi)
    · rw [if_neg e]
      exact WidX.kept o2 (fun q hq => ⟨fun e => by omega, hq⟩) (WidX.kept (Below.kept b5) (fun q hq => ⟨fun e => by omega, hq.1, (by omega : q < _)⟩) (h3 i hi (by omega)))
  · dsimp only
    by_cases e : i = k
    · subst e
      rw [if_pos rfl]
      exact hm hi
    · rw [if_neg e]
      exact h4 i hi (by omega)

/-- Transactions with marks behind them, in block g. -/
def WidT (w : World) (g : Nat) (F : Nat → Prop) (l : List TxD) : Prop :=
  ∃ (fl : List Value) (E : Nat → List Value), w.ownsRow g 49 16 (.slice (some ⟨g, 0, none⟩) (l.length + 64) (l.length + 64)) (l.length + 64) fl ∧ (∀ i, i < l.length + 64 → ∀ j, j < 16 → fl[i * 16 + j]? = some ((E i).getD j (.bool false))) ∧
    (∀ i (hi : i < l.length), WidX w F (E i) l[i]) ∧ ∀ i, l.length ≤ i → i < l.length + 64 → E i = txMark i

theorem WidT.below {w w' : World} {g : Nat} {F : Nat → Prop} {l : List TxD} (h : WidT w g F l) (hF : ∀ k, F k → k < w.heap.size) (hb : Below w.heap.size w w') : WidT w' g F l := by
  obtain ⟨fl, E, h1, h2, h3, h4⟩ := h
  have hg : g < w.heap.size := (h1.lt g rfl).2
  exact ⟨fl, E, ownsRow_kept h1 (Below.kept hb) (fun q hq e => by cases hq; exact absurd (show w.heap.size ≤ g from e) (by omega)), h2, fun i hi => (h3 i hi).kept (Below.kept hb) (fun k hk => ⟨fun e => by have := hF k hk; omega, hk⟩), h4⟩

theorem WidT.at_ {w : World} {g : Nat} {F : Nat → Prop} {l : List TxD} (h : WidT w g F l) (i : Nat) (hi : i < l.length) : ∃ rc, WidQ w F rc l[i].rq ∧ ∀ j, j < 16 → w.cell? ⟨g, i * 16 + j, none⟩ = some ((txHead l[i] ++ rc).getD j (.bool false)) := by
  obtain ⟨fl, E, h1, h2, h3, h4⟩ := h
  obtain ⟨rc, e, hq⟩ := h3 i hi
  exact ⟨rc, hq, fun j hj => by rw [h1.cellAt _ (by omega), h2 i (by omega) j hj, e]⟩

theorem WidT.mark {w : World} {g : Nat} {F : Nat → Prop} {l : List TxD} (h : WidT w g F l) (i : Nat) (hi : l.length ≤ i) (hi' : i < l.length + 64) : w.cell? ⟨g, i * 16 + 4, none⟩ = some (.int .i64 (-3000000 - (i : Int))) := by
  obtain ⟨fl, E, h1, h2, h3, h4⟩ := h
  rw [h1.cellAt _ (by omega), h2 i hi' 4 (by omega), h4 i hi hi']
  rfl

theorem WidT.sees {w : World} {g : Nat} {F : Nat → Prop} {l : List TxD} (h : WidT w g F l) (hl : l.length ≤ 2000000000) (hp : ∀ t ∈ l, t.rq.parts ≤ 20000) : SeesTxs w (.slice (some ⟨g, 0, none⟩) l.length (l.length + 64)) l := by
  obtain ⟨fl, E, h1, h2, h3, h4⟩ := h
  refine ⟨List.ofFn fun i : Fin l.length => E i.1, ⟨_, l.length + 64, by rw [List.length_ofFn], by rw [List.length_ofFn]; omega, by unfold maxLen; omega, fun e => by simp at e, .inr ⟨g, 0, rfl, fun i hi j hj => ?_⟩⟩, by rw [List.length_ofFn], fun i hi hk => ?_⟩
  · rw [List.length_ofFn] at hi
    rw [Nat.zero_add, h1.cellAt _ (by omega), h2 i (by omega) j hj, List.getElem_ofFn]
  · rw [List.getElem_ofFn]
    exact (h3 i hk).sees (hp _ (List.getElem_mem hk))
end Go.Proofs.YtobnggkgpenmfaaGreatDoor

/- A wide list of transactions whose zxids are written over; two choices held against each other. No Go function of the program is walked here. -/
namespace Go.Proofs.YtobnggkgpenmfaaGreatDoor
open Go.RowKit
set_option maxRecDepth 8000

theorem WidQ.rqL {w : World} {F : Nat → Prop} {cs : List Value} {r : Rq} (h : WidQ w F cs r) (hp : r.parts ≤ 20000) : RqL w F cs r := by
  induction h with
  | mk f n ops gd ga gw go oc hd ha hw ho fd fa fw fo _ ih =>
    rw [Rq.parts_eq] at hp
    have hpn := partsTo_le ops n (Nat.le_refl _)
    have hfp : f.parts = 1 + f.data.length + f.acl.length + f.who.length := rfl
    have ho' := ho.sees (by rw [List.length_ofFn]; omega)
    rw [List.length_ofFn] at ho'
    exact .mk f n ops _ _ _ _ oc (hd.sees (by omega)) (ha.sees (by omega)) (hw.sees (by omega)) ho' (fun k e => by cases live_own e; exact fd) (fun k e => by cases live_own e; exact fa) (fun k e => by cases live_own e; exact fw) (fun k e => by cases live_own e; exact fo) (fun i => ih i (by have := part_le ops i; omega))

/-- The transactions l in block g, their requests elsewhere. -/
structure WdZ (W : World) (g : Nat) (l : List TxD) : Prop where
  frz : ∀ c, W.frozen? ⟨g, c, none⟩ = false
  at_ : ∀ i (h : i < l.length), ∃ rc, RqL W (fun q => q ≠ g) rc l[i].rq ∧ ∀ j, j < 16 → W.cell? ⟨g, i * 16 + j, none⟩ = some ((txHead l[i] ++ rc).getD j (.bool false))

theorem WidT.wdz {w : World} {g : Nat} {F : Nat → Prop} {l : List TxD} (h : WidT w g F l) (hF : ∀ q, F q → q ≠ g) (hp : ∀ t ∈ l, t.rq.parts ≤ 20000) : WdZ w g l := by
  refine ⟨fun c => ?_, fun i hi => ?_⟩
  · obtain ⟨fl, E, h1, _⟩ := h
    exact h1.frozenAt c
  · obtain ⟨rc, hq, hat⟩ := h.at_ i hi
    exact ⟨rc, RqL.kept (Kept.refl w (fun _ => False)) (fun q hq => ⟨fun e => e, hF q hq⟩) (hq.rqL (hp _ (List.getElem_mem hi))), hat⟩

theorem WdZ.kept {W W' : World} {g : Nat} {l : List TxD} {S : Nat → Prop} (h : WdZ W g l) (hk : Kept W W' S) (hg : ¬ S g) (hlt : g < W.heap.size) (hS : ∀ q, q < W.heap.size → ¬ S q) : WdZ W' g l := by
  refine ⟨fun c => ?_, fun i hi => ?_⟩
  · have := hk.block g hlt hg
    rw [← h.frz c]
    unfold World.frozen?
    rw [this]
  · obtain ⟨rc, hr, hat⟩ := h.at_ i hi
    refine ⟨rc, ?_, fun j hj => hk.cell (hat j hj) hg⟩
    have h2 := hr.sees.live
    have h3 : RqL W (fun q => q ≠ g ∧ q < W.heap.size) rc l[i].rq := by
      clear hat
      generalize l[i].rq = r at hr h2
      clear h2
      induction hr with
      | mk f n ops dv av wv ov oc hd ha hw ho fd fa fw fo _ ih =>
        exact .mk f n ops dv av wv ov oc hd ha hw ho (fun k h => ⟨fd k h, sees_live hd k h⟩) (fun k h => ⟨fa k h, seesR_live ha (by omega) k h⟩) (fun k h => ⟨fw k h, seesR_live hw (by omega) k h⟩) (fun k h => ⟨fo k h, seesR_live ho (by omega) k h⟩) ih
    exact RqL.kept hk (fun q hq => ⟨hS q hq.2, hq.1⟩) h3

theorem WdZ.sees {W : World} {g : Nat} {l : List TxD} (h : WdZ W g l) (cap : Nat) (hl : l.length ≤ cap) (hc : cap ≤ maxLen) : SeesTxs W (.slice (some ⟨g, 0, none⟩) l.length cap) l := by
  have hch : ∀ i : Fin l.length, ∃ rc, RqL W (fun q => q ≠ g) rc l[i].rq ∧ ∀ j, j < 16 → W.cell? ⟨g, i.1 * 16 + j, none⟩ = some ((txHead l[i] ++ rc).getD j (.bool false)) := fun i => h.at_ i.1 i.2
  obtain ⟨f, hf⟩ := Classical.axiomOfChoice hch
  refine ⟨List.ofFn fun i : Fin l.length => txHead l[i] ++ f i, ⟨_, cap, by rw [List.length_ofFn], by rw [List.length_ofFn]; exact hl, hc, fun e => by simp at e, .inr ⟨g, 0, rfl, fun i hi j hj => ?_⟩⟩, by rw [List.length_ofFn], fun i hi hk => ?_⟩
  · rw [List.length_ofFn] at hi
    rw [Nat.zero_add, List.getElem_ofFn]
    exact (hf ⟨i, hi⟩).2 j hj
  · rw [List.getElem_ofFn]
    exact ⟨f ⟨i, hk⟩, rfl, (hf ⟨i, hk⟩).1.sees⟩

/-- The zxid of the k-th one written over. -/
theorem WdZ.set {W : World} {g : Nat} {l : List TxD} (h : WdZ W g l) (k : Nat) (hk : k < l.length) (e n : Int) : WdZ ((W.setCell ⟨g, k * 16, none⟩ (.int .u32 e)).setCell ⟨g, k * 16 + 1, none⟩ (.int .u32 n)) g (l.set k ⟨e, n, l[k].srv, l[k].boot, l[k].num, l[k].rq⟩) := by
  have hK : Kept W ((W.setCell ⟨g, k * 16, none⟩ (.int .u32 e)).setCell ⟨g, k * 16 + 1, none⟩ (.int .u32 n)) (fun q => q = g) := ((Kept.refl W (fun q => q = g)).setCell ⟨g, k * 16, none⟩ _ (fun _ => rfl)).setCell ⟨g, k * 16 + 1, none⟩ _ (fun _ => rfl)
  refine ⟨fun c => by rw [World.frozen?_setCell, World.frozen?_setCell]; exact h.frz c, fun i hi => ?_⟩
  rw [List.length_set] at hi
  obtain ⟨rc, hr, hat⟩ := h.at_ i hi
  have c0 : W.cell? ⟨g, i * 16, none⟩ = some ((txHead l[i] ++ rc).getD 0 (.bool false)) := hat 0 (by omega)
  have c1 := hat 1 (by omega)
  by_cases hik : i = k
  · subst hik
    refine ⟨rc, ?_, fun j hj => ?_⟩
    · rw [List.getElem_set_self]
      exact RqL.kept hK (fun q hq => ⟨hq, hq⟩) hr
    · rw [List.getElem_set_self]
      by_cases h0 : j = 0
      · subst h0
        rw [World.cell?_setCell_other _ _ _ _ (by simp), Nat.add_zero, World.cell?_setCell_same _ _ _ c0]
        rfl
      · by_cases h1 : j = 1
        · subst h1
          rw [World.cell?_setCell_same _ _ _ (by rw [World.cell?_setCell_other _ _ _ _ (by simp)]; exact c1)]
          rfl
        · rw [World.cell?_setCell_other _ _ _ _ (by simp <;> omega), World.cell?_setCell_other _ _ _ _ (by simp <;> omega), hat j hj]
          obtain ⟨m, rfl⟩ : ∃ m, j = m + 2 := ⟨j - 2, by omega⟩
          rfl
  · refine ⟨rc, ?_, fun j hj => ?_⟩
    · rw [List.getElem_set_ne (by omega)]
      exact RqL.kept hK (fun q hq => ⟨hq, hq⟩) hr
    · rw [List.getElem_set_ne (by omega), World.cell?_setCell_other _ _ _ _ (by simp <;> omega), World.cell?_setCell_other _ _ _ _ (by simp <;> omega)]
      exact hat j hj

/-- The first k zxids written over. -/
def zset (l : List TxD) : Nat → List TxD
  | 0 => l
  | k + 1 => if h : k < l.length then (zset l k).set k ⟨9, k, l[k].srv, l[k].boot, l[k].num, l[k].rq⟩ else zset l k

theorem zset_len (l : List TxD) : ∀ k, (zset l k).length = l.length
  | 0 => rfl
  | k + 1 => by
    unfold zset
    split
    · rw [List.length_set, zset_len l k]
    · exact zset_len l k

theorem zset_at (l : List TxD) : ∀ (k i : Nat) (h : i < (zset l k).length) (hl : i < l.length), k ≤ i → (zset l k)[i] = l[i]
  | 0, i, h, hl, _ => rfl
  | k + 1, i, h, hl, hki => by
    have e : zset l (k + 1) = (zset l k).set k ⟨9, k, (l[k]'(by omega)).srv, (l[k]'(by omega)).boot, (l[k]'(by omega)).num, (l[k]'(by omega)).rq⟩ := by rw [zset, dif_pos (by omega)]
    simp only [e]
    rw [List.getElem_set_ne (by omega)]
    exact zset_at l k i (by rw [zset_len]; exact hl) hl (by omega)

theorem zset_next (l : List TxD) (k : Nat) (h : k < l.length) : zset l (k + 1) = (zset l k).set k ⟨9, k, ((zset l k)[k]'(by rw [zset_len]; exact h)).srv, ((zset l k)[k]'(by rw [zset_len]; exact h)).boot, ((zset l k)[k]'(by rw [zset_len]; exact h)).num, ((zset l k)[k]'(by rw [zset_len]; exact h)).rq⟩ := by
  rw [zset_at l k k (by rw [zset_len]; exact h) h (Nat.le_refl _), zset, dif_pos h]

theorem zset_mem (l : List TxD) (P : TxD → Prop) (hP : ∀ t ∈ l, P t ∧ ∀ k : Nat, k < l.length → P ⟨9, k, t.srv, t.boot, t.num, t.rq⟩) : ∀ k, ∀ t ∈ zset l k, P t
  | 0, t, ht => (hP t ht).1
  | k + 1, t, ht => by
    unfold zset at ht
    split at ht
    · rename_i h
      rcases List.mem_or_eq_of_mem_set ht with ht | rfl
      · exact zset_mem l P hP k t ht
      · exact (hP l[k] (List.getElem_mem h)).2 k h
    · exact zset_mem l P hP k t ht

theorem eqCh (a b c : Int) (d : Bool) (w : World) : (binOp .eql 34 (.agg #[.int .i8 a, .int .u32 b, .int .u32 c, .bool d]) (.agg #[.int .i8 a, .int .u32 b, .int .u32 c, .bool d])).run Tryz.prog w = .ok (.bool true) w := by
  have hu : Tryz.prog.underlying 34 = some (.struct (Tryz.prog.fieldsOf 34)) := by kernel_rfl
  have hp : Tryz.prog.stoodInHeld 34 = false := by kernel_rfl
  have hu' : Tryz.prog.underlying 24 = some (.struct (Tryz.prog.fieldsOf 24)) := by kernel_rfl
  have hp' : Tryz.prog.stoodInHeld 24 = false := by kernel_rfl
  have u3 := Tryz.underlying22
  have a3 := Tryz.isAgg22
  have z3 := Tryz.sizeOf22
  have u4 := Tryz.underlying32
  have a4 := Tryz.isAgg32
  have z4 := Tryz.sizeOf32
  have u5 := Tryz.underlying4
  have a5 := Tryz.isAgg4
  have z5 := Tryz.sizeOf4
  have a6 := Tryz.isAgg24
  have z6 := Tryz.sizeOf24
  have hz : (Op.equalIn 9999 24 (.agg #[.int .u32 b, .int .u32 c]) (.agg #[.int .u32 b, .int .u32 c])).run Tryz.prog w = .ok true w := by
    rw [show (9999 : Nat) = 9998 + 1 from rfl, run_equalIn_agg w 9998 _ _ _ hu' hp']
    simp only [Program.fieldsOf, Tryz.underlying24]
    clear hu hp hu' hp'
    go_simp
  rw [run_eql_struct, show (10000 : Nat) = 9999 + 1 from rfl, run_equalIn_agg w 9999 _ _ _ hu hp]
  simp only [Program.fieldsOf, Tryz.underlying34]
  clear hu hp hu' hp'
  go_simp

theorem neqCh (a b c : Int) (d : Bool) (w : World) : (binOp .neq 34 (.agg #[.int .i8 a, .int .u32 b, .int .u32 c, .bool d]) (.agg #[.int .i8 a, .int .u32 b, .int .u32 c, .bool d])).run Tryz.prog w = .ok (.bool false) w := by
  have hu : Tryz.prog.underlying 34 = some (.struct (Tryz.prog.fieldsOf 34)) := by kernel_rfl
  have hp : Tryz.prog.stoodInHeld 34 = false := by kernel_rfl
  have hu' : Tryz.prog.underlying 24 = some (.struct (Tryz.prog.fieldsOf 24)) := by kernel_rfl
  have hp' : Tryz.prog.stoodInHeld 24 = false := by kernel_rfl
  have u3 := Tryz.underlying22
  have a3 := Tryz.isAgg22
  have z3 := Tryz.sizeOf22
  have u4 := Tryz.underlying32
  have a4 := Tryz.isAgg32
  have z4 := Tryz.sizeOf32
  have u5 := Tryz.underlying4
  have a5 := Tryz.isAgg4
  have z5 := Tryz.sizeOf4
  have a6 := Tryz.isAgg24
  have z6 := Tryz.sizeOf24
  have hz : (Op.equalIn 9999 24 (.agg #[.int .u32 b, .int .u32 c]) (.agg #[.int .u32 b, .int .u32 c])).run Tryz.prog w = .ok true w := by
    rw [show (9999 : Nat) = 9998 + 1 from rfl, run_equalIn_agg w 9998 _ _ _ hu' hp']
    simp only [Program.fieldsOf, Tryz.underlying24]
    clear hu hp hu' hp'
    go_simp
  rw [run_neq_struct, show (10000 : Nat) = 9999 + 1 from rfl, run_equalIn_agg w 9999 _ _ _ hu hp]
  simp only [Program.fieldsOf, Tryz.underlying34]
  clear hu hp hu' hp'
  go_simp
end Go.Proofs.YtobnggkgpenmfaaGreatDoor
