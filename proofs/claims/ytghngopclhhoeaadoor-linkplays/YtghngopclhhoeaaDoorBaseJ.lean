/- Plain facts on lists of bytes and their Adler-32 sums, and what it means that a slice value leads to given bytes in memory; no Go function is walked here. -/
import Derived.WalkKit
import Derived.WalkLawsBesides
import Derived.Laws.BitsAllLaws
import Derived.Deep.Draws
namespace Go.Proofs.YtghngopclhhoeaaDoor
open Go.RowKit
set_option maxRecDepth 8000

/-- Bytes: each number is from 0 to 255. -/
def Byts (xs : List Int) : Prop := ∀ x ∈ xs, 0 ≤ x ∧ x ≤ 255

theorem take_next (xs : List Int) (k : Nat) (h : k < xs.length) : xs.take (k + 1) = xs.take k ++ [xs.getD k 0] := by
  rw [List.take_succ_eq_append_getElem h, List.getD_eq_getElem?_getD, List.getElem?_eq_getElem h]; rfl

theorem take_next_eq {xs ys : List Int} {k : Nat} (h : k < xs.length) (g : k < ys.length) (e : xs.take k = ys.take k) (hk : xs.getD k 0 = ys.getD k 0) : xs.take (k + 1) = ys.take (k + 1) := by
  rw [take_next xs k h, take_next ys k g, e, hk]

theorem ne_of_nth {xs ys : List Int} (k : Nat) (h : xs.getD k 0 ≠ ys.getD k 0) : xs ≠ ys := fun e => h (by rw [e])

/-! ### The sum -/
/-! ### A number out of bytes, the highest first -/
/-! ### A slice of bytes in memory -/
/-- The slice value v leads to the bytes xs (read only: of its spare room nothing is said). -/
def Sees (w : World) (v : Value) (xs : List Int) : Prop :=
  ∃ (ao : Option Addr) (cap : Nat), v = .slice ao xs.length cap ∧ xs.length ≤ cap ∧ cap ≤ maxLen ∧ (ao = none → cap = 0) ∧ (xs = [] ∨ ∃ b off, ao = some ⟨b, off, none⟩ ∧ ∀ i, i < xs.length → w.cell? ⟨b, off + i, none⟩ = some (.int .u8 (xs.getD i 0)))

theorem Sees.below {B : Nat} {w w' : World} {v : Value} {xs : List Int} (h : Sees w v xs) (hb : Below B w w') (hB : w.heap.size ≤ B) : Sees w' v xs := by
  obtain ⟨ao, cap, rfl, h1, h2, h0, h3⟩ := h
  refine ⟨ao, cap, rfl, h1, h2, h0, ?_⟩
  rcases h3 with h3 | ⟨b, off, rfl, h3⟩
  · exact .inl h3
  · refine .inr ⟨b, off, rfl, fun i hi => ?_⟩
    have := World.block_lt_of_cell? w _ (h3 i hi)
    rw [hb.cell (p := ⟨b, off + i, none⟩) (by simp at this ⊢; omega)]; exact h3 i hi

theorem Sees.own {w : World} {base : Nat} {v : Value} {xs : List Int} (h : w.ownsRow base 5 1 v xs.length (xs.map (Value.int .u8))) : Sees w v xs := by
  rcases h.2 with ⟨rfl, h0⟩ | ⟨g, cap, cur, rfl, _, _, h2, h3, _, _⟩
  · refine ⟨none, 0, by rw [h0], by omega, by unfold maxLen; omega, fun _ => rfl, .inl (List.eq_nil_of_length_eq_zero h0)⟩
  · refine ⟨_, cap, rfl, h2, h3, fun e => by simp at e, .inr ⟨g, 0, rfl, fun i hi => ?_⟩⟩
    rw [Nat.zero_add, h.cellAt i (by omega)]
    simp [hi, List.getD_eq_getElem?_getD]

/-- A cell of a slice that is seen, asked for in a later world. -/
theorem cell_later {B : Nat} {w w' : World} {a : Addr} {u : Value} (h : w.cell? a = some u) (hb : Below B w w') (hB : w.heap.size ≤ B) : w'.cell? a = some u := by
  rw [hb.cell (p := a) (by have := World.block_lt_of_cell? w _ h; omega)]; exact h

/-- The slice value v owns a row whose elements are the bytes xs, in a block from 'base' on. -/
abbrev Owns (w : World) (base : Nat) (v : Value) (xs : List Int) : Prop := w.ownsRow base 5 1 v xs.length (xs.map (Value.int .u8))

theorem owns_cell {w : World} {base g cap : Nat} {xs : List Int} (h : Owns w base (.slice (some ⟨g, 0, none⟩) xs.length cap) xs) (k : Nat) (hk : k < xs.length) : w.cell? ⟨g, k, none⟩ = some (.int .u8 (xs.getD k 0)) := by
  rw [h.cellAt k (by omega)]
  simp [hk, List.getD_eq_getElem?_getD]

theorem owns_set {w : World} {base g cap : Nat} {xs : List Int} (h : Owns w base (.slice (some ⟨g, 0, none⟩) xs.length cap) xs) (k : Nat) (x : Int) :
    Owns (w.setCell ⟨g, k, none⟩ (.int .u8 x)) base (.slice (some ⟨g, 0, none⟩) (xs.set k x).length cap) (xs.set k x) ∧ w.grownBy (w.setCell ⟨g, k, none⟩ (.int .u8 x)) (some g) := by
  have := h.stored k (.int .u8 x)
  refine ⟨?_, this.2⟩
  have h1 := this.1
  simpa [Owns, List.map_set] using h1

/-- The bytes with 64 marks behind them, as WideBytes lays them. -/
def wide (xs : List Int) : List Int := (List.range (xs.length + 64)).map fun i => if i < xs.length then xs.getD i 0 else 170 + (i : Int) % 5

theorem wide_len (xs : List Int) : (wide xs).length = xs.length + 64 := by simp [wide]
theorem wide_nth (xs : List Int) (i : Nat) (h : i < xs.length + 64) : (wide xs).getD i 0 = if i < xs.length then xs.getD i 0 else 170 + (i : Int) % 5 := by
  simp [wide, List.getD_eq_getElem?_getD, h]
theorem wide_take (xs : List Int) : (wide xs).take xs.length = xs := by
  apply List.ext_getElem
  · simp [wide_len]
  · intro i h1 h2
    have := wide_nth xs i (by omega)
    rw [if_pos h2] at this
    simp only [List.getElem_take]
    rw [List.getD_eq_getElem?_getD, List.getD_eq_getElem?_getD, List.getElem?_eq_getElem h2, List.getElem?_eq_getElem (by rw [wide_len]; omega)] at this
    simpa using this

theorem list_of_nths {xs ys : List Int} (hl : xs.length = ys.length) (h : ∀ j, j < xs.length → xs.getD j 0 = ys.getD j 0) : xs = ys := by
  apply List.ext_getElem hl
  intro i h1 h2
  have := h i h1
  rw [List.getD_eq_getElem?_getD, List.getD_eq_getElem?_getD, List.getElem?_eq_getElem h1, List.getElem?_eq_getElem h2] at this
  simpa using this

theorem nth_set (xs : List Int) (k j : Nat) (x : Int) (hk : k < xs.length) : (xs.set k x).getD j 0 = if j = k then x else xs.getD j 0 := by
  simp only [List.getD_eq_getElem?_getD, List.getElem?_set]
  by_cases h : k = j
  · subst h; simp [hk]
  · have : ¬ j = k := fun e => h e.symm
    simp [h, this]

end Go.Proofs.YtghngopclhhoeaaDoor
