/- What a ring of things of 16 cells is, as data; no Go function is walked here. -/
import Derived.Test.YteindmdggpahfaaCaP
namespace Go.Proofs.Yteindmdggpahfaa
open Go.RowKit
set_option maxRecDepth 8000

/-- The places of a ring hold these things of 16 cells each: at most m, the first one at place 'first'. -/
structure RingZ (m : Nat) (xs : List (List Value)) (first : Nat) (f : Nat → Value) : Prop where
  most : m ≤ 64
  few : xs.length ≤ m
  first_lt : first < m ∨ (m = 0 ∧ first = 0)
  cm : f 1024 = .int .i64 m
  cf : f 1025 = .int .i64 first
  cc : f 1026 = .int .i64 xs.length
  at' : ∀ i x, xs[i]? = some x → ∀ j, j < 16 → f ((first + i) % m * 16 + j) = x.getD j (.bool false)
  one : ∀ i, (f i).oneCell' = true
  made : f 1027 = .bool true

/-- A ring in memory, in a block of N cells of the type T. -/
def IsRz (T : TypeId) (N : Nat) (w : World) (p m : Nat) (xs : List (List Value)) : Prop := 1027 ≤ N ∧ ∃ first f, w.rowIs p T N f ∧ RingZ m xs first f

theorem IsRz.lt {T : TypeId} {N : Nat} {w : World} {p m : Nat} {xs : List (List Value)} (h : IsRz T N w p m xs) : p < w.heap.size := by
  obtain ⟨_, _, _, h, _⟩ := h
  exact h.lt

theorem IsRz.of_block {T : TypeId} {N : Nat} {w w' : World} {p m : Nat} {xs : List (List Value)} (h : IsRz T N w p m xs) (e : w'.heap[p]? = w.heap[p]?) : IsRz T N w' p m xs := by
  obtain ⟨c, a, b, h, k⟩ := h
  exact ⟨c, a, b, h.of_block e, k⟩

theorem IsRz.kept {T : TypeId} {N : Nat} {w w' : World} {S : Nat → Prop} {p m : Nat} {xs : List (List Value)} (h : IsRz T N w p m xs) (hk : Kept w w' S) (hS : ¬ S p) : IsRz T N w' p m xs :=
  h.of_block (hk.block p h.lt hS)

/-- What stands in the 16 cells from o on. -/
def put16 (f : Nat → Value) (o : Nat) (x : List Value) : Nat → Value := fun j => if o ≤ j ∧ j < o + 16 then x.getD (j - o) (.bool false) else f j

theorem put16_in {f : Nat → Value} {o : Nat} {x : List Value} {j : Nat} (h : j < 16) : put16 f o x (o + j) = x.getD j (.bool false) := by
  unfold put16
  rw [if_pos ⟨by omega, by omega⟩, Nat.add_sub_cancel_left]
theorem put16_out {f : Nat → Value} {o : Nat} {x : List Value} {j : Nat} (h : j < o ∨ o + 16 ≤ j) : put16 f o x j = f j := by
  unfold put16
  rw [if_neg (by omega)]

/-- A Put into a ring that is not full. -/
theorem RingZ.put {m : Nat} {xs : List (List Value)} {first : Nat} {f : Nat → Value} (h : RingZ m xs first f) (hr : xs.length < m) (x : List Value) (hx : ∀ u ∈ x, u.oneCell' = true) :
    RingZ m (xs ++ [x]) first (fun j => if j = 1026 then .int .i64 ((xs.length : Int) + 1) else put16 f ((first + xs.length) % m * 16) x j) := by
  obtain ⟨h1, h2, h3, h4, h5, h6, h7, h8, h9⟩ := h
  have hm : ∀ a, a % m < 64 := fun a => by have := Nat.mod_lt a (show m > 0 by omega); omega
  have hmx := hm (first + xs.length)
  refine ⟨h1, by simp; omega, h3, ?_, ?_, ?_, ?_, fun i => ?_, by rw [if_neg (by omega), put16_out (by omega)]; exact h9⟩
  · rw [if_neg (by omega), put16_out (by omega)]; exact h4
  · rw [if_neg (by omega), put16_out (by omega)]; exact h5
  · rw [if_pos rfl]; simp
  · intro i y hy j hj
    have := hm (first + i)
    rw [if_neg (by omega)]
    by_cases hi : i < xs.length
    · rw [List.getElem?_append_left hi] at hy
      have hne := mod_ne (m := m) (a := first) (b := i) (c := xs.length) (by omega) (by omega) (by omega)
      rw [put16_out (by omega)]
      exact h7 i y hy j hj
    · by_cases he : i = xs.length
      · subst he
        rw [List.getElem?_append_right (Nat.le_refl _)] at hy
        simp at hy
        rw [put16_in hj, hy]
      · rw [List.getElem?_append_right (by omega), List.getElem?_eq_none (by simp; omega)] at hy
        cases hy
  · by_cases e1 : i = 1026
    · rw [if_pos e1]; rfl
    · rw [if_neg e1]
      unfold put16
      split
      · rw [List.getD_eq_getElem?_getD]
        cases hq : x[i - (first + xs.length) % m * 16]? with
        | none => rfl
        | some u => exact hx u (List.mem_of_getElem? hq)
      · exact h8 i

/-- The first of a full ring goes. -/
theorem RingZ.shed {m : Nat} {xs : List (List Value)} {first : Nat} {f : Nat → Value} (h : RingZ m xs first f) (hm0 : 0 < m) (hr : xs.length = m) :
    RingZ m (xs.drop 1) ((first + 1) % m) (fun j => if j = 1026 then .int .i64 ((xs.length : Int) - 1) else if j = 1025 then .int .i64 (((first + 1) % m : Nat) : Int) else f j) := by
  obtain ⟨h1, h2, h3, h4, h5, h6, h7, h8, h9⟩ := h
  have hm : ∀ a, a % m < 64 := fun a => by have := Nat.mod_lt a (show m > 0 by omega); omega
  refine ⟨h1, by rw [List.length_drop]; omega, .inl (Nat.mod_lt _ hm0), ?_, ?_, ?_, ?_, fun i => ?_, by rw [if_neg (by omega), if_neg (by omega)]; exact h9⟩
  · rw [if_neg (by omega), if_neg (by omega)]; exact h4
  · rw [if_neg (by omega), if_pos rfl]
  · rw [if_pos rfl, List.length_drop]; congr 1; omega
  · intro i y hy j hj
    have := hm ((first + 1) % m + i)
    rw [if_neg (by omega), if_neg (by omega)]
    rw [List.getElem?_drop] at hy
    have := h7 (1 + i) y hy j hj
    rw [Nat.mod_add_mod, Nat.add_assoc]
    exact this
  · by_cases e1 : i = 1026
    · rw [if_pos e1]; rfl
    · rw [if_neg e1]
      by_cases e2 : i = 1025
      · rw [if_pos e2]; rfl
      · rw [if_neg e2]; exact h8 i
end Go.Proofs.Yteindmdggpahfaa
