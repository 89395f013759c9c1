/- What a ring of package cache is, as data: the last things, laid in places that are gone round; no Go function is walked here. -/
import Derived.WalkKit
import Derived.Deep.OwnRows
import Derived.Test.YtlnoighjdmjdeaaMem
namespace Go.Proofs.Ytlnoighjdmjdeaa
open Go.RowKit
set_option maxRecDepth 8000

/-- The last m of a list. -/
def lastN {α : Type} (m : Nat) (l : List α) : List α := l.drop (l.length - m)

theorem lastN_length {α : Type} (m : Nat) (l : List α) : (lastN m l).length = min l.length m := by
  unfold lastN
  rw [List.length_drop]
  omega

theorem lastN_short {α : Type} {m : Nat} {l : List α} (h : l.length ≤ m) : lastN m l = l := by
  unfold lastN
  rw [show l.length - m = 0 by omega]
  rfl

theorem lastN_nil {α : Type} (m : Nat) : lastN m ([] : List α) = [] := by simp [lastN]

/-- One more behind the last m: the last m of all. -/
theorem lastN_snoc {α : Type} (m : Nat) (l : List α) (x : α) : lastN m (lastN m l ++ [x]) = lastN m (l ++ [x]) := by
  unfold lastN
  by_cases h : l.length ≤ m
  · rw [show l.length - m = 0 by omega]; rfl
  · rw [← List.drop_append_of_le_length (show l.length - m ≤ l.length by omega), List.drop_drop]
    congr 1
    simp only [List.length_append, List.length_drop, List.length_cons, List.length_nil]
    omega

theorem lastN_getElem? {α : Type} (m : Nat) (l : List α) (i : Nat) : (lastN m l)[i]? = l[l.length - m + i]? := by
  unfold lastN
  rw [List.getElem?_drop]

/-- The places of a ring hold these things: at most m, the first one at place 'first'. -/
structure RingF (m : Nat) (xs : List Value) (first : Nat) (f : Nat → Value) : Prop where
  most : m ≤ 64
  few : xs.length ≤ m
  first_lt : first < m ∨ (m = 0 ∧ first = 0)
  cm : f 64 = .int .i64 m
  cf : f 65 = .int .i64 first
  cc : f 66 = .int .i64 xs.length
  at' : ∀ i x, xs[i]? = some x → f ((first + i) % m) = x
  one : ∀ i, (f i).oneCell' = true

/-- A ring in memory. -/
def IsRg (T : TypeId) (w : World) (p m : Nat) (xs : List Value) : Prop := ∃ first f, w.rowIs p T 67 f ∧ RingF m xs first f

theorem IsRg.lt {T : TypeId} {w : World} {p m : Nat} {xs : List Value} (h : IsRg T w p m xs) : p < w.heap.size := by
  obtain ⟨_, _, h, _⟩ := h
  exact h.lt

theorem IsRg.of_block {T : TypeId} {w w' : World} {p m : Nat} {xs : List Value} (h : IsRg T w p m xs) (e : w'.heap[p]? = w.heap[p]?) : IsRg T w' p m xs := by
  obtain ⟨a, b, h, k⟩ := h
  exact ⟨a, b, h.of_block e, k⟩

theorem IsRg.kept {T : TypeId} {w w' : World} {S : Nat → Prop} {p m : Nat} {xs : List Value} (h : IsRg T w p m xs) (hk : Kept w w' S) (hS : ¬ S p) : IsRg T w' p m xs :=
  h.of_block (hk.block p h.lt hS)

theorem IsRg.below {T : TypeId} {w w' : World} {B p m : Nat} {xs : List Value} (h : IsRg T w p m xs) (hk : Below B w w') (hB : p < B) : IsRg T w' p m xs :=
  h.of_block (hk.block p hB)

theorem mod_ne {m a b c : Nat} (hb : b < m) (hc : c < m) (h : b ≠ c) : (a + b) % m ≠ (a + c) % m := by
  intro e
  have h1 := Nat.div_add_mod (a + b) m
  have h2 := Nat.div_add_mod (a + c) m
  rw [e] at h1
  generalize (a + b) / m = q1 at *
  generalize (a + c) / m = q2 at *
  rcases Nat.lt_trichotomy q1 q2 with hq | hq | hq
  · obtain ⟨d, rfl⟩ : ∃ d, q2 = q1 + 1 + d := ⟨q2 - q1 - 1, by omega⟩
    have : m * (q1 + 1 + d) = m * q1 + m + m * d := by rw [Nat.mul_add, Nat.mul_add, Nat.mul_one]
    have h0 : 0 ≤ m * d := Nat.zero_le _
    omega
  · subst hq; omega
  · obtain ⟨d, rfl⟩ : ∃ d, q1 = q2 + 1 + d := ⟨q1 - q2 - 1, by omega⟩
    have : m * (q2 + 1 + d) = m * q2 + m + m * d := by rw [Nat.mul_add, Nat.mul_add, Nat.mul_one]
    have h0 : 0 ≤ m * d := Nat.zero_le _
    omega

/-- A Put into a ring that is not full. -/
theorem RingF.put {m : Nat} {xs : List Value} {first : Nat} {f : Nat → Value} (h : RingF m xs first f) (hr : xs.length < m) (x : Value) (hx : x.oneCell' = true) :
    RingF m (xs ++ [x]) first (fun j => if j = 66 then .int .i64 ((xs.length : Int) + 1) else if j = (first + xs.length) % m then x else f j) := by
  obtain ⟨h1, h2, h3, h4, h5, h6, h7, h8⟩ := h
  have hm : ∀ a, a % m < 64 := fun a => by have := Nat.mod_lt a (show m > 0 by omega); omega
  have hmx := hm (first + xs.length)
  refine ⟨h1, by simp; omega, h3, ?_, ?_, ?_, ?_, fun i => ?_⟩
  · rw [if_neg (by omega), if_neg (by omega)]; exact h4
  · rw [if_neg (by omega), if_neg (by omega)]; exact h5
  · rw [if_pos rfl]; simp
  · intro i y hy
    have := hm (first + i)
    rw [if_neg (by omega)]
    by_cases hi : i < xs.length
    · rw [List.getElem?_append_left hi] at hy
      rw [if_neg (mod_ne (by omega) (by omega) (by omega))]
      exact h7 i y hy
    · by_cases he : i = xs.length
      · subst he
        rw [List.getElem?_append_right (Nat.le_refl _)] at hy
        simp at hy
        rw [if_pos rfl, hy]
      · rw [List.getElem?_append_right (by omega), List.getElem?_eq_none (by simp; omega)] at hy
        cases hy
  · by_cases e1 : i = 66
    · rw [if_pos e1]; rfl
    · rw [if_neg e1]
      by_cases e2 : i = (first + xs.length) % m
      · rw [if_pos e2]; exact hx
      · rw [if_neg e2]; exact h8 i

/-- The first of a full ring goes. -/
theorem RingF.shed {m : Nat} {xs : List Value} {first : Nat} {f : Nat → Value} (h : RingF m xs first f) (hm0 : 0 < m) (hr : xs.length = m) :
    RingF m (xs.drop 1) ((first + 1) % m) (fun j => if j = 66 then .int .i64 ((xs.length : Int) - 1) else if j = 65 then .int .i64 (((first + 1) % m : Nat) : Int) else f j) := by
  obtain ⟨h1, h2, h3, h4, h5, h6, h7, h8⟩ := h
  have hm : ∀ a, a % m < 64 := fun a => by have := Nat.mod_lt a (show m > 0 by omega); omega
  refine ⟨h1, by rw [List.length_drop]; omega, .inl (Nat.mod_lt _ hm0), ?_, ?_, ?_, ?_, fun i => ?_⟩
  · rw [if_neg (by omega), if_neg (by omega)]; exact h4
  · rw [if_neg (by omega), if_pos rfl]
  · rw [if_pos rfl, List.length_drop]; congr 1; omega
  · intro i y hy
    have := hm ((first + 1) % m + i)
    rw [if_neg (by omega), if_neg (by omega)]
    rw [List.getElem?_drop] at hy
    have := h7 (1 + i) y hy
    rw [Nat.mod_add_mod, Nat.add_assoc]
    exact this
  · by_cases e1 : i = 66
    · rw [if_pos e1]; rfl
    · rw [if_neg e1]
      by_cases e2 : i = 65
      · rw [if_pos e2]; rfl
      · rw [if_neg e2]; exact h8 i

theorem lastN_full {m : Nat} {xs : List Value} (x : Value) (hm0 : 0 < m) (hr : xs.length = m) : lastN m (xs ++ [x]) = xs.drop 1 ++ [x] := by
  unfold lastN
  simp only [List.length_append, List.length_cons, List.length_nil]
  rw [show xs.length + (0 + 1) - m = 1 by omega, List.drop_append_of_le_length (by omega)]

end Go.Proofs.Ytlnoighjdmjdeaa
