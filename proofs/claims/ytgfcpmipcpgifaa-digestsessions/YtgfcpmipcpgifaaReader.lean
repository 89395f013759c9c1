/- What the Reader's calls of package pack do: what is answered, what is left, and the fault. -/
import Derived.Test.YtgfcpmipcpgifaaWriter
namespace Go.Proofs.Ytgfcpmipcpgifaa
open Go.RowKit
set_option maxRecDepth 8000

section
variable {w : World} {g : Nat} {v : Value} {xs : List Int} {f : Int}
theorem sees_shape (h : Sees w v xs) : ∃ ao n c, v = .slice ao n c := by
  obtain ⟨ao, cap, rfl, _⟩ := h
  exact ⟨_, _, _, rfl⟩

/-- A slice that is seen stays so while a block changes in which it has no byte. -/
theorem Sees.set (h : Sees w v xs) (a : Addr) (u : Value) (hn : xs ≠ [] → v.ownBlock ≠ some a.block) : Sees (w.setCell a u) v xs := by
  obtain ⟨ao, cap, rfl, g1, g2, g0, g3⟩ := h
  refine ⟨ao, cap, rfl, g1, g2, g0, ?_⟩
  by_cases hx : xs = []
  · exact .inl hx
  · rcases g3 with g3 | ⟨b, off, rfl, g3⟩
    · exact .inl g3
    · refine .inr ⟨b, off, rfl, fun i hi => ?_⟩
      have hb : b ≠ a.block := fun e => hn hx (by simp [Value.ownBlock, e])
      rw [World.cell?_of_block (w := w) (w' := w.setCell a u) (Below.heap_setCell w a u b hb)]
      exact g3 i hi

end
theorem sees_take {w : World} {ao : Option Addr} {xs : List Int} {cap n : Nat} (h : Sees w (.slice ao xs.length cap) xs) (hn : n ≤ xs.length) : Sees w (.slice ao n n) (xs.take n) := by
  obtain ⟨ao', cap', e, g1, g2, g0, g3⟩ := h
  simp at e
  obtain ⟨rfl, rfl⟩ := e
  have hl : (xs.take n).length = n := by simp; omega
  refine ⟨ao, n, by rw [hl], by omega, by omega, fun e => by have := g0 e; omega, ?_⟩
  by_cases hx : n = 0
  · subst hx; exact .inl (by simp)
  · rcases g3 with g3 | ⟨b, off, rfl, g3⟩
    · subst g3; exact .inl (by simp)
    · refine .inr ⟨b, off, rfl, fun i hi => ?_⟩
      rw [g3 i (by omega)]
      have : i < n := by omega
      simp [List.getD_eq_getElem?_getD, this]

/-- What is left of a slice behind its first n bytes, as Go cuts it. -/
def cutFrom (v : Value) (n : Nat) : Value := match v with
  | .slice ao l c => if c = n then .slice ao (l - n) 0 else .slice (ao.map (·.add n)) (l - n) (c - n)
  | u => u

theorem addr_add (b off n : Nat) : (⟨b, off, none⟩ : Addr).add n = ⟨b, off + n, none⟩ := by
  by_cases h : n = 0
  · subst h; simp [Addr.add]
  · simp [Addr.add, h]

theorem sees_drop {w : World} {ao : Option Addr} {xs : List Int} {cap n : Nat} (h : Sees w (.slice ao xs.length cap) xs) (hn : n ≤ xs.length) : Sees w (cutFrom (.slice ao xs.length cap) n) (xs.drop n) := by
  obtain ⟨ao', cap', e, g1, g2, g0, g3⟩ := h
  simp at e
  obtain ⟨rfl, rfl⟩ := e
  have hl : (xs.drop n).length = xs.length - n := by simp
  unfold cutFrom
  simp only
  by_cases hc : cap = n
  · rw [if_pos hc]
    have : xs.drop n = [] := List.eq_nil_of_length_eq_zero (by omega)
    exact ⟨ao, 0, by rw [hl], by omega, by unfold maxLen; omega, fun _ => rfl, .inl this⟩
  · rw [if_neg hc]
    refine ⟨_, cap - n, by rw [hl], by omega, by omega, fun e => ?_, ?_⟩
    · cases ao with
      | none => have := g0 rfl; omega
      | some a => simp at e
    · rcases g3 with g3 | ⟨b, off, rfl, g3⟩
      · subst g3; exact .inl (by simp)
      · refine .inr ⟨b, off + n, by simp [addr_add], fun i hi => ?_⟩
        have := g3 (n + i) (by omega)
        rw [Nat.add_assoc, this]
        simp [List.getD_eq_getElem?_getD]

theorem cutFrom_block {ao : Option Addr} {l c n k : Nat} (h : (cutFrom (.slice ao l c) n).ownBlock = some k) : (Value.slice ao l c).ownBlock = some k := by
  unfold cutFrom at h
  simp only at h
  by_cases hc : c = n
  · rw [if_pos hc] at h
    cases ao with
    | none => simp [Value.ownBlock] at h
    | some a => simpa [Value.ownBlock] using h
  · rw [if_neg hc] at h
    cases ao with
    | none => simp [Value.ownBlock] at h
    | some a =>
      obtain ⟨b, off, sp⟩ := a
      simp [Value.ownBlock, Addr.add] at h ⊢
      by_cases hn : n = 0
      · simpa [hn] using h
      · simpa [hn] using h

/-- A Reader's state behind a call. -/
structure Rd where
  out : Int
  rest : List Int
  fault : Int

/-- n bytes as a number: by the document. -/
def rdNum (n : Nat) (xs : List Int) (f : Int) : Rd :=
  if f ≠ 0 then ⟨0, xs, f⟩ else if xs.length < n then ⟨0, xs, 10⟩ else ⟨num (xs.take n), xs.drop n, 0⟩

theorem sees_nil (w : World) : Sees w (.slice none 0 0) [] := ⟨none, 0, rfl, Nat.le_refl _, by unfold maxLen; omega, fun _ => rfl, .inl rfl⟩

/-- A number of 32 bits as an int32. -/
def down32 (n : Int) : Int := wrap32 n
theorem down32_is (n : Int) (h0 : 0 ≤ n) (h1 : n < 4294967296) : down32 n = if n ≤ 2147483647 then n else n - 4294967296 := by
  unfold down32 wrap32; split <;> omega

theorem rdNum_bd (n : Nat) (xs : List Int) (f : Int) (hb : Byts xs) : 0 ≤ (rdNum n xs f).out ∧ (rdNum n xs f).out < 256 ^ n := by
  have h0 : (0 : Int) < 256 ^ n := Int.pow_pos (by decide)
  unfold rdNum
  by_cases hf : f ≠ 0
  · rw [if_pos hf]; exact ⟨Int.le_refl _, h0⟩
  · rw [if_neg hf]
    by_cases hl : xs.length < n
    · rw [if_pos hl]; exact ⟨Int.le_refl _, h0⟩
    · rw [if_neg hl]; exact num_bd xs hb n (by omega)

theorem sees_first {w : World} {ao : Option Addr} {n c : Nat} {xs : List Int} (h : Sees w (.slice ao n c) (xs.take n)) (hn : 0 < n ∧ 0 < xs.length) : ∃ b off, ao = some ⟨b, off, none⟩ ∧ w.cell? ⟨b, off, none⟩ = some (.int .u8 (xs.getD 0 0)) := by
  obtain ⟨ao', cap, e, _, _, _, h3⟩ := h
  simp at e
  obtain ⟨rfl, _, _⟩ := e
  rcases h3 with h3 | ⟨b, off, rfl, h3⟩
  · have : (xs.take n).length = 0 := by rw [h3]; rfl
    rw [List.length_take] at this
    omega
  · refine ⟨b, off, rfl, ?_⟩
    have := h3 0 (by simp; omega)
    rw [Nat.add_zero] at this
    rw [this]
    have hn' : 0 < n := hn.1
    simp [List.getD_eq_getElem?_getD, hn']

end Go.Proofs.Ytgfcpmipcpgifaa
