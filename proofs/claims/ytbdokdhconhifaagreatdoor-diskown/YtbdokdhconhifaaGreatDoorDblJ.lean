/- What the Writer's calls of package pack do: each puts the bytes of its value behind those that the Writer has. -/
import Derived.Test.YtbdokdhconhifaaGreatDoorProg
import Derived.Test.YtbdokdhconhifaaGreatDoorMemJ
import Derived.Lib.SliceRun
import Derived.WalkKit
import Derived.Laws.FloatArith
namespace Go.Proofs.YtbdokdhconhifaaGreatDoor
open Go.RowKit
set_option maxRecDepth 8000

theorem Tryz.infoByte' : (Tryz.prog.info? 5).map (fun i => (i.zero, i.size, i.bytes)) = some (some (.int .u8 0), 1, 1) := by kernel_rfl

/-- A list of bytes that has just been laid in a new block. -/
theorem sees_new {w : World} (cs : Array Value) (ys : List Int) (hl : ys.length ≤ 4096) (h : cs.toList = ys.map (Value.int .u8)) : Sees (w.alloc (.cells cs 5)) (.slice (some ⟨w.heap.size, 0, none⟩) ys.length ys.length) ys := by
  refine ⟨_, _, rfl, Nat.le_refl _, by unfold maxLen; omega, fun e => by simp at e, .inr ⟨_, _, rfl, fun i hi => ?_⟩⟩
  rw [Nat.zero_add, cell_of_row _ w.heap.size i cs 5 (0, 0) (heap_alloc_new w _), ← Array.getElem?_toList, h]
  simp [hi, List.getD_eq_getElem?_getD]

/-- The bytes of a number from 0 on, the highest first. -/
def be4 (n : Int) : List Int := [n / 16777216, n / 65536 % 256, n / 256 % 256, n % 256]

/-- An int32's number in its four bytes: below 0 2^32 more. -/
def up32 (n : Int) : Int := n % 4294967296

end Go.Proofs.YtbdokdhconhifaaGreatDoor

/- What the Reader's calls of package pack do: what is answered, what is left, and the fault. -/
namespace Go.Proofs.YtbdokdhconhifaaGreatDoor
open Go.RowKit
set_option maxRecDepth 8000

section
variable {w : World} {g : Nat} {v : Value} {xs : List Int} {f : Int}
theorem sees_shape (h : Sees w v xs) : ∃ ao n c, v = .slice ao n c := by
  obtain ⟨ao, cap, rfl, _⟩ := h
  exact ⟨_, _, _, rfl⟩

/-- A slice that is seen stays so while a block changes in which it has no byte. -/
theorem Sees.set (h : Sees w v xs) (a : Addr) (u : Value) (hn : xs ≠ [] → v.ownBlock ≠ some a.block) : Sees (w.setCell a u) v xs := by
  obtain ⟨ao, cap, rfl, g1, g2, g0, g3⟩ := h
  refine ⟨ao, cap, rfl, g1, g2, g0, ?_⟩
  by_cases hx : xs = []
  · exact .inl hx
  · rcases g3 with g3 | ⟨b, off, rfl, g3⟩
    · exact .inl g3
    · refine .inr ⟨b, off, rfl, fun i hi => ?_⟩
      have hb : b ≠ a.block := fun e => hn hx (by simp [Value.ownBlock, e])
      rw [World.cell?_of_block (w := w) (w' := w.setCell a u) (Below.heap_setCell w a u b hb)]
      exact g3 i hi

end
theorem sees_take {w : World} {ao : Option Addr} {xs : List Int} {cap n : Nat} (h : Sees w (.slice ao xs.length cap) xs) (hn : n ≤ xs.length) : Sees w (.slice ao n n) (xs.take n) := by
  obtain ⟨ao', cap', e, g1, g2, g0, g3⟩ := h
  simp at e
  obtain ⟨rfl, rfl⟩ := e
  have hl : (xs.take n).length = n := by simp; omega
  refine ⟨ao, n, by rw [hl], by omega, by omega, fun e => by have := g0 e; omega, ?_⟩
  by_cases hx : n = 0
  · subst hx; exact .inl (by simp)
  · rcases g3 with g3 | ⟨b, off, rfl, g3⟩
    · subst g3; exact .inl (by simp)
    · refine .inr ⟨b, off, rfl, fun i hi => ?_⟩
      rw [g3 i (by omega)]
      have : i < n := by omega
      simp [List.getD_eq_getElem?_getD, this]

/-- What is left of a slice behind its first n bytes, as Go cuts it. -/
def cutFrom (v : Value) (n : Nat) : Value := match v with
  | .slice ao l c => if c = n then .slice ao (l - n) 0 else .slice (ao.map (·.add n)) (l - n) (c - n)
  | u => u

theorem addr_add (b off n : Nat) : (⟨b, off, none⟩ : Addr).add n = ⟨b, off + n, none⟩ := by
  by_cases h : n = 0
  · subst h; simp [Addr.add]
  · simp [Addr.add, h]

theorem sees_drop {w : World} {ao : Option Addr} {xs : List Int} {cap n : Nat} (h : Sees w (.slice ao xs.length cap) xs) (hn : n ≤ xs.length) : Sees w (cutFrom (.slice ao xs.length cap) n) (xs.drop n) := by
  obtain ⟨ao', cap', e, g1, g2, g0, g3⟩ := h
  simp at e
  obtain ⟨rfl, rfl⟩ := e
  have hl : (xs.drop n).length = xs.length - n := by simp
  unfold cutFrom
  simp only
  by_cases hc : cap = n
  · rw [if_pos hc]
    have : xs.drop n = [] := List.eq_nil_of_length_eq_zero (by omega)
    exact ⟨ao, 0, by rw [hl], by omega, by unfold maxLen; omega, fun _ => rfl, .inl this⟩
  · rw [if_neg hc]
    refine ⟨_, cap - n, by rw [hl], by omega, by omega, fun e => ?_, ?_⟩
    · cases ao with
      | none => have := g0 rfl; omega
      | some a => simp at e
    · rcases g3 with g3 | ⟨b, off, rfl, g3⟩
      · subst g3; exact .inl (by simp)
      · refine .inr ⟨b, off + n, by simp [addr_add], fun i hi => ?_⟩
        have := g3 (n + i) (by omega)
        rw [Nat.add_assoc, this]
        simp [List.getD_eq_getElem?_getD]

theorem cutFrom_block {ao : Option Addr} {l c n k : Nat} (h : (cutFrom (.slice ao l c) n).ownBlock = some k) : (Value.slice ao l c).ownBlock = some k := by
  unfold cutFrom at h
  simp only at h
  by_cases hc : c = n
  · rw [if_pos hc] at h
    cases ao with
    | none => simp [Value.ownBlock] at h
    | some a => simpa [Value.ownBlock] using h
  · rw [if_neg hc] at h
    cases ao with
    | none => simp [Value.ownBlock] at h
    | some a =>
      obtain ⟨b, off, sp⟩ := a
      simp [Value.ownBlock, Addr.add] at h ⊢
      by_cases hn : n = 0
      · simpa [hn] using h
      · simpa [hn] using h

/-- A Reader's state behind a call. -/
structure Rd where
  out : Int
  rest : List Int
  fault : Int

/-- n bytes as a number: by the document. -/
def rdNum (n : Nat) (xs : List Int) (f : Int) : Rd :=
  if f ≠ 0 then ⟨0, xs, f⟩ else if xs.length < n then ⟨0, xs, 10⟩ else ⟨num (xs.take n), xs.drop n, 0⟩

theorem sees_nil (w : World) : Sees w (.slice none 0 0) [] := ⟨none, 0, rfl, Nat.le_refl _, by unfold maxLen; omega, fun _ => rfl, .inl rfl⟩

/-- A number of 32 bits as an int32. -/
def down32 (n : Int) : Int := wrap32 n
theorem down32_is (n : Int) (h0 : 0 ≤ n) (h1 : n < 4294967296) : down32 n = if n ≤ 2147483647 then n else n - 4294967296 := by
  unfold down32 wrap32; split <;> omega

theorem rdNum_bd (n : Nat) (xs : List Int) (f : Int) (hb : Byts xs) : 0 ≤ (rdNum n xs f).out ∧ (rdNum n xs f).out < 256 ^ n := by
  have h0 : (0 : Int) < 256 ^ n := Int.pow_pos (by decide)
  unfold rdNum
  by_cases hf : f ≠ 0
  · rw [if_pos hf]; exact ⟨Int.le_refl _, h0⟩
  · rw [if_neg hf]
    by_cases hl : xs.length < n
    · rw [if_pos hl]; exact ⟨Int.le_refl _, h0⟩
    · rw [if_neg hl]; exact num_bd xs hb n (by omega)

theorem sees_first {w : World} {ao : Option Addr} {n c : Nat} {xs : List Int} (h : Sees w (.slice ao n c) (xs.take n)) (hn : 0 < n ∧ 0 < xs.length) : ∃ b off, ao = some ⟨b, off, none⟩ ∧ w.cell? ⟨b, off, none⟩ = some (.int .u8 (xs.getD 0 0)) := by
  obtain ⟨ao', cap, e, _, _, _, h3⟩ := h
  simp at e
  obtain ⟨rfl, _, _⟩ := e
  rcases h3 with h3 | ⟨b, off, rfl, h3⟩
  · have : (xs.take n).length = 0 := by rw [h3]; rfl
    rw [List.length_take] at this
    omega
  · refine ⟨b, off, rfl, ?_⟩
    have := h3 0 (by simp; omega)
    rw [Nat.add_zero] at this
    rw [this]
    have hn' : 0 < n := hn.1
    simp [List.getD_eq_getElem?_getD, hn']

end Go.Proofs.YtbdokdhconhifaaGreatDoor

/- What the Reader's size does: it looks at a length, or at a count, and stays ahead of it; the fault where it may not be. -/
namespace Go.Proofs.YtbdokdhconhifaaGreatDoor
open Go.RowKit
set_option maxRecDepth 8000

/-- The count that stands ahead: the first four bytes as an int32. -/
def ahead (xs : List Int) : Int := wrap32 (num (xs.take 4))

theorem wrap32_bd (n : Int) : -2147483648 ≤ wrap32 n ∧ wrap32 n ≤ 2147483647 := by unfold wrap32; omega

section
variable (g : Nat) (v : Value) (xs : List Int) (most : Int) (w : World)

end
end Go.Proofs.YtbdokdhconhifaaGreatDoor

/- Plain facts on IEEE 754 doubles as words: what a word with sign, exponent and fraction stands for, and that doubling, halving, comparing and taking 1 away are exact where the document's own Bits does them; no Go function is walked here. -/
namespace Go.Proofs.YtbdokdhconhifaaGreatDoor
open Ieee
set_option maxRecDepth 8000

theorem dSign : double.signWeight = 9223372036854775808 := by decide
theorem dBin : double.binade = 4503599627370496 := by decide
theorem dInf : double.infRung = 9218868437227405312 := by decide
theorem dLeast : double.leastPlace = -1074 := by decide
theorem dFrac : double.fractionBits = 52 := by decide

/-- q and m in their one form: below 2^52 only with q = 0. The number is m * 2^(q - 1074). -/
def Can (q m : Nat) : Prop := q ≤ 2045 ∧ m < 9007199254740992 ∧ (q = 0 ∨ 4503599627370496 ≤ m)

/-- The word of q and m. -/
def wd (q m : Nat) : Nat := q * 4503599627370496 + m

theorem read_wd {q m : Nat} (h : Can q m) : double.read (wd q m) = .number false m ((q : Int) - 1074) := by
  obtain ⟨h1, h2, h3⟩ := h
  unfold Format.read
  simp only [dSign, dBin, dInf, dLeast]
  have e0 : wd q m < 9223372036854775808 := by unfold wd; omega
  have e1 : wd q m / 9223372036854775808 = 0 := Nat.div_eq_of_lt e0
  have e2 : wd q m % 9223372036854775808 = wd q m := Nat.mod_eq_of_lt e0
  rw [e1, e2]
  by_cases hs : wd q m < 4503599627370496
  · rw [if_pos hs]
    have hq : q = 0 := by unfold wd at hs; omega
    subst hq
    simp [wd]
  · rw [if_neg hs]
    have hlt : wd q m < 9218868437227405312 := by unfold wd; omega
    rw [if_pos hlt]
    have e3 : wd q m % 4503599627370496 = m - 4503599627370496 := by unfold wd at *; omega
    have e4 : wd q m / 4503599627370496 = q + 1 := by unfold wd at *; omega
    rw [e3, e4]
    have e5 : 4503599627370496 + (m - 4503599627370496) = m := by unfold wd at hs; omega
    rw [e5]
    congr 1

theorem log2_shift (m s : Nat) (hm : m ≠ 0) : (m * 2 ^ s).log2 = m.log2 + s := by
  induction s with
  | zero => simp
  | succ s ih =>
    have e : m * 2 ^ (s + 1) = 2 * (m * 2 ^ s) := by rw [Nat.pow_succ]; simp [Nat.mul_comm, Nat.mul_left_comm]
    rw [e, Nat.log2_two_mul (Nat.mul_ne_zero hm (Nat.pos_iff_ne_zero.1 (Nat.two_pow_pos s))), ih]
    omega

theorem cut_exact (m s : Nat) (hm : m ≠ 0) : Toward.even.cut false (m * 2 ^ s) s = m := by
  unfold Toward.cut
  simp only
  have e1 : min s ((m * 2 ^ s).log2 + 2) = s := by rw [log2_shift m s hm]; omega
  rw [e1, Nat.one_shiftLeft]
  have hp := Nat.two_pow_pos s
  have e2 : m * 2 ^ s % 2 ^ s = 0 := Nat.mul_mod_left _ _
  have e3 : m * 2 ^ s / 2 ^ s = m := Nat.mul_div_cancel _ hp
  rw [e2, e3]
  have e4 : (decide (2 ^ s < 2 * 0) || (2 ^ s == 2 * 0) && (m % 2 == 1)) = false := by
    simp
  rw [e4]
  rfl

theorem log2_can {q m : Nat} (h : Can q m) (hm : m ≠ 0) : (q = 0 ∧ m.log2 ≤ 52) ∨ m.log2 = 52 := by
  obtain ⟨h1, h2, h3⟩ := h
  rcases h3 with h3 | h3
  · exact .inl ⟨h3, by have := (Nat.log2_lt hm (k := 53)).2 (by omega); omega⟩
  · refine .inr ((Nat.log2_eq_iff hm).2 ⟨by omega, by omega⟩)

/-- What is exactly a double is written as it. -/
theorem nearest_wd {q m s : Nat} {t : Int} (h : Can q m) (hm : m ≠ 0) (ht : t + s = (q : Int) - 1074) : double.nearest false (m * 2 ^ s) t = wd q m := by
  have hp := Nat.two_pow_pos s
  have hn : m * 2 ^ s ≠ 0 := Nat.mul_ne_zero hm (by omega)
  unfold Format.nearest
  rw [if_neg hn]
  simp only [dLeast, dFrac, dBin, dInf]
  rw [log2_shift m s hm]
  have hl : max (t + ((m.log2 + s : Nat) : Int) - ((52 : Nat) : Int)) (-1074) = (q : Int) - 1074 := by
    rcases log2_can h hm with ⟨rfl, h1⟩ | h1
    · rw [Int.max_def]; split <;> omega
    · rw [h1, Int.max_def]; split <;> omega
  rw [hl]
  have e1 : (t - ((q : Int) - 1074)).toNat = 0 := by omega
  have e2 : ((q : Int) - 1074 - t).toNat = s := by omega
  have e3 : ((q : Int) - 1074 - -1074).toNat = q := by omega
  rw [e1, e2, e3, Nat.shiftLeft_zero, cut_exact m s hm]
  obtain ⟨h1, h2, h3⟩ := h
  have e4 : min (q * 4503599627370496 + m) 9218868437227405312 = q * 4503599627370496 + m := by omega
  rw [e4]
  rfl

theorem can_two : Can 1023 4503599627370496 := ⟨by omega, by omega, .inr (by omega)⟩
theorem can_one : Can 1022 4503599627370496 := ⟨by omega, by omega, .inr (by omega)⟩
theorem can_big : Can 1074 4503599627370496 := ⟨by omega, by omega, .inr (by omega)⟩
theorem two_wd : (4611686018427387904 : Nat) = wd 1023 4503599627370496 := by decide
theorem one_wd : (4607182418800017408 : Nat) = wd 1022 4503599627370496 := by decide
theorem big_wd : (4841369599423283200 : Nat) = wd 1074 4503599627370496 := by decide

/-- Words of numbers from 0 on stand to each other as what they stand for. -/
theorem order_wd {q m q' m' : Nat} (h : Can q m) (h' : Can q' m') : double.order (wd q m) (wd q' m') = some (compare (wd q m) (wd q' m')) := by
  unfold Format.order
  rw [read_wd h, read_wd h']
  unfold Datum.order
  simp only
  obtain ⟨a1, a2, a3⟩ := h
  obtain ⟨b1, b2, b3⟩ := h'
  congr 1
  have key : ∀ x y : Int, ∀ u v : Nat, (x < y ↔ u < v) → (y < x ↔ v < u) → compare x y = compare u v := by
    intro x y u v h1 h2
    simp only [compare, compareOfLessAndEq]
    by_cases c1 : u < v
    · rw [if_pos (h1.2 c1), if_pos c1]
    · rw [if_neg (fun c => c1 (h1.1 c)), if_neg c1]
      by_cases c2 : v < u
      · have := h2.2 c2
        rw [if_neg (by omega), if_neg (by omega)]
      · have n1 : ¬ x < y := fun c => c1 (h1.1 c)
        have n2 : ¬ y < x := fun c => c2 (h2.1 c)
        rw [if_pos (by omega), if_pos (by omega)]
  by_cases hq : q = q'
  · subst hq
    have e : ((q : Int) - 1074 - min ((q : Int) - 1074) ((q : Int) - 1074)).toNat = 0 := by omega
    rw [e]
    unfold Ieee.signed
    simp only [Nat.shiftLeft_zero, Bool.false_eq_true, if_false]
    exact key _ _ _ _ (by unfold wd; omega) (by unfold wd; omega)
  · by_cases hlt : q < q'
    · have e1 : ((q : Int) - 1074 - min ((q : Int) - 1074) ((q' : Int) - 1074)).toNat = 0 := by omega
      have e2 : ((q' : Int) - 1074 - min ((q : Int) - 1074) ((q' : Int) - 1074)).toNat = (q' - q - 1) + 1 := by omega
      rw [e1, e2]
      unfold Ieee.signed
      simp only [Bool.false_eq_true, if_false, Nat.shiftLeft_eq, Nat.pow_succ]
      have hp := Nat.two_pow_pos (q' - q - 1)
      have hm : 4503599627370496 ≤ m' := by omega
      have h1 : m' * 1 ≤ m' * 2 ^ (q' - q - 1) := Nat.mul_le_mul_left _ hp
      have h2 : m' * (2 ^ (q' - q - 1) * 2) = m' * 2 ^ (q' - q - 1) * 2 := (Nat.mul_assoc _ _ _).symm
      rw [h2]
      generalize m' * 2 ^ (q' - q - 1) = z at *
      exact key _ _ _ _ (by unfold wd; omega) (by unfold wd; omega)
    · have e1 : ((q' : Int) - 1074 - min ((q : Int) - 1074) ((q' : Int) - 1074)).toNat = 0 := by omega
      have e2 : ((q : Int) - 1074 - min ((q : Int) - 1074) ((q' : Int) - 1074)).toNat = (q - q' - 1) + 1 := by omega
      rw [e1, e2]
      unfold Ieee.signed
      simp only [Bool.false_eq_true, if_false, Nat.shiftLeft_eq, Nat.pow_succ]
      have hp := Nat.two_pow_pos (q - q' - 1)
      have hm : 4503599627370496 ≤ m := by omega
      have h1 : m * 1 ≤ m * 2 ^ (q - q' - 1) := Nat.mul_le_mul_left _ hp
      have h2 : m * (2 ^ (q - q' - 1) * 2) = m * 2 ^ (q - q' - 1) * 2 := (Nat.mul_assoc _ _ _).symm
      rw [h2]
      generalize m * 2 ^ (q - q' - 1) = z at *
      exact key _ _ _ _ (by unfold wd; omega) (by unfold wd; omega)

/-- Doubling: one rung of the exponent up, or, below the least exponent, the fraction doubled. -/
theorem mul_two {q m : Nat} (h : Can q m) (hm : 4503599627370496 ≤ m) (hq : q + 1 ≤ 2045) : double.mul (wd q m) 4611686018427387904 = some (wd (q + 1) m) := by
  unfold Format.mul
  rw [two_wd, read_wd h, read_wd can_two]
  have e : (4503599627370496 : Nat) = 2 ^ 52 := by decide
  simp only [Datum.product, Option.map_some, Format.write]
  congr 1
  have := nearest_wd (q := q + 1) (m := m) (s := 52) (t := (q : Int) - 1074 + (((1023 : Nat) : Int) - 1074)) ⟨hq, h.2.1, .inr hm⟩ (by omega) (by omega)
  rw [← e] at this
  exact this

theorem mul_two_sub {m : Nat} (hm : m < 4503599627370496) (h0 : m ≠ 0) : double.mul (wd 0 m) 4611686018427387904 = some (wd 0 (2 * m)) := by
  unfold Format.mul
  rw [two_wd, read_wd (q := 0) ⟨by omega, by omega, .inl rfl⟩, read_wd can_two]
  simp only [Datum.product, Option.map_some, Format.write]
  congr 1
  have := nearest_wd (q := 0) (m := 2 * m) (s := 51) (t := ((0 : Nat) : Int) - 1074 + (((1023 : Nat) : Int) - 1074)) ⟨by omega, by omega, .inl rfl⟩ (by omega) (by omega)
  have e : 2 * m * 2 ^ 51 = m * 4503599627370496 := by omega
  rw [e] at this
  exact this

/-- Halving a number from 2 on. -/
theorem div_two {q m : Nat} (h : Can q m) (hm : 4503599627370496 ≤ m) (hq : 1 ≤ q) : double.div (wd q m) 4611686018427387904 = some (wd (q - 1) m) := by
  unfold Format.div
  rw [two_wd, read_wd h, read_wd can_two, dFrac]
  have hl : m.log2 = 52 := (Nat.log2_eq_iff (by omega)).2 ⟨by omega, by have := h.2.1; omega⟩
  have hl2 : (4503599627370496 : Nat).log2 = 52 := (Nat.log2_eq_iff (by omega)).2 ⟨by omega, by omega⟩
  simp only [Datum.quotient]
  rw [if_neg (by omega), hl, hl2]
  simp only [Option.map_some, Format.write]
  refine congrArg some ?_
  have e1 : m <<< (52 + 2 + 52 - 52) = (m * 4) * 4503599627370496 := by rw [Nat.shiftLeft_eq]; omega
  rw [e1, Nat.mul_div_cancel _ (by omega), Nat.mul_mod_left]
  have := nearest_wd (q := q - 1) (m := m) (s := 3) (t := (q : Int) - 1074 - (((1023 : Nat) : Int) - 1074) - ((52 + 2 + 52 - 52 : Nat) : Int) - 1) ⟨by have := h.1; omega, h.2.1, .inr hm⟩ (by omega) (by omega)
  have e2 : m * 2 ^ 3 = 2 * (m * 4) + (0 != 0).toNat := by simp; omega
  rw [e2] at this
  exact this

end Go.Proofs.YtbdokdhconhifaaGreatDoor
