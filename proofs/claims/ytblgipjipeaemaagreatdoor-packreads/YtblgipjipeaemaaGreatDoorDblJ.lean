/- Plain facts on IEEE 754 doubles as words: what a word with sign, exponent and fraction stands for, and that doubling, halving, comparing and taking 1 away are exact where the document's own Bits does them; no Go function is walked here. -/
import Derived.WalkKit
import Derived.Laws.FloatArith
namespace Go.Proofs.YtblgipjipeaemaaGreatDoor
open Ieee
set_option maxRecDepth 8000

theorem dSign : double.signWeight = 9223372036854775808 := by decide
theorem dBin : double.binade = 4503599627370496 := by decide
theorem dInf : double.infRung = 9218868437227405312 := by decide
theorem dLeast : double.leastPlace = -1074 := by decide
theorem dFrac : double.fractionBits = 52 := by decide

/-- q and m in their one form: below 2^52 only with q = 0. The number is m * 2^(q - 1074). -/
def Can (q m : Nat) : Prop := q ≤ 2045 ∧ m < 9007199254740992 ∧ (q = 0 ∨ 4503599627370496 ≤ m)

/-- The word of q and m. -/
def wd (q m : Nat) : Nat := q * 4503599627370496 + m

theorem read_wd {q m : Nat} (h : Can q m) : double.read (wd q m) = .number false m ((q : Int) - 1074) := by
  obtain ⟨h1, h2, h3⟩ := h
  unfold Format.read
  simp only [dSign, dBin, dInf, dLeast]
  have e0 : wd q m < 9223372036854775808 := by unfold wd; omega
  have e1 : wd q m / 9223372036854775808 = 0 := Nat.div_eq_of_lt e0
  have e2 : wd q m % 9223372036854775808 = wd q m := Nat.mod_eq_of_lt e0
  rw [e1, e2]
  by_cases hs : wd q m < 4503599627370496
  · rw [if_pos hs]
    have hq : q = 0 := by unfold wd at hs; omega
    subst hq
    simp [wd]
  · rw [if_neg hs]
    have hlt : wd q m < 9218868437227405312 := by unfold wd; omega
    rw [if_pos hlt]
    have e3 : wd q m % 4503599627370496 = m - 4503599627370496 := by unfold wd at *; omega
    have e4 : wd q m / 4503599627370496 = q + 1 := by unfold wd at *; omega
    rw [e3, e4]
    have e5 : 4503599627370496 + (m - 4503599627370496) = m := by unfold wd at hs; omega
    rw [e5]
    congr 1

theorem log2_shift (m s : Nat) (hm : m ≠ 0) : (m * 2 ^ s).log2 = m.log2 + s := by
  induction s with
  | zero => simp
  | succ s ih =>
    have e : m * 2 ^ (s + 1) = 2 * (m * 2 ^ s) := by rw [Nat.pow_succ]; simp [Nat.mul_comm, Nat.mul_left_comm]
    rw [e, Nat.log2_two_mul (Nat.mul_ne_zero hm (Nat.pos_iff_ne_zero.1 (Nat.two_pow_pos s))), ih]
    omega

theorem cut_exact (m s : Nat) (hm : m ≠ 0) : Toward.even.cut false (m * 2 ^ s) s = m := by
  unfold Toward.cut
  simp only
  have e1 : min s ((m * 2 ^ s).log2 + 2) = s := by rw [log2_shift m s hm]; omega
  rw [e1, Nat.one_shiftLeft]
  have hp := Nat.two_pow_pos s
  have e2 : m * 2 ^ s % 2 ^ s = 0 := Nat.mul_mod_left _ _
  have e3 : m * 2 ^ s / 2 ^ s = m := Nat.mul_div_cancel _ hp
  rw [e2, e3]
  have e4 : (decide (2 ^ s < 2 * 0) || (2 ^ s == 2 * 0) && (m % 2 == 1)) = false := by
    simp
  rw [e4]
  rfl

theorem log2_can {q m : Nat} (h : Can q m) (hm : m ≠ 0) : (q = 0 ∧ m.log2 ≤ 52) ∨ m.log2 = 52 := by
  obtain ⟨h1, h2, h3⟩ := h
  rcases h3 with h3 | h3
  · exact .inl ⟨h3, by have := (Nat.log2_lt hm (k := 53)).2 (by omega); omega⟩
  · refine .inr ((Nat.log2_eq_iff hm).2 ⟨by omega, by omega⟩)

/-- What is exactly a double is written as it. -/
theorem nearest_wd {q m s : Nat} {t : Int} (h : Can q m) (hm : m ≠ 0) (ht : t + s = (q : Int) - 1074) : double.nearest false (m * 2 ^ s) t = wd q m := by
  have hp := Nat.two_pow_pos s
  have hn : m * 2 ^ s ≠ 0 := Nat.mul_ne_zero hm (by omega)
  unfold Format.nearest
  rw [if_neg hn]
  simp only [dLeast, dFrac, dBin, dInf]
  rw [log2_shift m s hm]
  have hl : max (t + ((m.log2 + s : Nat) : Int) - ((52 : Nat) : Int)) (-1074) = (q : Int) - 1074 := by
    rcases log2_can h hm with ⟨rfl, h1⟩ | h1
    · rw [Int.max_def]; split <;> omega
    · rw [h1, Int.max_def]; split <;> omega
  rw [hl]
  have e1 : (t - ((q : Int) - 1074)).toNat = 0 := by omega
  have e2 : ((q : Int) - 1074 - t).toNat = s := by omega
  have e3 : ((q : Int) - 1074 - -1074).toNat = q := by omega
  rw [e1, e2, e3, Nat.shiftLeft_zero, cut_exact m s hm]
  obtain ⟨h1, h2, h3⟩ := h
  have e4 : min (q * 4503599627370496 + m) 9218868437227405312 = q * 4503599627370496 + m := by omega
  rw [e4]
  rfl

theorem can_two : Can 1023 4503599627370496 := ⟨by omega, by omega, .inr (by omega)⟩
theorem can_one : Can 1022 4503599627370496 := ⟨by omega, by omega, .inr (by omega)⟩
theorem can_big : Can 1074 4503599627370496 := ⟨by omega, by omega, .inr (by omega)⟩
theorem two_wd : (4611686018427387904 : Nat) = wd 1023 4503599627370496 := by decide
theorem one_wd : (4607182418800017408 : Nat) = wd 1022 4503599627370496 := by decide
theorem big_wd : (4841369599423283200 : Nat) = wd 1074 4503599627370496 := by decide

/-- Words of numbers from 0 on stand to each other as what they stand for. -/
theorem order_wd {q m q' m' : Nat} (h : Can q m) (h' : Can q' m') : double.order (wd q m) (wd q' m') = some (compare (wd q m) (wd q' m')) := by
  unfold Format.order
  rw [read_wd h, read_wd h']
  unfold Datum.order
  simp only
  obtain ⟨a1, a2, a3⟩ := h
  obtain ⟨b1, b2, b3⟩ := h'
  congr 1
  have key : ∀ x y : Int, ∀ u v : Nat, (x < y ↔ u < v) → (y < x ↔ v < u) → compare x y = compare u v := by
    intro x y u v h1 h2
    simp only [compare, compareOfLessAndEq]
    by_cases c1 : u < v
    · rw [if_pos (h1.2 c1), if_pos c1]
    · rw [if_neg (fun c => c1 (h1.1 c)), if_neg c1]
      by_cases c2 : v < u
      · have := h2.2 c2
        rw [if_neg (by omega), if_neg (by omega)]
      · have n1 : ¬ x < y := fun c => c1 (h1.1 c)
        have n2 : ¬ y < x := fun c => c2 (h2.1 c)
        rw [if_pos (by omega), if_pos (by omega)]
  by_cases hq : q = q'
  · subst hq
    have e : ((q : Int) - 1074 - min ((q : Int) - 1074) ((q : Int) - 1074)).toNat = 0 := by omega
    rw [e]
    unfold Ieee.signed
    simp only [Nat.shiftLeft_zero, Bool.false_eq_true, if_false]
    exact key _ _ _ _ (by unfold wd; omega) (by unfold wd; omega)
  · by_cases hlt : q < q'
    · have e1 : ((q : Int) - 1074 - min ((q : Int) - 1074) ((q' : Int) - 1074)).toNat = 0 := by omega
      have e2 : ((q' : Int) - 1074 - min ((q : Int) - 1074) ((q' : Int) - 1074)).toNat = (q' - q - 1) + 1 := by omega
      rw [e1, e2]
      unfold Ieee.signed
      simp only [Bool.false_eq_true, if_false, Nat.shiftLeft_eq, Nat.pow_succ]
      have hp := Nat.two_pow_pos (q' - q - 1)
      have hm : 4503599627370496 ≤ m' := by omega
      have h1 : m' * 1 ≤ m' * 2 ^ (q' - q - 1) := Nat.mul_le_mul_left _ hp
      have h2 : m' * (2 ^ (q' - q - 1) * 2) = m' * 2 ^ (q' - q - 1) * 2 := (Nat.mul_assoc _ _ _).symm
      rw [h2]
      generalize m' * 2 ^ (q' - q - 1) = z at *
      exact key _ _ _ _ (by unfold wd; omega) (by unfold wd; omega)
    · have e1 : ((q' : Int) - 1074 - min ((q : Int) - 1074) ((q' : Int) - 1074)).toNat = 0 := by omega
      have e2 : ((q : Int) - 1074 - min ((q : Int) - 1074) ((q' : Int) - 1074)).toNat = (q - q' - 1) + 1 := by omega
      rw [e1, e2]
      unfold Ieee.signed
      simp only [Bool.false_eq_true, if_false, Nat.shiftLeft_eq, Nat.pow_succ]
      have hp := Nat.two_pow_pos (q - q' - 1)
      have hm : 4503599627370496 ≤ m := by omega
      have h1 : m * 1 ≤ m * 2 ^ (q - q' - 1) := Nat.mul_le_mul_left _ hp
      have h2 : m * (2 ^ (q - q' - 1) * 2) = m * 2 ^ (q - q' - 1) * 2 := (Nat.mul_assoc _ _ _).symm
      rw [h2]
      generalize m * 2 ^ (q - q' - 1) = z at *
      exact key _ _ _ _ (by unfold wd; omega) (by unfold wd; omega)

/-- Doubling: one rung of the exponent up, or, below the least exponent, the fraction doubled. -/
theorem mul_two {q m : Nat} (h : Can q m) (hm : 4503599627370496 ≤ m) (hq : q + 1 ≤ 2045) : double.mul (wd q m) 4611686018427387904 = some (wd (q + 1) m) := by
  unfold Format.mul
  rw [two_wd, read_wd h, read_wd can_two]
  have e : (4503599627370496 : Nat) = 2 ^ 52 := by decide
  simp only [Datum.product, Option.map_some, Format.write]
  congr 1
  have := nearest_wd (q := q + 1) (m := m) (s := 52) (t := (q : Int) - 1074 + (((1023 : Nat) : Int) - 1074)) ⟨hq, h.2.1, .inr hm⟩ (by omega) (by omega)
  rw [← e] at this
  exact this

theorem mul_two_sub {m : Nat} (hm : m < 4503599627370496) (h0 : m ≠ 0) : double.mul (wd 0 m) 4611686018427387904 = some (wd 0 (2 * m)) := by
  unfold Format.mul
  rw [two_wd, read_wd (q := 0) ⟨by omega, by omega, .inl rfl⟩, read_wd can_two]
  simp only [Datum.product, Option.map_some, Format.write]
  congr 1
  have := nearest_wd (q := 0) (m := 2 * m) (s := 51) (t := ((0 : Nat) : Int) - 1074 + (((1023 : Nat) : Int) - 1074)) ⟨by omega, by omega, .inl rfl⟩ (by omega) (by omega)
  have e : 2 * m * 2 ^ 51 = m * 4503599627370496 := by omega
  rw [e] at this
  exact this

/-- Halving a number from 2 on. -/
theorem div_two {q m : Nat} (h : Can q m) (hm : 4503599627370496 ≤ m) (hq : 1 ≤ q) : double.div (wd q m) 4611686018427387904 = some (wd (q - 1) m) := by
  unfold Format.div
  rw [two_wd, read_wd h, read_wd can_two, dFrac]
  have hl : m.log2 = 52 := (Nat.log2_eq_iff (by omega)).2 ⟨by omega, by have := h.2.1; omega⟩
  have hl2 : (4503599627370496 : Nat).log2 = 52 := (Nat.log2_eq_iff (by omega)).2 ⟨by omega, by omega⟩
  simp only [Datum.quotient]
  rw [if_neg (by omega), hl, hl2]
  simp only [Option.map_some, Format.write]
  refine congrArg some ?_
  have e1 : m <<< (52 + 2 + 52 - 52) = (m * 4) * 4503599627370496 := by rw [Nat.shiftLeft_eq]; omega
  rw [e1, Nat.mul_div_cancel _ (by omega), Nat.mul_mod_left]
  have := nearest_wd (q := q - 1) (m := m) (s := 3) (t := (q : Int) - 1074 - (((1023 : Nat) : Int) - 1074) - ((52 + 2 + 52 - 52 : Nat) : Int) - 1) ⟨by have := h.1; omega, h.2.1, .inr hm⟩ (by omega) (by omega)
  have e2 : m * 2 ^ 3 = 2 * (m * 4) + (0 != 0).toNat := by simp; omega
  rw [e2] at this
  exact this

end Go.Proofs.YtblgipjipeaemaaGreatDoor
