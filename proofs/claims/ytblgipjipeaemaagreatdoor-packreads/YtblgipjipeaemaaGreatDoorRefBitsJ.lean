/- What the document's own Bits (lagoonref01) answers: a float's bits, and of everything that is not a number the one form. -/
import Derived.Test.YtblgipjipeaemaaGreatDoorProg
import Derived.Test.YtblgipjipeaemaaGreatDoorDbl3J
import Derived.WalkLawsBesides
import Derived.Deep.Draws
import Derived.Laws.BitsAllLaws
namespace Go.Proofs.YtblgipjipeaemaaGreatDoor
open Ieee
open Go.RowKit (intOf Hid)
set_option maxRecDepth 8000

theorem read_neg (y : Nat) (h : y < 9223372036854775808) : double.read (9223372036854775808 + y) = (double.read y).opposite := by
  unfold Format.read
  simp only [dSign, dBin, dInf, dLeast]
  have e1 : (9223372036854775808 + y) / 9223372036854775808 = 1 := by omega
  have e2 : (9223372036854775808 + y) % 9223372036854775808 = y := by omega
  have e3 : y / 9223372036854775808 = 0 := by omega
  have e4 : y % 9223372036854775808 = y := by omega
  rw [e1, e2, e3, e4]
  by_cases c1 : y < 4503599627370496
  · rw [if_pos c1, if_pos c1]; rfl
  · rw [if_neg c1, if_neg c1]
    by_cases c2 : y < 9218868437227405312
    · rw [if_pos c2, if_pos c2]; rfl
    · rw [if_neg c2, if_neg c2]
      by_cases c3 : y = 9218868437227405312
      · rw [if_pos c3, if_pos c3]; rfl
      · rw [if_neg c3, if_neg c3]; rfl

/-- Every word of a number that is neither nought nor infinite, without its sign. -/
theorem wd_of (y : Nat) (h : y < 9218868437227405312) : ∃ q m, Can q m ∧ y = wd q m := by
  by_cases c : y < 9007199254740992
  · exact ⟨0, y, ⟨by omega, c, .inl rfl⟩, by unfold wd; omega⟩
  · exact ⟨y / 4503599627370496 - 1, 4503599627370496 + y % 4503599627370496, ⟨by omega, by omega, .inr (by omega)⟩, by unfold wd; omega⟩

theorem can_nought : Can 0 0 := ⟨by omega, by omega, .inl rfl⟩
theorem nought_wd : (0 : Nat) = wd 0 0 := by decide

theorem cmp_lt {a b : Nat} (h : a < b) : compare a b = .lt := by simp [Nat.compare_eq_lt, h]
theorem cmp_gt {a b : Nat} (h : b < a) : compare a b = .gt := by simp [Nat.compare_eq_gt, h]

theorem order_lt {q m q' m' : Nat} (h : Can q m) (h' : Can q' m') (hl : wd q m < wd q' m') : double.order (wd q m) (wd q' m') = some .lt := by rw [order_wd h h', cmp_lt hl]
theorem order_gt {q m q' m' : Nat} (h : Can q m) (h' : Can q' m') (hl : wd q' m' < wd q m) : double.order (wd q m) (wd q' m') = some .gt := by rw [order_wd h h', cmp_gt hl]
theorem order_self {q m : Nat} (h : Can q m) : double.order (wd q m) (wd q m) = some .eq := by rw [order_wd h h]; simp

theorem order_neg {q m : Nat} (h : Can q m) (hm : m ≠ 0) : double.order (9223372036854775808 + wd q m) 0 = some .lt := by
  have hw : wd q m < 9223372036854775808 := by obtain ⟨h1, h2, h3⟩ := h; unfold wd; omega
  unfold Format.order
  rw [read_neg _ hw, read_wd h]
  have h0 := read_wd can_nought
  rw [← nought_wd] at h0
  rw [h0]
  simp only [Datum.opposite, Datum.order]
  refine congrArg some ?_
  have e1 : ((q : Int) - 1074 - min ((q : Int) - 1074) (((0 : Nat) : Int) - 1074)).toNat = q := by omega
  rw [e1]
  have hp : 0 < m * 2 ^ q := Nat.mul_pos (by omega) (Nat.two_pow_pos q)
  have : Ieee.signed (!false) m q < Ieee.signed false 0 ((((0 : Nat) : Int) - 1074 - min ((q : Int) - 1074) (((0 : Nat) : Int) - 1074)).toNat) := by
    simp only [Ieee.signed, Bool.not_false, if_true, Bool.false_eq_true, if_false, Nat.shiftLeft_eq, Nat.zero_mul]
    omega
  simp only [compare, compareOfLessAndEq]
  rw [if_pos this]

theorem order_neg_self {q m : Nat} (h : Can q m) : double.order (9223372036854775808 + wd q m) (9223372036854775808 + wd q m) = some .eq := by
  have hw : wd q m < 9223372036854775808 := by obtain ⟨h1, h2, h3⟩ := h; unfold wd; omega
  unfold Format.order
  rw [read_neg _ hw, read_wd h]
  simp only [Datum.opposite, Datum.order]
  refine congrArg some ?_
  simp only [compare, compareOfLessAndEq]
  simp

theorem neg_xor (y : Nat) (h : y < 9223372036854775808) : Op.negFloat .f64 (9223372036854775808 + y) = y := by
  unfold Op.negFloat
  have e : 2 ^ (FloatKind.f64.format.exponentBits + FloatKind.f64.format.fractionBits) = 9223372036854775808 := by decide
  rw [e]
  have e1 : (9223372036854775808 : Nat) = 2 ^ 63 := by decide
  have e2 : 9223372036854775808 + y = 9223372036854775808 ||| y := (nat_join 63 9223372036854775808 y (by decide) (by omega)).symm
  rw [e2, e1]
  apply Nat.eq_of_testBit_eq
  intro i
  rw [Nat.testBit_xor, Nat.testBit_or, Nat.testBit_two_pow]
  by_cases hi : 63 = i
  · subst hi
    rw [Nat.testBit_lt_two_pow (by omega)]
    simp
  · simp [hi]

section
variable (w : World)

end
end Go.Proofs.YtblgipjipeaemaaGreatDoor
