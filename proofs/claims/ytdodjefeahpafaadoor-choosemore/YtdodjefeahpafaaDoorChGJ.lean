/- Plain facts on floats and on what Way answers, for ChooseHand; no Go function is walked here. -/
import Derived.Test.YtdodjefeahpafaaDoorChCJ
import Derived.Test.YtdodjefeahpafaaDoorRefBitsJ
import Derived.Test.YtdodjefeahpafaaDoorDbl2J
namespace Go.Proofs.YtdodjefeahpafaaDoor
open Ieee
set_option maxRecDepth 8000

/-- A number from 0 on is above one below 0. -/
theorem order_pn {q m q' m' : Nat} (h : Can q m) (h' : Can q' m') (hm : m' ≠ 0) : double.order (wd q m) (9223372036854775808 + wd q' m') = some .gt := by
  have hw : wd q' m' < 9223372036854775808 := by obtain ⟨h1, h2, h3⟩ := h'; unfold wd; omega
  unfold Format.order
  rw [read_neg _ hw, read_wd h', read_wd h]
  simp only [Datum.opposite, Datum.order]
  refine congrArg some ?_
  generalize ((q : Int) - 1074 - min ((q : Int) - 1074) ((q' : Int) - 1074)).toNat = a
  generalize ((q' : Int) - 1074 - min ((q : Int) - 1074) ((q' : Int) - 1074)).toNat = b
  have hp : 0 < m' * 2 ^ b := Nat.mul_pos (by omega) (Nat.two_pow_pos b)
  have : Ieee.signed (!false) m' b < Ieee.signed false m a := by
    simp only [Ieee.signed, Bool.not_false, if_true, Bool.false_eq_true, if_false, Nat.shiftLeft_eq]
    omega
  simp only [compare, compareOfLessAndEq]
  rw [if_neg (by omega), if_neg (by omega)]

/-- A whole number of a size as it is here, as a float. -/
theorem float_nat (s : Nat) (hs : s < 9007199254740992) : ∃ q m, Can q m ∧ (s ≠ 0 → m ≠ 0) ∧ Go.floatOfInt .f64 (s : Int) = wd q m ∧ (s ≠ 0 → q ≤ 1100 ∧ 1000 ≤ q) := by
  have e0 : Go.floatOfInt .f64 (s : Int) = double.nearest false s 0 := by
    show double.write (.number (decide ((s : Int) < 0)) (s : Int).natAbs 0) = _
    rw [decide_eq_false (by omega), Int.natAbs_natCast]
    rfl
  by_cases h0 : s = 0
  · subst h0
    refine ⟨0, 0, can_nought, fun h => absurd rfl h, ?_, fun h => absurd rfl h⟩
    rw [e0]
    rfl
  · have hL : s.log2 ≤ 52 := by have := (Nat.log2_lt h0 (k := 53)).2 (by omega); omega
    have hu := nearest_up (f := s) (t := 0) h0 hs (by omega) (by omega)
    have hge := up_ge h0 hL
    have hlt := up_lt hL
    refine ⟨(0 + (s.log2 : Int) + 1022).toNat, s * 2 ^ (52 - s.log2), ⟨by omega, hlt, .inr hge⟩, fun _ => by omega, by rw [e0, hu], fun _ => by omega⟩

theorem cut_sign (n d : Nat) : Toward.even.cut true n d = Toward.even.cut false n d := by
  unfold Toward.cut
  rfl

theorem nearest_neg (mag : Nat) (p : Int) (h : mag ≠ 0) : double.nearest true mag p = 9223372036854775808 + double.nearest false mag p := by
  unfold Format.nearest
  rw [if_neg h, if_neg h]
  simp only [cut_sign]
  unfold Format.word
  rw [if_pos rfl, if_neg (by decide), dSign]

/-- Nothing is within minus one time an image. -/
theorem undB_neg (s im : Nat) (hs : s < 9007199254740992) (hi : 1 ≤ im) (hi' : im < 9007199254740992) : undB s im 13830554455654793216 = false := by
  obtain ⟨q, m, hc, hm, e, hq⟩ := float_nat im hi'
  obtain ⟨q', m', hc', _, e', _⟩ := float_nat s hs
  have hq := hq (by omega)
  have hm := hm (by omega)
  have hr : double.read 13830554455654793216 = .number true 4503599627370496 (-52) := by decide
  have h52 : (4503599627370496 : Nat) = 2 ^ 52 := by decide
  have hmul : double.mul 13830554455654793216 (Go.floatOfInt .f64 (im : Int)) = some (9223372036854775808 + wd q m) := by
    unfold Format.mul
    rw [e, hr, read_wd hc]
    simp only [Datum.product, Option.map_some, Format.write]
    refine congrArg some ?_
    rw [show (true ^^ false) = true from rfl, nearest_neg _ _ (Nat.mul_ne_zero (by omega) hm)]
    refine congrArg _ ?_
    have := nearest_wd (q := q) (m := m) (s := 52) (t := -52 + ((q : Int) - 1074)) hc hm (by omega)
    rw [← h52, Nat.mul_comm] at this
    exact this
  unfold undB
  rw [hmul, e']
  simp only
  rw [order_pn hc' hc hm]
  rfl
end Go.Proofs.YtdodjefeahpafaaDoor
