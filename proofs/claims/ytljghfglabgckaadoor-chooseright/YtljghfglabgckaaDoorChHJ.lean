/- What the document's own Bits (lagoonref01) answers: a float's bits, and of everything that is not a number the one form. -/
import Derived.Test.YtljghfglabgckaaDoorProg
import Derived.Test.YtljghfglabgckaaDoorZxJ
import Derived.WalkLawsBesides
import Derived.Deep.Draws
import Derived.Laws.BitsAllLaws
import Derived.Test.YtljghfglabgckaaDoorChCJ
import Derived.Test.YtljghfglabgckaaDoorDbl2J
import Derived.Laws.Small
namespace Go.Proofs.YtljghfglabgckaaDoor
open Ieee
open Go.RowKit (intOf Hid)
set_option maxRecDepth 8000

theorem read_neg (y : Nat) (h : y < 9223372036854775808) : double.read (9223372036854775808 + y) = (double.read y).opposite := by
  unfold Format.read
  simp only [dSign, dBin, dInf, dLeast]
  have e1 : (9223372036854775808 + y) / 9223372036854775808 = 1 := by omega
  have e2 : (9223372036854775808 + y) % 9223372036854775808 = y := by omega
  have e3 : y / 9223372036854775808 = 0 := by omega
  have e4 : y % 9223372036854775808 = y := by omega
  rw [e1, e2, e3, e4]
  by_cases c1 : y < 4503599627370496
  · rw [if_pos c1, if_pos c1]; rfl
  · rw [if_neg c1, if_neg c1]
    by_cases c2 : y < 9218868437227405312
    · rw [if_pos c2, if_pos c2]; rfl
    · rw [if_neg c2, if_neg c2]
      by_cases c3 : y = 9218868437227405312
      · rw [if_pos c3, if_pos c3]; rfl
      · rw [if_neg c3, if_neg c3]; rfl

/-- Every word of a number that is neither nought nor infinite, without its sign. -/
theorem wd_of (y : Nat) (h : y < 9218868437227405312) : ∃ q m, Can q m ∧ y = wd q m := by
  by_cases c : y < 9007199254740992
  · exact ⟨0, y, ⟨by omega, c, .inl rfl⟩, by unfold wd; omega⟩
  · exact ⟨y / 4503599627370496 - 1, 4503599627370496 + y % 4503599627370496, ⟨by omega, by omega, .inr (by omega)⟩, by unfold wd; omega⟩

theorem can_nought : Can 0 0 := ⟨by omega, by omega, .inl rfl⟩
theorem nought_wd : (0 : Nat) = wd 0 0 := by decide

theorem cmp_lt {a b : Nat} (h : a < b) : compare a b = .lt := by simp [Nat.compare_eq_lt, h]
theorem cmp_gt {a b : Nat} (h : b < a) : compare a b = .gt := by simp [Nat.compare_eq_gt, h]

theorem order_lt {q m q' m' : Nat} (h : Can q m) (h' : Can q' m') (hl : wd q m < wd q' m') : double.order (wd q m) (wd q' m') = some .lt := by rw [order_wd h h', cmp_lt hl]
theorem order_gt {q m q' m' : Nat} (h : Can q m) (h' : Can q' m') (hl : wd q' m' < wd q m) : double.order (wd q m) (wd q' m') = some .gt := by rw [order_wd h h', cmp_gt hl]
theorem order_self {q m : Nat} (h : Can q m) : double.order (wd q m) (wd q m) = some .eq := by rw [order_wd h h]; simp

theorem order_neg {q m : Nat} (h : Can q m) (hm : m ≠ 0) : double.order (9223372036854775808 + wd q m) 0 = some .lt := by
  have hw : wd q m < 9223372036854775808 := by obtain ⟨h1, h2, h3⟩ := h; unfold wd; omega
  unfold Format.order
  rw [read_neg _ hw, read_wd h]
  have h0 := read_wd can_nought
  rw [← nought_wd] at h0
  rw [h0]
  simp only [Datum.opposite, Datum.order]
  refine congrArg some ?_
  have e1 : ((q : Int) - 1074 - min ((q : Int) - 1074) (((0 : Nat) : Int) - 1074)).toNat = q := by omega
  rw [e1]
  have hp : 0 < m * 2 ^ q := Nat.mul_pos (by omega) (Nat.two_pow_pos q)
  have : Ieee.signed (!false) m q < Ieee.signed false 0 ((((0 : Nat) : Int) - 1074 - min ((q : Int) - 1074) (((0 : Nat) : Int) - 1074)).toNat) := by
    simp only [Ieee.signed, Bool.not_false, if_true, Bool.false_eq_true, if_false, Nat.shiftLeft_eq, Nat.zero_mul]
    omega
  simp only [compare, compareOfLessAndEq]
  rw [if_pos this]

theorem order_neg_self {q m : Nat} (h : Can q m) : double.order (9223372036854775808 + wd q m) (9223372036854775808 + wd q m) = some .eq := by
  have hw : wd q m < 9223372036854775808 := by obtain ⟨h1, h2, h3⟩ := h; unfold wd; omega
  unfold Format.order
  rw [read_neg _ hw, read_wd h]
  simp only [Datum.opposite, Datum.order]
  refine congrArg some ?_
  simp only [compare, compareOfLessAndEq]
  simp

theorem neg_xor (y : Nat) (h : y < 9223372036854775808) : Op.negFloat .f64 (9223372036854775808 + y) = y := by
  unfold Op.negFloat
  have e : 2 ^ (FloatKind.f64.format.exponentBits + FloatKind.f64.format.fractionBits) = 9223372036854775808 := by decide
  rw [e]
  have e1 : (9223372036854775808 : Nat) = 2 ^ 63 := by decide
  have e2 : 9223372036854775808 + y = 9223372036854775808 ||| y := (nat_join 63 9223372036854775808 y (by decide) (by omega)).symm
  rw [e2, e1]
  apply Nat.eq_of_testBit_eq
  intro i
  rw [Nat.testBit_xor, Nat.testBit_or, Nat.testBit_two_pow]
  by_cases hi : 63 = i
  · subst hi
    rw [Nat.testBit_lt_two_pow (by omega)]
    simp
  · simp [hi]

section
variable (w : World)

end
end Go.Proofs.YtljghfglabgckaaDoor

/- Plain facts on floats and on what Way answers, for ChooseHand; no Go function is walked here. -/
namespace Go.Proofs.YtljghfglabgckaaDoor
open Ieee
set_option maxRecDepth 8000

/-- A number from 0 on is above one below 0. -/
theorem order_pn {q m q' m' : Nat} (h : Can q m) (h' : Can q' m') (hm : m' ≠ 0) : double.order (wd q m) (9223372036854775808 + wd q' m') = some .gt := by
  have hw : wd q' m' < 9223372036854775808 := by obtain ⟨h1, h2, h3⟩ := h'; unfold wd; omega
  unfold Format.order
  rw [read_neg _ hw, read_wd h', read_wd h]
  simp only [Datum.opposite, Datum.order]
  refine congrArg some ?_
  generalize ((q : Int) - 1074 - min ((q : Int) - 1074) ((q' : Int) - 1074)).toNat = a
  generalize ((q' : Int) - 1074 - min ((q : Int) - 1074) ((q' : Int) - 1074)).toNat = b
  have hp : 0 < m' * 2 ^ b := Nat.mul_pos (by omega) (Nat.two_pow_pos b)
  have : Ieee.signed (!false) m' b < Ieee.signed false m a := by
    simp only [Ieee.signed, Bool.not_false, if_true, Bool.false_eq_true, if_false, Nat.shiftLeft_eq]
    omega
  simp only [compare, compareOfLessAndEq]
  rw [if_neg (by omega), if_neg (by omega)]

/-- A whole number of a size as it is here, as a float. -/
theorem float_nat (s : Nat) (hs : s < 9007199254740992) : ∃ q m, Can q m ∧ (s ≠ 0 → m ≠ 0) ∧ Go.floatOfInt .f64 (s : Int) = wd q m ∧ (s ≠ 0 → q ≤ 1100 ∧ 1000 ≤ q) := by
  have e0 : Go.floatOfInt .f64 (s : Int) = double.nearest false s 0 := by
    show double.write (.number (decide ((s : Int) < 0)) (s : Int).natAbs 0) = _
    rw [decide_eq_false (by omega), Int.natAbs_natCast]
    rfl
  by_cases h0 : s = 0
  · subst h0
    refine ⟨0, 0, can_nought, fun h => absurd rfl h, ?_, fun h => absurd rfl h⟩
    rw [e0]
    rfl
  · have hL : s.log2 ≤ 52 := by have := (Nat.log2_lt h0 (k := 53)).2 (by omega); omega
    have hu := nearest_up (f := s) (t := 0) h0 hs (by omega) (by omega)
    have hge := up_ge h0 hL
    have hlt := up_lt hL
    refine ⟨(0 + (s.log2 : Int) + 1022).toNat, s * 2 ^ (52 - s.log2), ⟨by omega, hlt, .inr hge⟩, fun _ => by omega, by rw [e0, hu], fun _ => by omega⟩

theorem cut_sign (n d : Nat) : Toward.even.cut true n d = Toward.even.cut false n d := by
  unfold Toward.cut
  rfl

theorem nearest_neg (mag : Nat) (p : Int) (h : mag ≠ 0) : double.nearest true mag p = 9223372036854775808 + double.nearest false mag p := by
  unfold Format.nearest
  rw [if_neg h, if_neg h]
  simp only [cut_sign]
  unfold Format.word
  rw [if_pos rfl, if_neg (by decide), dSign]

/-- Nothing is within minus one time an image. -/
theorem undB_neg (s im : Nat) (hs : s < 9007199254740992) (hi : 1 ≤ im) (hi' : im < 9007199254740992) : undB s im 13830554455654793216 = false := by
  obtain ⟨q, m, hc, hm, e, hq⟩ := float_nat im hi'
  obtain ⟨q', m', hc', _, e', _⟩ := float_nat s hs
  have hq := hq (by omega)
  have hm := hm (by omega)
  have hr : double.read 13830554455654793216 = .number true 4503599627370496 (-52) := by decide
  have h52 : (4503599627370496 : Nat) = 2 ^ 52 := by decide
  have hmul : double.mul 13830554455654793216 (Go.floatOfInt .f64 (im : Int)) = some (9223372036854775808 + wd q m) := by
    unfold Format.mul
    rw [e, hr, read_wd hc]
    simp only [Datum.product, Option.map_some, Format.write]
    refine congrArg some ?_
    rw [show (true ^^ false) = true from rfl, nearest_neg _ _ (Nat.mul_ne_zero (by omega) hm)]
    refine congrArg _ ?_
    have := nearest_wd (q := q) (m := m) (s := 52) (t := -52 + ((q : Int) - 1074)) hc hm (by omega)
    rw [← h52, Nat.mul_comm] at this
    exact this
  unfold undB
  rw [hmul, e']
  simp only
  rw [order_pn hc' hc hm]
  rfl
end Go.Proofs.YtljghfglabgckaaDoor

/- What Way answers where all is at hand, and where nothing is: plain facts, for ChooseHand. -/
namespace Go.Proofs.YtljghfglabgckaaDoor
set_option maxRecDepth 8000

theorem szL_le (l : List TxD) : szL l ≤ 4096 * l.length := by
  have := szL_take l l.length
  rwa [List.take_length] at this

theorem sendW_ne (b : Bool) (m : Nat) : sendW b m = 1 ∨ sendW b m = 2 ∨ sendW b m = 3 := by
  unfold sendW
  split
  · exact .inl rfl
  · split
    · exact .inr (.inl rfl)
    · exact .inr (.inr rfl)

theorem hand_bad (pe pn se sn : Int) (l : List TxD) (ca im : Int) (x : Nat) (h : rises se sn l = false ∨ im < 0) : chW pe pn se sn l ca im x = ⟨0, 0, 0, false, 1⟩ := by
  unfold chW
  rcases h with h | h
  · rw [if_pos (.inl h)]
  · rw [if_pos (.inr (.inr (.inr h)))]

theorem hand_behind (pe pn se sn : Int) (l : List TxD) (ca im : Int) (x : Nat) (hr : rises se sn l = true) (h0 : 0 ≤ ca) (h1 : ca ≤ l.length) (hi : 0 ≤ im) (hb : zcmp pe pn se sn < 0) : chW pe pn se sn l ca im x = ⟨4, 0, 0, false, 0⟩ := by
  unfold chW
  rw [if_neg (by rw [hr]; rintro (h | h | h | h) <;> first | cases h | omega), if_pos hb]

theorem hand_not (pe pn se sn : Int) (l : List TxD) (ca im : Int) (x : Nat) (hr : rises se sn l = true) (h0 : 0 ≤ ca) (h1 : ca ≤ l.length) (hi : 0 ≤ im) (hb : ¬ zcmp pe pn se sn < 0) : chW pe pn se sn l ca im x = chN pe pn se sn l ca im x (upN pe pn l) := by
  unfold chW
  rw [if_neg (by rw [hr]; rintro (h | h | h | h) <;> first | cases h | omega), if_neg hb]

/-- All at hand: it is sent. -/
theorem hand_all (pe pn se sn : Int) (l : List TxD) (im : Int) (x : Nat) (hr : rises se sn l = true) (hi : 0 ≤ im) (hb : ¬ zcmp pe pn se sn < 0) : ∃ wy a b, (wy = 1 ∨ wy = 2 ∨ wy = 3) ∧ chW pe pn se sn l l.length im x = ⟨wy, a, b, true, 0⟩ := by
  rw [hand_not pe pn se sn l _ im x hr (by omega) (by omega) hi hb]
  unfold chN
  rw [if_pos (by omega)]
  exact ⟨_, _, _, sendW_ne _ _, rfl⟩

/-- Nothing at hand, and no measure: who lacks something gets a copy. -/
theorem hand_none (pe pn se sn : Int) (l : List TxD) (im : Nat) (hr : rises se sn l = true) (hl : l.length ≤ 1000000) (hi : 1 ≤ im) (hi' : im < 9007199254740992) (hb : ¬ zcmp pe pn se sn < 0) :
    (zcmp pe pn (lstE se l l.length) (lstN sn l l.length) < 0 ∧ chW pe pn se sn l 0 im 13830554455654793216 = ⟨4, 0, 0, false, 0⟩) ∨ (¬ zcmp pe pn (lstE se l l.length) (lstN sn l l.length) < 0 ∧ ∃ wy a b, (wy = 1 ∨ wy = 2 ∨ wy = 3) ∧ chW pe pn se sn l 0 im 13830554455654793216 = ⟨wy, a, b, true, 0⟩) := by
  rw [hand_not pe pn se sn l _ im _ hr (by omega) (by omega) (by omega) hb]
  have hu := upN_le pe pn l
  by_cases hk : upN pe pn l = l.length
  · refine .inr ⟨?_, ?_⟩
    · by_cases h0 : l.length = 0
      · rw [h0, lstE_zero, lstN_zero]; exact hb
      · obtain ⟨j, hj⟩ : ∃ j, l.length = j + 1 := ⟨l.length - 1, by omega⟩
        have hjl : j < l.length := by omega
        have a := lstE_next se l j hjl
        have b := lstN_next sn l j hjl
        rw [← hj] at a b
        rw [a, b]
        have := upN_below pe pn l j (by omega) hjl
        intro h
        unfold zcmp at this h
        split at this <;> (try split at this) <;> split at h <;> (try split at h) <;> omega
    · unfold chN
      rw [if_pos (by rw [hk]; omega)]
      exact ⟨_, _, _, sendW_ne _ _, rfl⟩
  · refine .inl ⟨?_, ?_⟩
    · obtain ⟨j, hj⟩ : ∃ j, l.length = j + 1 := ⟨l.length - 1, by omega⟩
      have hjl : j < l.length := by omega
      have a := lstE_next se l j hjl
      have b := lstN_next sn l j hjl
      rw [← hj] at a b
      rw [a, b]
      have h1 := upN_stop pe pn l (by omega)
      have h2 := rises_lt l se sn (upN pe pn l) j hjl (by omega) hr
      generalize l[upN pe pn l] = t at h1 h2
      generalize l[j] = u at h2 ⊢
      unfold zcmp at h1 h2 ⊢
      split at h1 <;> (try split at h1) <;> split at h2 <;> (try split at h2) <;> split <;> (try split) <;> omega
    · unfold chN
      have hs : szL (l.drop (upN pe pn l)) < 9007199254740992 := by
        have := szL_le (l.drop (upN pe pn l))
        rw [List.length_drop] at this
        omega
      rw [if_neg (by omega), undB_neg _ im hs hi hi']
      rfl

theorem hand_prod (im : Int) : 0 ≤ Int.tmod im 1000 * Int.tmod im 1000 ∧ Int.tmod im 1000 * Int.tmod im 1000 ≤ 998001 := by
  have h1 : -1000 < Int.tmod im 1000 ∧ Int.tmod im 1000 < 1000 := by
    rw [Go.tmod_eq_if]
    split <;> omega
  have h2 : 0 ≤ Int.tmod im 1000 * Int.tmod im 1000 := by
    rcases Int.le_total 0 (Int.tmod im 1000) with h | h
    · exact Int.mul_nonneg h h
    · exact Int.mul_nonneg_of_nonpos_of_nonpos h h
  have h3 : Int.tmod im 1000 * Int.tmod im 1000 ≤ 999 * 999 := by
    rcases Int.le_total 0 (Int.tmod im 1000) with h | h
    · exact Int.mul_le_mul (by omega) (by omega) h (by omega)
    · have := Int.mul_le_mul (a := -Int.tmod im 1000) (b := -Int.tmod im 1000) (c := 999) (d := 999) (by omega) (by omega) (by omega) (by omega)
      rwa [Int.neg_mul_neg] at this
  exact ⟨h2, by omega⟩

/-- The image that the statement makes of another. -/
theorem hand_image (im : Int) : ∃ n : Nat, 1 + Int.tmod im 1000 * Int.tmod im 1000 = (n : Int) ∧ 1 ≤ n ∧ n < 9007199254740992 := by
  obtain ⟨h2, h3⟩ := hand_prod im
  generalize Int.tmod im 1000 * Int.tmod im 1000 = p at *
  exact ⟨(1 + p).toNat, by omega, by omega, by omega⟩
end Go.Proofs.YtljghfglabgckaaDoor
