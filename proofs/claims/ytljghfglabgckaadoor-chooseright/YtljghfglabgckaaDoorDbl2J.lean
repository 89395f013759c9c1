/- Plain facts on IEEE 754 doubles as words: what a word with sign, exponent and fraction stands for, and that doubling, halving, comparing and taking 1 away are exact where the document's own Bits does them; no Go function is walked here. -/
import Derived.WalkKit
import Derived.Laws.FloatArith
namespace Go.Proofs.YtljghfglabgckaaDoor
open Ieee
set_option maxRecDepth 8000

theorem dSign : double.signWeight = 9223372036854775808 := by decide
theorem dBin : double.binade = 4503599627370496 := by decide
theorem dInf : double.infRung = 9218868437227405312 := by decide
theorem dLeast : double.leastPlace = -1074 := by decide
theorem dFrac : double.fractionBits = 52 := by decide

/-- q and m in their one form: below 2^52 only with q = 0. The number is m * 2^(q - 1074). -/
def Can (q m : Nat) : Prop := q ≤ 2045 ∧ m < 9007199254740992 ∧ (q = 0 ∨ 4503599627370496 ≤ m)

/-- The word of q and m. -/
def wd (q m : Nat) : Nat := q * 4503599627370496 + m

theorem read_wd {q m : Nat} (h : Can q m) : double.read (wd q m) = .number false m ((q : Int) - 1074) := by
  obtain ⟨h1, h2, h3⟩ := h
  unfold Format.read
  simp only [dSign, dBin, dInf, dLeast]
  have e0 : wd q m < 9223372036854775808 := by unfold wd; omega
  have e1 : wd q m / 9223372036854775808 = 0 := Nat.div_eq_of_lt e0
  have e2 : wd q m % 9223372036854775808 = wd q m := Nat.mod_eq_of_lt e0
  rw [e1, e2]
  by_cases hs : wd q m < 4503599627370496
  · rw [if_pos hs]
    have hq : q = 0 := by unfold wd at hs; omega
    subst hq
    simp [wd]
  · rw [if_neg hs]
    have hlt : wd q m < 9218868437227405312 := by unfold wd; omega
    rw [if_pos hlt]
    have e3 : wd q m % 4503599627370496 = m - 4503599627370496 := by unfold wd at *; omega
    have e4 : wd q m / 4503599627370496 = q + 1 := by unfold wd at *; omega
    rw [e3, e4]
    have e5 : 4503599627370496 + (m - 4503599627370496) = m := by unfold wd at hs; omega
    rw [e5]
    congr 1

theorem log2_shift (m s : Nat) (hm : m ≠ 0) : (m * 2 ^ s).log2 = m.log2 + s := by
  induction s with
  | zero => simp
  | succ s ih =>
    have e : m * 2 ^ (s + 1) = 2 * (m * 2 ^ s) := by rw [Nat.pow_succ]; simp [Nat.mul_comm, Nat.mul_left_comm]
    rw [e, Nat.log2_two_mul (Nat.mul_ne_zero hm (Nat.pos_iff_ne_zero.1 (Nat.two_pow_pos s))), ih]
    omega

theorem cut_exact (m s : Nat) (hm : m ≠ 0) : Toward.even.cut false (m * 2 ^ s) s = m := by
  unfold Toward.cut
  simp only
  have e1 : min s ((m * 2 ^ s).log2 + 2) = s := by rw [log2_shift m s hm]; omega
  rw [e1, Nat.one_shiftLeft]
  have hp := Nat.two_pow_pos s
  have e2 : m * 2 ^ s % 2 ^ s = 0 := Nat.mul_mod_left _ _
  have e3 : m * 2 ^ s / 2 ^ s = m := Nat.mul_div_cancel _ hp
  rw [e2, e3]
  have e4 : (decide (2 ^ s < 2 * 0) || (2 ^ s == 2 * 0) && (m % 2 == 1)) = false := by
    simp
  rw [e4]
  rfl

theorem log2_can {q m : Nat} (h : Can q m) (hm : m ≠ 0) : (q = 0 ∧ m.log2 ≤ 52) ∨ m.log2 = 52 := by
  obtain ⟨h1, h2, h3⟩ := h
  rcases h3 with h3 | h3
  · exact .inl ⟨h3, by have := (Nat.log2_lt hm (k := 53)).2 (by omega); omega⟩
  · refine .inr ((Nat.log2_eq_iff hm).2 ⟨by omega, by omega⟩)

/-- What is exactly a double is written as it. -/
theorem nearest_wd {q m s : Nat} {t : Int} (h : Can q m) (hm : m ≠ 0) (ht : t + s = (q : Int) - 1074) : double.nearest false (m * 2 ^ s) t = wd q m := by
  have hp := Nat.two_pow_pos s
  have hn : m * 2 ^ s ≠ 0 := Nat.mul_ne_zero hm (by omega)
  unfold Format.nearest
  rw [if_neg hn]
  simp only [dLeast, dFrac, dBin, dInf]
  rw [log2_shift m s hm]
  have hl : max (t + ((m.log2 + s : Nat) : Int) - ((52 : Nat) : Int)) (-1074) = (q : Int) - 1074 := by
    rcases log2_can h hm with ⟨rfl, h1⟩ | h1
    · rw [Int.max_def]; split <;> omega
    · rw [h1, Int.max_def]; split <;> omega
  rw [hl]
  have e1 : (t - ((q : Int) - 1074)).toNat = 0 := by omega
  have e2 : ((q : Int) - 1074 - t).toNat = s := by omega
  have e3 : ((q : Int) - 1074 - -1074).toNat = q := by omega
  rw [e1, e2, e3, Nat.shiftLeft_zero, cut_exact m s hm]
  obtain ⟨h1, h2, h3⟩ := h
  have e4 : min (q * 4503599627370496 + m) 9218868437227405312 = q * 4503599627370496 + m := by omega
  rw [e4]
  rfl

theorem can_two : Can 1023 4503599627370496 := ⟨by omega, by omega, .inr (by omega)⟩
theorem can_one : Can 1022 4503599627370496 := ⟨by omega, by omega, .inr (by omega)⟩
theorem can_big : Can 1074 4503599627370496 := ⟨by omega, by omega, .inr (by omega)⟩
theorem two_wd : (4611686018427387904 : Nat) = wd 1023 4503599627370496 := by decide
theorem one_wd : (4607182418800017408 : Nat) = wd 1022 4503599627370496 := by decide
theorem big_wd : (4841369599423283200 : Nat) = wd 1074 4503599627370496 := by decide

/-- Words of numbers from 0 on stand to each other as what they stand for. -/
theorem order_wd {q m q' m' : Nat} (h : Can q m) (h' : Can q' m') : double.order (wd q m) (wd q' m') = some (compare (wd q m) (wd q' m')) := by
  unfold Format.order
  rw [read_wd h, read_wd h']
  unfold Datum.order
  simp only
  obtain ⟨a1, a2, a3⟩ := h
  obtain ⟨b1, b2, b3⟩ := h'
  congr 1
  have key : ∀ x y : Int, ∀ u v : Nat, (x < y ↔ u < v) → (y < x ↔ v < u) → compare x y = compare u v := by
    intro x y u v h1 h2
    simp only [compare, compareOfLessAndEq]
    by_cases c1 : u < v
    · rw [if_pos (h1.2 c1), if_pos c1]
    · rw [if_neg (fun c => c1 (h1.1 c)), if_neg c1]
      by_cases c2 : v < u
      · have := h2.2 c2
        rw [if_neg (by omega), if_neg (by omega)]
      · have n1 : ¬ x < y := fun c => c1 (h1.1 c)
        have n2 : ¬ y < x := fun c => c2 (h2.1 c)
        rw [if_pos (by omega), if_pos (by omega)]
  by_cases hq : q = q'
  · subst hq
    have e : ((q : Int) - 1074 - min ((q : Int) - 1074) ((q : Int) - 1074)).toNat = 0 := by omega
    rw [e]
    unfold Ieee.signed
    simp only [Nat.shiftLeft_zero, Bool.false_eq_true, if_false]
    exact key _ _ _ _ (by unfold wd; omega) (by unfold wd; omega)
  · by_cases hlt : q < q'
    · have e1 : ((q : Int) - 1074 - min ((q : Int) - 1074) ((q' : Int) - 1074)).toNat = 0 := by omega
      have e2 : ((q' : Int) - 1074 - min ((q : Int) - 1074) ((q' : Int) - 1074)).toNat = (q' - q - 1) + 1 := by omega
      rw [e1, e2]
      unfold Ieee.signed
      simp only [Bool.false_eq_true, if_false, Nat.shiftLeft_eq, Nat.pow_succ]
      have hp := Nat.two_pow_pos (q' - q - 1)
      have hm : 4503599627370496 ≤ m' := by omega
      have h1 : m' * 1 ≤ m' * 2 ^ (q' - q - 1) := Nat.mul_le_mul_left _ hp
      have h2 : m' * (2 ^ (q' - q - 1) * 2) = m' * 2 ^ (q' - q - 1) * 2 := (Nat.mul_assoc _ _ _).symm
      rw [h2]
      generalize m' * 2 ^ (q' - q - 1) = z at *
      exact key _ _ _ _ (by unfold wd; omega) (by unfold wd; omega)
    · have e1 : ((q' : Int) - 1074 - min ((q : Int) - 1074) ((q' : Int) - 1074)).toNat = 0 := by omega
      have e2 : ((q : Int) - 1074 - min ((q : Int) - 1074) ((q' : Int) - 1074)).toNat = (q - q' - 1) + 1 := by omega
      rw [e1, e2]
      unfold Ieee.signed
      simp only [Bool.false_eq_true, if_false, Nat.shiftLeft_eq, Nat.pow_succ]
      have hp := Nat.two_pow_pos (q - q' - 1)
      have hm : 4503599627370496 ≤ m := by omega
      have h1 : m * 1 ≤ m * 2 ^ (q - q' - 1) := Nat.mul_le_mul_left _ hp
      have h2 : m * (2 ^ (q - q' - 1) * 2) = m * 2 ^ (q - q' - 1) * 2 := (Nat.mul_assoc _ _ _).symm
      rw [h2]
      generalize m * 2 ^ (q - q' - 1) = z at *
      exact key _ _ _ _ (by unfold wd; omega) (by unfold wd; omega)

/-- Doubling: one rung of the exponent up, or, below the least exponent, the fraction doubled. -/
theorem mul_two {q m : Nat} (h : Can q m) (hm : 4503599627370496 ≤ m) (hq : q + 1 ≤ 2045) : double.mul (wd q m) 4611686018427387904 = some (wd (q + 1) m) := by
  unfold Format.mul
  rw [two_wd, read_wd h, read_wd can_two]
  have e : (4503599627370496 : Nat) = 2 ^ 52 := by decide
  simp only [Datum.product, Option.map_some, Format.write]
  congr 1
  have := nearest_wd (q := q + 1) (m := m) (s := 52) (t := (q : Int) - 1074 + (((1023 : Nat) : Int) - 1074)) ⟨hq, h.2.1, .inr hm⟩ (by omega) (by omega)
  rw [← e] at this
  exact this

theorem mul_two_sub {m : Nat} (hm : m < 4503599627370496) (h0 : m ≠ 0) : double.mul (wd 0 m) 4611686018427387904 = some (wd 0 (2 * m)) := by
  unfold Format.mul
  rw [two_wd, read_wd (q := 0) ⟨by omega, by omega, .inl rfl⟩, read_wd can_two]
  simp only [Datum.product, Option.map_some, Format.write]
  congr 1
  have := nearest_wd (q := 0) (m := 2 * m) (s := 51) (t := ((0 : Nat) : Int) - 1074 + (((1023 : Nat) : Int) - 1074)) ⟨by omega, by omega, .inl rfl⟩ (by omega) (by omega)
  have e : 2 * m * 2 ^ 51 = m * 4503599627370496 := by omega
  rw [e] at this
  exact this

/-- Halving a number from 2 on. -/
theorem div_two {q m : Nat} (h : Can q m) (hm : 4503599627370496 ≤ m) (hq : 1 ≤ q) : double.div (wd q m) 4611686018427387904 = some (wd (q - 1) m) := by
  unfold Format.div
  rw [two_wd, read_wd h, read_wd can_two, dFrac]
  have hl : m.log2 = 52 := (Nat.log2_eq_iff (by omega)).2 ⟨by omega, by have := h.2.1; omega⟩
  have hl2 : (4503599627370496 : Nat).log2 = 52 := (Nat.log2_eq_iff (by omega)).2 ⟨by omega, by omega⟩
  simp only [Datum.quotient]
  rw [if_neg (by omega), hl, hl2]
  simp only [Option.map_some, Format.write]
  refine congrArg some ?_
  have e1 : m <<< (52 + 2 + 52 - 52) = (m * 4) * 4503599627370496 := by rw [Nat.shiftLeft_eq]; omega
  rw [e1, Nat.mul_div_cancel _ (by omega), Nat.mul_mod_left]
  have := nearest_wd (q := q - 1) (m := m) (s := 3) (t := (q : Int) - 1074 - (((1023 : Nat) : Int) - 1074) - ((52 + 2 + 52 - 52 : Nat) : Int) - 1) ⟨by have := h.1; omega, h.2.1, .inr hm⟩ (by omega) (by omega)
  have e2 : m * 2 ^ 3 = 2 * (m * 4) + (0 != 0).toNat := by simp; omega
  rw [e2] at this
  exact this

end Go.Proofs.YtljghfglabgckaaDoor

/- More plain facts on IEEE 754 doubles: what stands behind the point taken back as a whole number; 1 taken away. -/
namespace Go.Proofs.YtljghfglabgckaaDoor
open Ieee
set_option maxRecDepth 8000

theorem up_lt {f : Nat} (hL : f.log2 ≤ 52) : f * 2 ^ (52 - f.log2) < 9007199254740992 := by
  have h1 : f < 2 ^ (f.log2 + 1) := Nat.lt_log2_self
  have h2 : f * 2 ^ (52 - f.log2) < 2 ^ (f.log2 + 1) * 2 ^ (52 - f.log2) := Nat.mul_lt_mul_of_pos_right h1 (Nat.two_pow_pos _)
  rw [← Nat.pow_add, show f.log2 + 1 + (52 - f.log2) = 53 by omega] at h2
  have : (2 : Nat) ^ 53 = 9007199254740992 := by decide
  omega

theorem up_ge {f : Nat} (h0 : f ≠ 0) (hL : f.log2 ≤ 52) : 4503599627370496 ≤ f * 2 ^ (52 - f.log2) := by
  have h1 : 2 ^ f.log2 ≤ f := Nat.log2_self_le h0
  have h2 : 2 ^ f.log2 * 2 ^ (52 - f.log2) ≤ f * 2 ^ (52 - f.log2) := Nat.mul_le_mul_right _ h1
  rw [← Nat.pow_add, show f.log2 + (52 - f.log2) = 52 by omega] at h2
  have : (2 : Nat) ^ 52 = 4503599627370496 := by decide
  omega

/-- A whole number below 2^53 at a place t from -1074 on, written: its digits moved up to the first. -/
theorem nearest_up {f : Nat} {t : Int} (h0 : f ≠ 0) (h1 : f < 9007199254740992) (ht : -1022 ≤ t + f.log2) (ht' : t + f.log2 ≤ 1023) : double.nearest false f t = wd (t + f.log2 + 1022).toNat (f * 2 ^ (52 - f.log2)) := by
  have hL : f.log2 ≤ 52 := by have := (Nat.log2_lt h0 (k := 53)).2 (by omega); omega
  unfold Format.nearest
  rw [if_neg h0]
  simp only [dLeast, dFrac, dBin, dInf]
  have hl : max (t + (f.log2 : Int) - ((52 : Nat) : Int)) (-1074) = t + (f.log2 : Int) - 52 := by rw [Int.max_def]; split <;> omega
  rw [hl]
  have e1 : (t - (t + (f.log2 : Int) - 52)).toNat = 52 - f.log2 := by omega
  have e2 : (t + (f.log2 : Int) - 52 - t).toNat = 0 := by omega
  have e3 : (t + (f.log2 : Int) - 52 - -1074).toNat = (t + f.log2 + 1022).toNat := by rw [show t + (f.log2 : Int) - 52 - -1074 = t + f.log2 + 1022 by omega]
  rw [e1, e2, e3, Nat.shiftLeft_eq]
  have hne : f * 2 ^ (52 - f.log2) ≠ 0 := Nat.mul_ne_zero h0 (by have := Nat.two_pow_pos (52 - f.log2); omega)
  have c := cut_exact (f * 2 ^ (52 - f.log2)) 0 hne
  rw [Nat.pow_zero, Nat.mul_one] at c
  rw [c]
  have hlt := up_lt hL
  have hQ : (t + f.log2 + 1022).toNat ≤ 2045 := by omega
  generalize (t + f.log2 + 1022).toNat = Q at *
  generalize f * 2 ^ (52 - f.log2) = M at *
  have e4 : Q * 4503599627370496 + M ≤ 9218868437227405312 := by omega
  rw [Nat.min_eq_left e4]
  rfl

theorem scale_mul (L M : Nat) (hL : L ≤ 51) (hr : M < 9007199254740992) (hge : 4503599627370496 ≤ M) : double.mul (wd (970 + L) M) 4841369599423283200 = some (wd (1022 + L) M) := by
  unfold Format.mul
  rw [big_wd, read_wd ⟨by omega, hr, .inr hge⟩, read_wd can_big]
  have e : (4503599627370496 : Nat) = 2 ^ 52 := by decide
  simp only [Datum.product, Option.map_some, Format.write]
  refine congrArg some ?_
  have := nearest_wd (q := 1022 + L) (m := M) (s := 52) (t := ((970 + L : Nat) : Int) - 1074 + (((1074 : Nat) : Int) - 1074)) ⟨by omega, hr, .inr hge⟩ (by omega) (by omega)
  rw [← e] at this
  exact this

theorem cut_zero (f s : Nat) (h0 : f ≠ 0) : Toward.zero.cut false (f * 2 ^ s) s = f := by
  unfold Toward.cut
  simp only
  have e3 : min s ((f * 2 ^ s).log2 + 2) = s := by rw [log2_shift f _ h0]; omega
  rw [e3, Nat.one_shiftLeft, Nat.mul_div_cancel _ (Nat.two_pow_pos _)]
  simp

theorem decode_f64 (x : Nat) : FloatKind.decode .f64 x = double.read x := rfl
theorem toInt_at (m s : Nat) (p : Int) (h0 : m ≠ 0) (hp : p = -(s : Int)) : (Datum.number false (m * 2 ^ s) p).toInt .zero = some (m : Int) := by
  subst hp
  unfold Datum.toInt Datum.integral
  simp only
  have e1 : (-(s : Int)).toNat = 0 := by omega
  have e2 : (-(-(s : Int))).toNat = s := by omega
  rw [e1, e2, Nat.shiftLeft_zero, cut_zero m _ h0]
  simp [Ieee.signed]
theorem fits_u64 (f : Nat) (h : f < 4503599627370496) : IntKind.u64.min ≤ (f : Int) ∧ (f : Int) ≤ IntKind.u64.max := by
  have a1 : IntKind.u64.min = 0 := by decide
  have a2 : IntKind.u64.max = 18446744073709551615 := by decide
  rw [a1, a2]; omega
theorem toIntVal_of (x f : Nat) (d : Datum) (hd : double.read x = d) (ht : d.toInt .zero = some (f : Int)) (h : f < 4503599627370496) : floatToIntVal .f64 x .u64 = some (f : Int) := by
  unfold floatToIntVal
  rw [decode_f64, hd, ht]
  simp only
  rw [if_pos (fits_u64 f h)]

theorem scale_int (f L : Nat) (h0 : f ≠ 0) (h1 : f < 4503599627370496) (hL : L ≤ 51) (hr : f * 2 ^ (52 - L) < 9007199254740992) (hge : 4503599627370496 ≤ f * 2 ^ (52 - L)) :
    floatToIntVal .f64 (wd (1022 + L) (f * 2 ^ (52 - L))) .u64 = some (f : Int) := by
  refine toIntVal_of _ f _ (read_wd ⟨by omega, hr, .inr hge⟩) ?_ h1
  exact toInt_at f (52 - L) _ h0 (by omega)

/-- What stands behind the point, taken back: F * 2^-52, times 2^52, as a whole number. -/
theorem scale_back {f : Nat} (h0 : f ≠ 0) (h1 : f < 4503599627370496) :
    double.mul (wd (970 + f.log2) (f * 2 ^ (52 - f.log2))) 4841369599423283200 = some (wd (1022 + f.log2) (f * 2 ^ (52 - f.log2))) ∧ floatToIntVal .f64 (wd (1022 + f.log2) (f * 2 ^ (52 - f.log2))) .u64 = some (f : Int) := by
  have hL : f.log2 ≤ 51 := by have := (Nat.log2_lt h0 (k := 52)).2 (by omega); omega
  have hr := up_lt (f := f) (by omega)
  have hge := up_ge h0 (by omega)
  exact ⟨scale_mul _ _ hL hr hge, scale_int f _ h0 h1 hL hr hge⟩

/-- v - 1 of a number from 1 to 2. -/
theorem sub_one {m : Nat} (h0 : 4503599627370496 < m) (h1 : m < 9007199254740992) :
    double.sub (wd 1022 m) 4607182418800017408 = some (wd (970 + (m - 4503599627370496).log2) ((m - 4503599627370496) * 2 ^ (52 - (m - 4503599627370496).log2))) := by
  unfold Format.sub
  rw [one_wd, read_wd ⟨by omega, h1, .inr (by omega)⟩, read_wd can_one]
  simp only [Datum.opposite, Datum.sum, Option.map_some, Format.write]
  refine congrArg some ?_
  have e0 : (((1022 : Nat) : Int) - 1074 - min (((1022 : Nat) : Int) - 1074) (((1022 : Nat) : Int) - 1074)).toNat = 0 := by omega
  rw [e0]
  have e1 : Ieee.signed false m 0 + Ieee.signed (!false) 4503599627370496 0 = ((m - 4503599627370496 : Nat) : Int) := by
    simp [Ieee.signed]; omega
  rw [e1]
  have e2 : (((m - 4503599627370496 : Nat) : Int)).natAbs = m - 4503599627370496 := by omega
  have e3 : min (((1022 : Nat) : Int) - 1074) (((1022 : Nat) : Int) - 1074) = -52 := by omega
  have e4 : (if ((m - 4503599627370496 : Nat) : Int) = 0 then (false && !false) else decide (((m - 4503599627370496 : Nat) : Int) < 0)) = false := by
    rw [if_neg (by omega)]
    simp
  rw [e2, e3, e4]
  have hf : m - 4503599627370496 ≠ 0 := by omega
  have hl : (m - 4503599627370496).log2 ≤ 51 := by have := (Nat.log2_lt hf (k := 52)).2 (by omega); omega
  rw [nearest_up hf (by omega) (by omega) (by omega), show (-52 + ((m - 4503599627370496).log2 : Int) + 1022).toNat = 970 + (m - 4503599627370496).log2 by omega]

theorem sub_one_nought : double.sub (wd 1022 4503599627370496) 4607182418800017408 = some 0 := by decide
theorem mul_nought : double.mul 0 4841369599423283200 = some 0 := by decide
theorem int_nought : floatToIntVal .f64 0 .u64 = some 0 := by decide

end Go.Proofs.YtljghfglabgckaaDoor
