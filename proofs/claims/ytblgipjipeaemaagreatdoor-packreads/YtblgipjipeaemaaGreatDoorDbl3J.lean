/- More plain facts on IEEE 754 doubles: what stands behind the point taken back as a whole number; 1 taken away. -/
import Derived.Test.YtblgipjipeaemaaGreatDoorDblJ
namespace Go.Proofs.YtblgipjipeaemaaGreatDoor
open Ieee
set_option maxRecDepth 8000

theorem up_lt {f : Nat} (hL : f.log2 ≤ 52) : f * 2 ^ (52 - f.log2) < 9007199254740992 := by
  have h1 : f < 2 ^ (f.log2 + 1) := Nat.lt_log2_self
  have h2 : f * 2 ^ (52 - f.log2) < 2 ^ (f.log2 + 1) * 2 ^ (52 - f.log2) := Nat.mul_lt_mul_of_pos_right h1 (Nat.two_pow_pos _)
  rw [← Nat.pow_add, show f.log2 + 1 + (52 - f.log2) = 53 by omega] at h2
  have : (2 : Nat) ^ 53 = 9007199254740992 := by decide
  omega

theorem up_ge {f : Nat} (h0 : f ≠ 0) (hL : f.log2 ≤ 52) : 4503599627370496 ≤ f * 2 ^ (52 - f.log2) := by
  have h1 : 2 ^ f.log2 ≤ f := Nat.log2_self_le h0
  have h2 : 2 ^ f.log2 * 2 ^ (52 - f.log2) ≤ f * 2 ^ (52 - f.log2) := Nat.mul_le_mul_right _ h1
  rw [← Nat.pow_add, show f.log2 + (52 - f.log2) = 52 by omega] at h2
  have : (2 : Nat) ^ 52 = 4503599627370496 := by decide
  omega

/-- A whole number below 2^53 at a place t from -1074 on, written: its digits moved up to the first. -/
theorem nearest_up {f : Nat} {t : Int} (h0 : f ≠ 0) (h1 : f < 9007199254740992) (ht : -1022 ≤ t + f.log2) (ht' : t + f.log2 ≤ 1023) : double.nearest false f t = wd (t + f.log2 + 1022).toNat (f * 2 ^ (52 - f.log2)) := by
  have hL : f.log2 ≤ 52 := by have := (Nat.log2_lt h0 (k := 53)).2 (by omega); omega
  unfold Format.nearest
  rw [if_neg h0]
  simp only [dLeast, dFrac, dBin, dInf]
  have hl : max (t + (f.log2 : Int) - ((52 : Nat) : Int)) (-1074) = t + (f.log2 : Int) - 52 := by rw [Int.max_def]; split <;> omega
  rw [hl]
  have e1 : (t - (t + (f.log2 : Int) - 52)).toNat = 52 - f.log2 := by omega
  have e2 : (t + (f.log2 : Int) - 52 - t).toNat = 0 := by omega
  have e3 : (t + (f.log2 : Int) - 52 - -1074).toNat = (t + f.log2 + 1022).toNat := by rw [show t + (f.log2 : Int) - 52 - -1074 = t + f.log2 + 1022 by omega]
  rw [e1, e2, e3, Nat.shiftLeft_eq]
  have hne : f * 2 ^ (52 - f.log2) ≠ 0 := Nat.mul_ne_zero h0 (by have := Nat.two_pow_pos (52 - f.log2); omega)
  have c := cut_exact (f * 2 ^ (52 - f.log2)) 0 hne
  rw [Nat.pow_zero, Nat.mul_one] at c
  rw [c]
  have hlt := up_lt hL
  have hQ : (t + f.log2 + 1022).toNat ≤ 2045 := by omega
  generalize (t + f.log2 + 1022).toNat = Q at *
  generalize f * 2 ^ (52 - f.log2) = M at *
  have e4 : Q * 4503599627370496 + M ≤ 9218868437227405312 := by omega
  rw [Nat.min_eq_left e4]
  rfl

theorem scale_mul (L M : Nat) (hL : L ≤ 51) (hr : M < 9007199254740992) (hge : 4503599627370496 ≤ M) : double.mul (wd (970 + L) M) 4841369599423283200 = some (wd (1022 + L) M) := by
  unfold Format.mul
  rw [big_wd, read_wd ⟨by omega, hr, .inr hge⟩, read_wd can_big]
  have e : (4503599627370496 : Nat) = 2 ^ 52 := by decide
  simp only [Datum.product, Option.map_some, Format.write]
  refine congrArg some ?_
  have := nearest_wd (q := 1022 + L) (m := M) (s := 52) (t := ((970 + L : Nat) : Int) - 1074 + (((1074 : Nat) : Int) - 1074)) ⟨by omega, hr, .inr hge⟩ (by omega) (by omega)
  rw [← e] at this
  exact this

theorem cut_zero (f s : Nat) (h0 : f ≠ 0) : Toward.zero.cut false (f * 2 ^ s) s = f := by
  unfold Toward.cut
  simp only
  have e3 : min s ((f * 2 ^ s).log2 + 2) = s := by rw [log2_shift f _ h0]; omega
  rw [e3, Nat.one_shiftLeft, Nat.mul_div_cancel _ (Nat.two_pow_pos _)]
  simp

theorem decode_f64 (x : Nat) : FloatKind.decode .f64 x = double.read x := rfl
theorem toInt_at (m s : Nat) (p : Int) (h0 : m ≠ 0) (hp : p = -(s : Int)) : (Datum.number false (m * 2 ^ s) p).toInt .zero = some (m : Int) := by
  subst hp
  unfold Datum.toInt Datum.integral
  simp only
  have e1 : (-(s : Int)).toNat = 0 := by omega
  have e2 : (-(-(s : Int))).toNat = s := by omega
  rw [e1, e2, Nat.shiftLeft_zero, cut_zero m _ h0]
  simp [Ieee.signed]
theorem fits_u64 (f : Nat) (h : f < 4503599627370496) : IntKind.u64.min ≤ (f : Int) ∧ (f : Int) ≤ IntKind.u64.max := by
  have a1 : IntKind.u64.min = 0 := by decide
  have a2 : IntKind.u64.max = 18446744073709551615 := by decide
  rw [a1, a2]; omega
theorem toIntVal_of (x f : Nat) (d : Datum) (hd : double.read x = d) (ht : d.toInt .zero = some (f : Int)) (h : f < 4503599627370496) : floatToIntVal .f64 x .u64 = some (f : Int) := by
  unfold floatToIntVal
  rw [decode_f64, hd, ht]
  simp only
  rw [if_pos (fits_u64 f h)]

theorem scale_int (f L : Nat) (h0 : f ≠ 0) (h1 : f < 4503599627370496) (hL : L ≤ 51) (hr : f * 2 ^ (52 - L) < 9007199254740992) (hge : 4503599627370496 ≤ f * 2 ^ (52 - L)) :
    floatToIntVal .f64 (wd (1022 + L) (f * 2 ^ (52 - L))) .u64 = some (f : Int) := by
  refine toIntVal_of _ f _ (read_wd ⟨by omega, hr, .inr hge⟩) ?_ h1
  exact toInt_at f (52 - L) _ h0 (by omega)

/-- What stands behind the point, taken back: F * 2^-52, times 2^52, as a whole number. -/
theorem scale_back {f : Nat} (h0 : f ≠ 0) (h1 : f < 4503599627370496) :
    double.mul (wd (970 + f.log2) (f * 2 ^ (52 - f.log2))) 4841369599423283200 = some (wd (1022 + f.log2) (f * 2 ^ (52 - f.log2))) ∧ floatToIntVal .f64 (wd (1022 + f.log2) (f * 2 ^ (52 - f.log2))) .u64 = some (f : Int) := by
  have hL : f.log2 ≤ 51 := by have := (Nat.log2_lt h0 (k := 52)).2 (by omega); omega
  have hr := up_lt (f := f) (by omega)
  have hge := up_ge h0 (by omega)
  exact ⟨scale_mul _ _ hL hr hge, scale_int f _ h0 h1 hL hr hge⟩

/-- v - 1 of a number from 1 to 2. -/
theorem sub_one {m : Nat} (h0 : 4503599627370496 < m) (h1 : m < 9007199254740992) :
    double.sub (wd 1022 m) 4607182418800017408 = some (wd (970 + (m - 4503599627370496).log2) ((m - 4503599627370496) * 2 ^ (52 - (m - 4503599627370496).log2))) := by
  unfold Format.sub
  rw [one_wd, read_wd ⟨by omega, h1, .inr (by omega)⟩, read_wd can_one]
  simp only [Datum.opposite, Datum.sum, Option.map_some, Format.write]
  refine congrArg some ?_
  have e0 : (((1022 : Nat) : Int) - 1074 - min (((1022 : Nat) : Int) - 1074) (((1022 : Nat) : Int) - 1074)).toNat = 0 := by omega
  rw [e0]
  have e1 : Ieee.signed false m 0 + Ieee.signed (!false) 4503599627370496 0 = ((m - 4503599627370496 : Nat) : Int) := by
    simp [Ieee.signed]; omega
  rw [e1]
  have e2 : (((m - 4503599627370496 : Nat) : Int)).natAbs = m - 4503599627370496 := by omega
  have e3 : min (((1022 : Nat) : Int) - 1074) (((1022 : Nat) : Int) - 1074) = -52 := by omega
  have e4 : (if ((m - 4503599627370496 : Nat) : Int) = 0 then (false && !false) else decide (((m - 4503599627370496 : Nat) : Int) < 0)) = false := by
    rw [if_neg (by omega)]
    simp
  rw [e2, e3, e4]
  have hf : m - 4503599627370496 ≠ 0 := by omega
  have hl : (m - 4503599627370496).log2 ≤ 51 := by have := (Nat.log2_lt hf (k := 52)).2 (by omega); omega
  rw [nearest_up hf (by omega) (by omega) (by omega), show (-52 + ((m - 4503599627370496).log2 : Int) + 1022).toNat = 970 + (m - 4503599627370496).log2 by omega]

theorem sub_one_nought : double.sub (wd 1022 4503599627370496) 4607182418800017408 = some 0 := by decide
theorem mul_nought : double.mul 0 4841369599423283200 = some 0 := by decide
theorem int_nought : floatToIntVal .f64 0 .u64 = some 0 := by decide

end Go.Proofs.YtblgipjipeaemaaGreatDoor

/- A float's bits with one form for what is not a number; what is a number is like itself. -/
namespace Go.Proofs.YtblgipjipeaemaaGreatDoor
open Ieee
set_option maxRecDepth 8000

def bitsOf (x : Nat) : Nat := if 9218868437227405312 < x % 9223372036854775808 then 9221120237041090560 else x

theorem nan_order (x : Nat) (h : 9218868437227405312 < x % 9223372036854775808) : double.order x x = none := by
  have : ∃ s f, double.read x = .nan s f := by
    unfold Format.read
    simp only [dSign, dBin, dInf]
    rw [if_neg (by omega), if_neg (by omega), if_neg (by omega)]
    exact ⟨_, _, rfl⟩
  obtain ⟨s, f, e⟩ := this
  unfold Format.order
  rw [e]
  rfl

theorem num_order (x : Nat) (h : ¬ 9218868437227405312 < x % 9223372036854775808) : double.order x x = some .eq := by
  have hn : ∀ s f, double.read x ≠ .nan s f := by
    intro s f
    unfold Format.read
    simp only [dSign, dBin, dInf]
    by_cases c1 : x % 9223372036854775808 < 4503599627370496
    · rw [if_pos c1]; exact fun e => by cases e
    · rw [if_neg c1]
      by_cases c2 : x % 9223372036854775808 < 9218868437227405312
      · rw [if_pos c2]; exact fun e => by cases e
      · rw [if_neg c2, if_pos (by omega)]; exact fun e => by cases e
  unfold Format.order
  cases e : double.read x with
  | number s m p => simp [Datum.order, compare, compareOfLessAndEq]
  | infinity s => cases s <;> rfl
  | nan s f => exact absurd e (hn s f)

theorem bitsOf_lt (x : Nat) (h : x < 18446744073709551616) : bitsOf x < 18446744073709551616 := by unfold bitsOf; split <;> omega

end Go.Proofs.YtblgipjipeaemaaGreatDoor
