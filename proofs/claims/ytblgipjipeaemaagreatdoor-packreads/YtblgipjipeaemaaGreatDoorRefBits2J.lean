/- The document's own Bits at numbers that are neither nought nor infinite, from the least exponent on: their bits. -/
import Derived.Test.YtblgipjipeaemaaGreatDoorRefBitsJ
namespace Go.Proofs.YtblgipjipeaemaaGreatDoor
open Ieee
open Go.RowKit (intOf Hid)
set_option maxRecDepth 8000

theorem mul_over {m : Nat} (hm : 4503599627370496 ≤ m) (h2 : m < 9007199254740992) : double.mul (wd 2045 m) 4611686018427387904 = some 9218868437227405312 := by
  unfold Format.mul
  rw [two_wd, read_wd ⟨by omega, h2, .inr hm⟩, read_wd can_two]
  simp only [Datum.product, Option.map_some, Format.write]
  refine congrArg some ?_
  have e : (4503599627370496 : Nat) = 2 ^ 52 := by decide
  have hl : m.log2 = 52 := (Nat.log2_eq_iff (by omega)).2 ⟨by omega, by omega⟩
  have hl2 : (m * 4503599627370496).log2 = 104 := by rw [e, log2_shift m 52 (by omega), hl]
  unfold Format.nearest
  rw [if_neg (by omega)]
  simp only [dLeast, dFrac, dBin, dInf]
  rw [hl2]
  have hx : max (((2045 : Nat) : Int) - 1074 + (((1023 : Nat) : Int) - 1074) + ((104 : Nat) : Int) - ((52 : Nat) : Int)) (-1074) = 972 := by decide
  rw [hx]
  have e1 : (((2045 : Nat) : Int) - 1074 + (((1023 : Nat) : Int) - 1074) - 972).toNat = 0 := by decide
  have e2 : ((972 : Int) - (((2045 : Nat) : Int) - 1074 + (((1023 : Nat) : Int) - 1074))).toNat = 52 := by decide
  have e3 : ((972 : Int) - -1074).toNat = 2046 := by decide
  have c := cut_exact m 52 (by omega)
  rw [← e] at c
  rw [show (false ^^ false) = false from rfl, e1, e2, e3, Nat.shiftLeft_zero, c, Nat.min_eq_right (by omega)]
  rfl

theorem inf_order {q m : Nat} (h : Can q m) : double.order 9218868437227405312 (wd q m) = some .gt := by
  have hr : double.read 9218868437227405312 = .infinity false := by decide
  unfold Format.order
  rw [hr, read_wd h]
  rfl

/-- Twice a number that is neither nought nor infinite is another one. -/
theorem twice {q m : Nat} (h : Can q m) (hm : m ≠ 0) : ∃ z, double.mul (wd q m) 4611686018427387904 = some z ∧ double.order z (wd q m) = some .gt := by
  obtain ⟨h1, h2, h3⟩ := h
  by_cases c : 4503599627370496 ≤ m
  · by_cases c2 : q + 1 ≤ 2045
    · exact ⟨_, mul_two ⟨h1, h2, h3⟩ c c2, order_gt ⟨c2, h2, .inr c⟩ ⟨h1, h2, h3⟩ (by unfold wd; omega)⟩
    · obtain rfl : q = 2045 := by omega
      exact ⟨_, mul_over c h2, inf_order ⟨h1, h2, h3⟩⟩
  · obtain rfl : q = 0 := by omega
    exact ⟨_, mul_two_sub (by omega) hm, order_gt ⟨by omega, by omega, .inl rfl⟩ ⟨h1, h2, h3⟩ (by unfold wd; omega)⟩

theorem ge_two {q m : Nat} (h : Can q m) (hq : 1023 ≤ q) : (FloatKind.f64.format.order (wd q m) 4611686018427387904 == some .gt || FloatKind.f64.format.order (wd q m) 4611686018427387904 == some .eq) = true := by
  have e : FloatKind.f64.format.order (wd q m) 4611686018427387904 = some (compare (wd q m) 4611686018427387904) := by
    show double.order _ _ = _
    rw [two_wd]; exact order_wd h can_two
  rw [e]
  obtain ⟨h1, h2, h3⟩ := h
  have : 4611686018427387904 ≤ wd q m := by unfold wd; omega
  by_cases c : 4611686018427387904 < wd q m
  · rw [cmp_gt c]; rfl
  · have e2 : wd q m = 4611686018427387904 := by omega
    rw [e2]; decide

theorem lt_two {q m : Nat} (h : Can q m) (hq : q < 1023) : (FloatKind.f64.format.order (wd q m) 4611686018427387904 == some .gt || FloatKind.f64.format.order (wd q m) 4611686018427387904 == some .eq) = false := by
  have e : FloatKind.f64.format.order (wd q m) 4611686018427387904 = some .lt := by
    show double.order _ _ = _
    rw [two_wd]
    obtain ⟨h1, h2, h3⟩ := h
    exact order_lt ⟨h1, h2, h3⟩ can_two (by unfold wd; omega)
  rw [e]; rfl

theorem lt_one {q m : Nat} (h : Can q m) (hq : q < 1022) : (FloatKind.f64.format.order (wd q m) 4607182418800017408 == some .lt) = true := by
  have e : FloatKind.f64.format.order (wd q m) 4607182418800017408 = some .lt := by
    show double.order _ _ = _
    rw [one_wd]
    obtain ⟨h1, h2, h3⟩ := h
    exact order_lt ⟨h1, h2, h3⟩ can_one (by unfold wd; omega)
  rw [e]; rfl

theorem ge_one {m : Nat} (h : Can 1022 m) : (FloatKind.f64.format.order (wd 1022 m) 4607182418800017408 == some .lt) = false := by
  have e : FloatKind.f64.format.order (wd 1022 m) 4607182418800017408 = some (compare (wd 1022 m) 4607182418800017408) := by
    show double.order _ _ = _
    rw [one_wd]; exact order_wd h can_one
  rw [e]
  obtain ⟨h1, h2, h3⟩ := h
  have hge : 4607182418800017408 ≤ wd 1022 m := by unfold wd; omega
  by_cases c : 4607182418800017408 < wd 1022 m
  · rw [cmp_gt c]; rfl
  · have e2 : wd 1022 m = 4607182418800017408 := by omega
    rw [e2]; decide

/-- What stands behind the point of a number from 1 to 2: its fraction. -/
theorem frac_of {m : Nat} (h0 : 4503599627370496 ≤ m) (h1 : m < 9007199254740992) : ∃ a b, double.sub (wd 1022 m) 4607182418800017408 = some a ∧ double.mul a 4841369599423283200 = some b ∧ floatToIntVal .f64 b .u64 = some ((m - 4503599627370496 : Nat) : Int) := by
  by_cases c : m = 4503599627370496
  · subst c
    exact ⟨0, 0, sub_one_nought, mul_nought, int_nought⟩
  · have := scale_back (f := m - 4503599627370496) (by omega) (by omega)
    exact ⟨_, _, sub_one (by omega) h1, this.1, this.2⟩

theorem ret_u64 {a b : Int} (h : a = b) : Ending.returned (.int .u64 a) = .returned (.int .u64 b) := by rw [h]

theorem gt_nought {q m : Nat} (h : Can q m) (hm : m ≠ 0) : double.order (wd q m) 0 = some .gt := by
  have hl : wd 0 0 < wd q m := by
    have e : wd 0 0 = 0 := by decide
    rw [e]
    unfold wd
    omega
  have := order_gt h can_nought hl
  rw [← nought_wd] at this
  exact this

/-- The word in a slot: for a loop's measure. -/
def wordOf : Value → Nat
  | .float _ b => b
  | _ => 0

/-- What a number below the least exponent is behind k doublings. -/
def sq (m k : Nat) : Nat := k - (52 - m.log2)
def sm (m k : Nat) : Nat := m * 2 ^ (min k (52 - m.log2))

theorem log2_sub {m : Nat} (h0 : m ≠ 0) (h1 : m < 4503599627370496) : m.log2 ≤ 51 := by have := (Nat.log2_lt h0 (k := 52)).2 (by omega); omega

theorem sm_top {m k : Nat} (hk : 52 - m.log2 ≤ k) : sm m k = m * 2 ^ (52 - m.log2) := by unfold sm; rw [Nat.min_eq_right hk]

theorem sm_low {m k : Nat} (hk : k ≤ 52 - m.log2) : sm m k = m * 2 ^ k := by unfold sm; rw [Nat.min_eq_left hk]

theorem sm_small {m k : Nat} (h0 : m ≠ 0) (h1 : m < 4503599627370496) (hk : k < 52 - m.log2) : sm m k < 4503599627370496 ∧ sm m k ≠ 0 := by
  have hL := log2_sub h0 h1
  rw [sm_low (by omega)]
  have a1 : m < 2 ^ (m.log2 + 1) := Nat.lt_log2_self
  have a2 : m * 2 ^ k < 2 ^ (m.log2 + 1) * 2 ^ k := Nat.mul_lt_mul_of_pos_right a1 (Nat.two_pow_pos _)
  rw [← Nat.pow_add] at a2
  have a3 : 2 ^ (m.log2 + 1 + k) ≤ 2 ^ 52 := Nat.pow_le_pow_right (by omega) (by omega)
  have a4 : (2 : Nat) ^ 52 = 4503599627370496 := by decide
  have a5 : m * 2 ^ k ≠ 0 := Nat.mul_ne_zero h0 (by have := Nat.two_pow_pos k; omega)
  exact ⟨by omega, a5⟩

theorem sub_can {m k : Nat} (h0 : m ≠ 0) (h1 : m < 4503599627370496) (hk : k ≤ 1022) : Can (sq m k) (sm m k) := by
  have hL := log2_sub h0 h1
  by_cases c : k < 52 - m.log2
  · have := sm_small h0 h1 c
    exact ⟨by unfold sq; omega, by omega, .inl (by unfold sq; omega)⟩
  · rw [sm_top (by omega)]
    exact ⟨by unfold sq; omega, up_lt (by omega), .inr (up_ge h0 (by omega))⟩

theorem sub_step {m k : Nat} (h0 : m ≠ 0) (h1 : m < 4503599627370496) (hk : k < 1022) : double.mul (wd (sq m k) (sm m k)) 4611686018427387904 = some (wd (sq m (k + 1)) (sm m (k + 1))) := by
  have hL := log2_sub h0 h1
  by_cases c : k < 52 - m.log2
  · have hs := sm_small h0 h1 c
    have e1 : sq m k = 0 := by unfold sq; omega
    have e2 : sq m (k + 1) = 0 := by unfold sq; omega
    have e3 : sm m (k + 1) = 2 * sm m k := by
      rw [sm_low (by omega), sm_low (by omega), Nat.pow_succ, ← Nat.mul_assoc, Nat.mul_comm]
    rw [e1, e2, e3]
    exact mul_two_sub hs.1 hs.2
  · have e1 : sq m (k + 1) = sq m k + 1 := by unfold sq; omega
    have e2 : sm m (k + 1) = sm m k := by rw [sm_top (by omega), sm_top (by omega)]
    rw [e1, e2]
    exact mul_two (sub_can h0 h1 (by omega)) (by rw [sm_top (by omega)]; exact up_ge h0 (by omega)) (by unfold sq; omega)

theorem sub_end {m k : Nat} (h0 : m ≠ 0) (h1 : m < 4503599627370496) (hk : k = 1022) : ∃ b, double.mul (wd (sq m k) (sm m k)) 4841369599423283200 = some b ∧ floatToIntVal .f64 b .u64 = some (m : Int) := by
  have hL := log2_sub h0 h1
  have e1 : sq m k = 970 + m.log2 := by unfold sq; omega
  rw [e1, sm_top (by omega)]
  have := scale_back h0 h1
  exact ⟨_, this.1, this.2⟩

theorem sub_start (m : Nat) : sq m 0 = 0 ∧ sm m 0 = m := by
  constructor
  · unfold sq; omega
  · unfold sm; simp

end Go.Proofs.YtblgipjipeaemaaGreatDoor
