/- The document's own Bits at numbers that are neither nought nor infinite, from the least exponent on: their bits. -/
import Derived.Test.YtmjcpcpcngpdjaaGreatDoorRefBits
namespace Go.Proofs.YtmjcpcpcngpdjaaGreatDoor
open Ieee
open Go.RowKit (intOf Hid)
set_option maxRecDepth 8000

theorem mul_over {m : Nat} (hm : 4503599627370496 ≤ m) (h2 : m < 9007199254740992) : double.mul (wd 2045 m) 4611686018427387904 = some 9218868437227405312 := by
  unfold Format.mul
  rw [two_wd, read_wd ⟨by omega, h2, .inr hm⟩, read_wd can_two]
  simp only [Datum.product, Option.map_some, Format.write]
  refine congrArg some ?_
  have e : (4503599627370496 : Nat) = 2 ^ 52 := by decide
  have hl : m.log2 = 52 := (Nat.log2_eq_iff (by omega)).2 ⟨by omega, by omega⟩
  have hl2 : (m * 4503599627370496).log2 = 104 := by rw [e, log2_shift m 52 (by omega), hl]
  unfold Format.nearest
  rw [if_neg (by omega)]
  simp only [dLeast, dFrac, dBin, dInf]
  rw [hl2]
  have hx : max (((2045 : Nat) : Int) - 1074 + (((1023 : Nat) : Int) - 1074) + ((104 : Nat) : Int) - ((52 : Nat) : Int)) (-1074) = 972 := by decide
  rw [hx]
  have e1 : (((2045 : Nat) : Int) - 1074 + (((1023 : Nat) : Int) - 1074) - 972).toNat = 0 := by decide
  have e2 : ((972 : Int) - (((2045 : Nat) : Int) - 1074 + (((1023 : Nat) : Int) - 1074))).toNat = 52 := by decide
  have e3 : ((972 : Int) - -1074).toNat = 2046 := by decide
  have c := cut_exact m 52 (by omega)
  rw [← e] at c
  rw [show (false ^^ false) = false from rfl, e1, e2, e3, Nat.shiftLeft_zero, c, Nat.min_eq_right (by omega)]
  rfl

theorem inf_order {q m : Nat} (h : Can q m) : double.order 9218868437227405312 (wd q m) = some .gt := by
  have hr : double.read 9218868437227405312 = .infinity false := by decide
  unfold Format.order
  rw [hr, read_wd h]
  rfl

/-- Twice a number that is neither nought nor infinite is another one. -/
theorem twice {q m : Nat} (h : Can q m) (hm : m ≠ 0) : ∃ z, double.mul (wd q m) 4611686018427387904 = some z ∧ double.order z (wd q m) = some .gt := by
  obtain ⟨h1, h2, h3⟩ := h
  by_cases c : 4503599627370496 ≤ m
  · by_cases c2 : q + 1 ≤ 2045
    · exact ⟨_, mul_two ⟨h1, h2, h3⟩ c c2, order_gt ⟨c2, h2, .inr c⟩ ⟨h1, h2, h3⟩ (by unfold wd; omega)⟩
    · obtain rfl : q = 2045 := by omega
      exact ⟨_, mul_over c h2, inf_order ⟨h1, h2, h3⟩⟩
  · obtain rfl : q = 0 := by omega
    exact ⟨_, mul_two_sub (by omega) hm, order_gt ⟨by omega, by omega, .inl rfl⟩ ⟨h1, h2, h3⟩ (by unfold wd; omega)⟩

theorem ge_two {q m : Nat} (h : Can q m) (hq : 1023 ≤ q) : (FloatKind.f64.format.order (wd q m) 4611686018427387904 == some .gt || FloatKind.f64.format.order (wd q m) 4611686018427387904 == some .eq) = true := by
  have e : FloatKind.f64.format.order (wd q m) 4611686018427387904 = some (compare (wd q m) 4611686018427387904) := by
    show double.order _ _ = _
    rw [two_wd]; exact order_wd h can_two
  rw [e]
  obtain ⟨h1, h2, h3⟩ := h
  have : 4611686018427387904 ≤ wd q m := by unfold wd; omega
  by_cases c : 4611686018427387904 < wd q m
  · rw [cmp_gt c]; rfl
  · have e2 : wd q m = 4611686018427387904 := by omega
    rw [e2]; decide

theorem lt_two {q m : Nat} (h : Can q m) (hq : q < 1023) : (FloatKind.f64.format.order (wd q m) 4611686018427387904 == some .gt || FloatKind.f64.format.order (wd q m) 4611686018427387904 == some .eq) = false := by
  have e : FloatKind.f64.format.order (wd q m) 4611686018427387904 = some .lt := by
    show double.order _ _ = _
    rw [two_wd]
    obtain ⟨h1, h2, h3⟩ := h
    exact order_lt ⟨h1, h2, h3⟩ can_two (by unfold wd; omega)
  rw [e]; rfl

theorem lt_one {q m : Nat} (h : Can q m) (hq : q < 1022) : (FloatKind.f64.format.order (wd q m) 4607182418800017408 == some .lt) = true := by
  have e : FloatKind.f64.format.order (wd q m) 4607182418800017408 = some .lt := by
    show double.order _ _ = _
    rw [one_wd]
    obtain ⟨h1, h2, h3⟩ := h
    exact order_lt ⟨h1, h2, h3⟩ can_one (by unfold wd; omega)
  rw [e]; rfl

theorem ge_one {m : Nat} (h : Can 1022 m) : (FloatKind.f64.format.order (wd 1022 m) 4607182418800017408 == some .lt) = false := by
  have e : FloatKind.f64.format.order (wd 1022 m) 4607182418800017408 = some (compare (wd 1022 m) 4607182418800017408) := by
    show double.order _ _ = _
    rw [one_wd]; exact order_wd h can_one
  rw [e]
  obtain ⟨h1, h2, h3⟩ := h
  have hge : 4607182418800017408 ≤ wd 1022 m := by unfold wd; omega
  by_cases c : 4607182418800017408 < wd 1022 m
  · rw [cmp_gt c]; rfl
  · have e2 : wd 1022 m = 4607182418800017408 := by omega
    rw [e2]; decide

/-- What stands behind the point of a number from 1 to 2: its fraction. -/
theorem frac_of {m : Nat} (h0 : 4503599627370496 ≤ m) (h1 : m < 9007199254740992) : ∃ a b, double.sub (wd 1022 m) 4607182418800017408 = some a ∧ double.mul a 4841369599423283200 = some b ∧ floatToIntVal .f64 b .u64 = some ((m - 4503599627370496 : Nat) : Int) := by
  by_cases c : m = 4503599627370496
  · subst c
    exact ⟨0, 0, sub_one_nought, mul_nought, int_nought⟩
  · have := scale_back (f := m - 4503599627370496) (by omega) (by omega)
    exact ⟨_, _, sub_one (by omega) h1, this.1, this.2⟩

theorem ret_u64 {a b : Int} (h : a = b) : Ending.returned (.int .u64 a) = .returned (.int .u64 b) := by rw [h]

theorem gt_nought {q m : Nat} (h : Can q m) (hm : m ≠ 0) : double.order (wd q m) 0 = some .gt := by
  have hl : wd 0 0 < wd q m := by
    have e : wd 0 0 = 0 := by decide
    rw [e]
    unfold wd
    omega
  have := order_gt h can_nought hl
  rw [← nought_wd] at this
  exact this

/-- The word in a slot: for a loop's measure. -/
def wordOf : Value → Nat
  | .float _ b => b
  | _ => 0

set_option maxHeartbeats 1000000 in
theorem refBits_pos (w : World) (q m : Nat) (h : Can q m) (hm : 4503599627370496 ≤ m) :
    Calls Tryz.prog 76 #[.float .f64 (wd q m)] w fun e w' => e = .returned (.int .u64 (wd q m)) ∧ w' = w := by
  obtain ⟨z, hz, hzo⟩ := twice h (by omega)
  have f1 : (FloatKind.f64.format.order (wd q m) (wd q m) != some .eq) = false := by
    show (double.order _ _ != _) = false
    rw [order_self h]; rfl
  have g0 := gt_nought h (by omega)
  have f2 : (FloatKind.f64.format.order (wd q m) 0 == some .lt) = false := by show (double.order _ _ == _) = false; rw [g0]; rfl
  have f3 : (FloatKind.f64.format.order (wd q m) 0 == some .eq) = false := by show (double.order _ _ == _) = false; rw [g0]; rfl
  have f4 : (FloatKind.f64.format.order z (wd q m) == some .eq) = false := by show (double.order _ _ == _) = false; rw [hzo]; rfl
  have hq := fun w => run_float_arith (P := Tryz.prog) w .mul 55 .f64 (wd q m) 4611686018427387904 z hz
  have HC : Hid (Can q m ∧ 4503599627370496 ≤ m) := ⟨h, hm⟩
  have hq1 : q ≤ 2045 := h.1
  clear g0 hz hzo h hm
  go_enter Tryz.func76, Tryz.ntmps76
  go_wp2
  clear f1 f2 f3 f4 hq
  go_loop [0, 4] (fun v e => ∃ r : Nat, r ≤ q ∧ (1022 ≤ r ∨ r = q) ∧ v = .float .f64 (wd r m) ∧ e = .int .i64 ((q : Int) - r)) (fun v _ => wordOf v)
  case atStart => exact ⟨q, Nat.le_refl _, .inr rfl, rfl, by rw [show (q : Int) - q = 0 by omega]⟩
  case round =>
    obtain ⟨r, hr1, hr2, rfl, rfl⟩ := hrel
    have hcr : Can r m := ⟨by omega, HC.out.1.2.1, .inr HC.out.2⟩
    by_cases hlt : 1023 ≤ r
    · have b1 := ge_two hcr hlt
      have hd := fun w => run_float_arith (P := Tryz.prog) w .quo 55 .f64 (wd r m) 4611686018427387904 (wd (r - 1) m) (div_two hcr HC.out.2 (by omega))
      clear hcr
      go_wp2
      go_round
      case rel => exact ⟨r - 1, by omega, .inl (by omega), rfl, by rw [show (q : Int) - r + 1 = (q : Int) - (r - 1 : Nat) by omega]⟩
      case measure => simp only [wordOf, wd]; omega
    · have b1 := lt_two hcr (by omega)
      clear hcr
      go_wp2
      clear b1
      go_loop [0, 4] (fun v e => ∃ r : Nat, r ≤ 1022 ∧ (q ≤ r ∨ r = 1022) ∧ v = .float .f64 (wd r m) ∧ e = .int .i64 ((q : Int) - r)) (fun _ e => (intOf e + 1022).toNat)
      case atStart => exact ⟨r, by omega, by omega, rfl, rfl⟩
      case round =>
        obtain ⟨s, hs1, hs2, rfl, rfl⟩ := hrel
        have hcs : Can s m := ⟨by omega, HC.out.1.2.1, .inr HC.out.2⟩
        by_cases hls : s < 1022
        · have b1 := lt_one hcs hls
          have hd := fun w => run_float_arith (P := Tryz.prog) w .mul 55 .f64 (wd s m) 4611686018427387904 (wd (s + 1) m) (mul_two hcs HC.out.2 (by omega))
          clear hcs
          go_wp2
          go_round
          case rel => exact ⟨s + 1, by omega, .inl (by omega), rfl, by rw [show (q : Int) - s - 1 = (q : Int) - (s + 1 : Nat) by omega]⟩
          case measure => simp [intOf]; omega
        · obtain rfl : s = 1022 := by omega
          have b1 := ge_one hcs
          obtain ⟨x, y, hx, hy, hi⟩ := frac_of HC.out.2 HC.out.1.2.1
          have hd1 := fun w => run_float_arith (P := Tryz.prog) w .sub 55 .f64 (wd 1022 m) 4607182418800017408 x hx
          have hd2 := fun w => run_float_arith (P := Tryz.prog) w .mul 55 .f64 x 4841369599423283200 y hy
          have hd3 := fun w => run_convert_float_int (P := Tryz.prog) w 55 125 .f64 .u64 y _ (by rw [Tryz.underlying55]; rfl) Tryz.underlying125 hi
          have HF : Hid ((wd q m : Nat) = (q + 1) * 4503599627370496 + (m - 4503599627370496)) := by have := HC.out.2; show _ = _; unfold wd; omega
          have hf : m - 4503599627370496 < 4503599627370496 := by have := HC.out.1.2.1; omega
          clear hx hy hi hcs
          generalize m - 4503599627370496 = f at *
          go_wp2
          go_ret
          exact ⟨ret_u64 (by rw [HF.out]; omega), rfl⟩
set_option maxHeartbeats 1000000 in
theorem refBits_neg (w : World) (q m : Nat) (h : Can q m) (hm : 4503599627370496 ≤ m) :
    Calls Tryz.prog 76 #[.float .f64 (9223372036854775808 + wd q m)] w fun e w' => e = .returned (.int .u64 (9223372036854775808 + wd q m : Nat)) ∧ w' = w := by
  obtain ⟨z, hz, hzo⟩ := twice h (by omega)
  have g0 := gt_nought h (by omega)
  obtain ⟨x, hx⟩ : ∃ x, x = 9223372036854775808 + wd q m := ⟨_, rfl⟩
  rw [← hx]
  have f1 : (FloatKind.f64.format.order x x != some .eq) = false := by
    show (double.order _ _ != _) = false
    rw [hx, order_neg_self h]; rfl
  have f2 : (FloatKind.f64.format.order x 0 == some .lt) = true := by
    show (double.order _ _ == _) = true
    rw [hx, order_neg h (by omega)]; rfl
  have hneg : ∀ w, (Op.unary .neg (.float .f64 x)).run Tryz.prog w = .ok (.float .f64 (wd q m)) w := fun w => by
    have e : Op.negFloat .f64 x = wd q m := by rw [hx]; exact neg_xor _ (by have := h.1; have := h.2.1; unfold wd; omega)
    simp [Op.unary, e]
  have HX : Hid (x = 9223372036854775808 + wd q m) := hx
  clear hx
  have f3 : (FloatKind.f64.format.order (wd q m) 0 == some .eq) = false := by show (double.order _ _ == _) = false; rw [g0]; rfl
  have f4 : (FloatKind.f64.format.order z (wd q m) == some .eq) = false := by show (double.order _ _ == _) = false; rw [hzo]; rfl
  have hq := fun w => run_float_arith (P := Tryz.prog) w .mul 55 .f64 (wd q m) 4611686018427387904 z hz
  have HC : Hid (Can q m ∧ 4503599627370496 ≤ m) := ⟨h, hm⟩
  have hq1 : q ≤ 2045 := h.1
  clear g0 hz hzo h hm
  go_enter Tryz.func76, Tryz.ntmps76
  go_wp2
  clear f1 f2 f3 f4 hq hneg
  go_loop [0, 4] (fun v e => ∃ r : Nat, r ≤ q ∧ (1022 ≤ r ∨ r = q) ∧ v = .float .f64 (wd r m) ∧ e = .int .i64 ((q : Int) - r)) (fun v _ => wordOf v)
  case atStart => exact ⟨q, Nat.le_refl _, .inr rfl, rfl, by rw [show (q : Int) - q = 0 by omega]⟩
  case round =>
    obtain ⟨r, hr1, hr2, rfl, rfl⟩ := hrel
    have hcr : Can r m := ⟨by omega, HC.out.1.2.1, .inr HC.out.2⟩
    by_cases hlt : 1023 ≤ r
    · have b1 := ge_two hcr hlt
      have hd := fun w => run_float_arith (P := Tryz.prog) w .quo 55 .f64 (wd r m) 4611686018427387904 (wd (r - 1) m) (div_two hcr HC.out.2 (by omega))
      clear hcr
      go_wp2
      go_round
      case rel => exact ⟨r - 1, by omega, .inl (by omega), rfl, by rw [show (q : Int) - r + 1 = (q : Int) - (r - 1 : Nat) by omega]⟩
      case measure => simp only [wordOf, wd]; omega
    · have b1 := lt_two hcr (by omega)
      clear hcr
      go_wp2
      clear b1
      go_loop [0, 4] (fun v e => ∃ r : Nat, r ≤ 1022 ∧ (q ≤ r ∨ r = 1022) ∧ v = .float .f64 (wd r m) ∧ e = .int .i64 ((q : Int) - r)) (fun _ e => (intOf e + 1022).toNat)
      case atStart => exact ⟨r, by omega, by omega, rfl, rfl⟩
      case round =>
        obtain ⟨s, hs1, hs2, rfl, rfl⟩ := hrel
        have hcs : Can s m := ⟨by omega, HC.out.1.2.1, .inr HC.out.2⟩
        by_cases hls : s < 1022
        · have b1 := lt_one hcs hls
          have hd := fun w => run_float_arith (P := Tryz.prog) w .mul 55 .f64 (wd s m) 4611686018427387904 (wd (s + 1) m) (mul_two hcs HC.out.2 (by omega))
          clear hcs
          go_wp2
          go_round
          case rel => exact ⟨s + 1, by omega, .inl (by omega), rfl, by rw [show (q : Int) - s - 1 = (q : Int) - (s + 1 : Nat) by omega]⟩
          case measure => simp [intOf]; omega
        · obtain rfl : s = 1022 := by omega
          have b1 := ge_one hcs
          obtain ⟨x, y, hx, hy, hi⟩ := frac_of HC.out.2 HC.out.1.2.1
          have hd1 := fun w => run_float_arith (P := Tryz.prog) w .sub 55 .f64 (wd 1022 m) 4607182418800017408 x hx
          have hd2 := fun w => run_float_arith (P := Tryz.prog) w .mul 55 .f64 x 4841369599423283200 y hy
          have hd3 := fun w => run_convert_float_int (P := Tryz.prog) w 55 125 .f64 .u64 y _ (by rw [Tryz.underlying55]; rfl) Tryz.underlying125 hi
          have HF : Hid ((wd q m : Nat) = (q + 1) * 4503599627370496 + (m - 4503599627370496)) := by have := HC.out.2; show _ = _; unfold wd; omega
          have hf : m - 4503599627370496 < 4503599627370496 := by have := HC.out.1.2.1; omega
          clear hx hy hi hcs
          generalize m - 4503599627370496 = f at *
          go_wp2
          go_ret
          exact ⟨ret_u64 (by rw [HX.out, HF.out]; omega), rfl⟩

/-- What a number below the least exponent is behind k doublings. -/
def sq (m k : Nat) : Nat := k - (52 - m.log2)
def sm (m k : Nat) : Nat := m * 2 ^ (min k (52 - m.log2))

theorem log2_sub {m : Nat} (h0 : m ≠ 0) (h1 : m < 4503599627370496) : m.log2 ≤ 51 := by have := (Nat.log2_lt h0 (k := 52)).2 (by omega); omega

theorem sm_top {m k : Nat} (hk : 52 - m.log2 ≤ k) : sm m k = m * 2 ^ (52 - m.log2) := by unfold sm; rw [Nat.min_eq_right hk]

theorem sm_low {m k : Nat} (hk : k ≤ 52 - m.log2) : sm m k = m * 2 ^ k := by unfold sm; rw [Nat.min_eq_left hk]

theorem sm_small {m k : Nat} (h0 : m ≠ 0) (h1 : m < 4503599627370496) (hk : k < 52 - m.log2) : sm m k < 4503599627370496 ∧ sm m k ≠ 0 := by
  have hL := log2_sub h0 h1
  rw [sm_low (by omega)]
  have a1 : m < 2 ^ (m.log2 + 1) := Nat.lt_log2_self
  have a2 : m * 2 ^ k < 2 ^ (m.log2 + 1) * 2 ^ k := Nat.mul_lt_mul_of_pos_right a1 (Nat.two_pow_pos _)
  rw [← Nat.pow_add] at a2
  have a3 : 2 ^ (m.log2 + 1 + k) ≤ 2 ^ 52 := Nat.pow_le_pow_right (by omega) (by omega)
  have a4 : (2 : Nat) ^ 52 = 4503599627370496 := by decide
  have a5 : m * 2 ^ k ≠ 0 := Nat.mul_ne_zero h0 (by have := Nat.two_pow_pos k; omega)
  exact ⟨by omega, a5⟩

theorem sub_can {m k : Nat} (h0 : m ≠ 0) (h1 : m < 4503599627370496) (hk : k ≤ 1022) : Can (sq m k) (sm m k) := by
  have hL := log2_sub h0 h1
  by_cases c : k < 52 - m.log2
  · have := sm_small h0 h1 c
    exact ⟨by unfold sq; omega, by omega, .inl (by unfold sq; omega)⟩
  · rw [sm_top (by omega)]
    exact ⟨by unfold sq; omega, up_lt (by omega), .inr (up_ge h0 (by omega))⟩

theorem sub_step {m k : Nat} (h0 : m ≠ 0) (h1 : m < 4503599627370496) (hk : k < 1022) : double.mul (wd (sq m k) (sm m k)) 4611686018427387904 = some (wd (sq m (k + 1)) (sm m (k + 1))) := by
  have hL := log2_sub h0 h1
  by_cases c : k < 52 - m.log2
  · have hs := sm_small h0 h1 c
    have e1 : sq m k = 0 := by unfold sq; omega
    have e2 : sq m (k + 1) = 0 := by unfold sq; omega
    have e3 : sm m (k + 1) = 2 * sm m k := by
      rw [sm_low (by omega), sm_low (by omega), Nat.pow_succ, ← Nat.mul_assoc, Nat.mul_comm]
    rw [e1, e2, e3]
    exact mul_two_sub hs.1 hs.2
  · have e1 : sq m (k + 1) = sq m k + 1 := by unfold sq; omega
    have e2 : sm m (k + 1) = sm m k := by rw [sm_top (by omega), sm_top (by omega)]
    rw [e1, e2]
    exact mul_two (sub_can h0 h1 (by omega)) (by rw [sm_top (by omega)]; exact up_ge h0 (by omega)) (by unfold sq; omega)

theorem sub_end {m k : Nat} (h0 : m ≠ 0) (h1 : m < 4503599627370496) (hk : k = 1022) : ∃ b, double.mul (wd (sq m k) (sm m k)) 4841369599423283200 = some b ∧ floatToIntVal .f64 b .u64 = some (m : Int) := by
  have hL := log2_sub h0 h1
  have e1 : sq m k = 970 + m.log2 := by unfold sq; omega
  rw [e1, sm_top (by omega)]
  have := scale_back h0 h1
  exact ⟨_, this.1, this.2⟩

theorem sub_start (m : Nat) : sq m 0 = 0 ∧ sm m 0 = m := by
  constructor
  · unfold sq; omega
  · unfold sm; simp

set_option maxRecDepth 100000 in
set_option maxHeartbeats 1000000 in
theorem refBits_subpos (w : World) (m : Nat) (h0 : m ≠ 0) (h1 : m < 4503599627370496) :
    Calls Tryz.prog 76 #[.float .f64 (wd 0 m)] w fun e w' => e = .returned (.int .u64 (wd 0 m : Nat)) ∧ w' = w := by
  have hcan : Can 0 m := ⟨by omega, by omega, .inl rfl⟩
  obtain ⟨z, hz, hzo⟩ := twice hcan h0
  have g0 := gt_nought hcan h0
  have f1 : (FloatKind.f64.format.order (wd 0 m) (wd 0 m) != some .eq) = false := by
    show (double.order _ _ != _) = false
    rw [order_self hcan]; rfl
  have f2 : (FloatKind.f64.format.order (wd 0 m) 0 == some .lt) = false := by show (double.order _ _ == _) = false; rw [g0]; rfl
  have f3 : (FloatKind.f64.format.order (wd 0 m) 0 == some .eq) = false := by show (double.order _ _ == _) = false; rw [g0]; rfl
  have f4 : (FloatKind.f64.format.order z (wd 0 m) == some .eq) = false := by show (double.order _ _ == _) = false; rw [hzo]; rfl
  have hq := fun w => run_float_arith (P := Tryz.prog) w .mul 55 .f64 (wd 0 m) 4611686018427387904 z hz
  have HM : Hid (m ≠ 0 ∧ m < 4503599627370496) := ⟨h0, h1⟩
  have b0 := lt_two hcan (by omega)
  clear g0 hz hzo h0 hcan
  go_enter Tryz.func76, Tryz.ntmps76
  go_wp2
  clear f1 f2 f3 f4 hq
  go_loop [0, 4] (fun v e => v = .float .f64 (wd 0 m) ∧ e = .int .i64 0) (fun v _ => wordOf v)
  case atStart => exact ⟨rfl, rfl⟩
  case round =>
    obtain ⟨rfl, rfl⟩ := hrel
    go_wp2
    clear b0
    go_loop [0, 4] (fun v e => ∃ k : Nat, k ≤ 1022 ∧ v = .float .f64 (wd (sq m k) (sm m k)) ∧ e = .int .i64 (-(k : Int))) (fun _ e => (intOf e + 1022).toNat)
    case atStart => exact ⟨0, by omega, by rw [(sub_start m).1, (sub_start m).2], by go_num⟩
    case round =>
      obtain ⟨k, hk, rfl, rfl⟩ := hrel
      have hL := log2_sub HM.out.1 HM.out.2
      have b1 := lt_one (sub_can HM.out.1 HM.out.2 hk) (by unfold sq; omega)
      clear hL
      by_cases hlt : k < 1022
      · have hd := fun w => run_float_arith (P := Tryz.prog) w .mul 55 .f64 (wd (sq m k) (sm m k)) 4611686018427387904 (wd (sq m (k + 1)) (sm m (k + 1))) (sub_step HM.out.1 HM.out.2 hlt)
        go_wp2
        go_round
        case rel => exact ⟨k + 1, by omega, rfl, by rw [show (-(k : Int)) - 1 = -((k + 1 : Nat) : Int) by omega]⟩
        case measure => simp [intOf]; omega
      · obtain ⟨y, hy, hi⟩ := sub_end (k := k) HM.out.1 HM.out.2 (by omega)
        have hd2 := fun w => run_float_arith (P := Tryz.prog) w .mul 55 .f64 (wd (sq m k) (sm m k)) 4841369599423283200 y hy
        have hd3 := fun w => run_convert_float_int (P := Tryz.prog) w 55 125 .f64 .u64 y _ (by rw [Tryz.underlying55]; rfl) Tryz.underlying125 hi
        clear hy hi
        go_wp2
        go_ret
        exact ⟨ret_u64 (by unfold wd; omega), rfl⟩

set_option maxRecDepth 100000 in
set_option maxHeartbeats 1000000 in
theorem refBits_subneg (w : World) (m : Nat) (h0 : m ≠ 0) (h1 : m < 4503599627370496) :
    Calls Tryz.prog 76 #[.float .f64 (9223372036854775808 + wd 0 m)] w fun e w' => e = .returned (.int .u64 (9223372036854775808 + wd 0 m : Nat)) ∧ w' = w := by
  have hcan : Can 0 m := ⟨by omega, by omega, .inl rfl⟩
  obtain ⟨z, hz, hzo⟩ := twice hcan h0
  have g0 := gt_nought hcan h0
  obtain ⟨x, hx⟩ : ∃ x, x = 9223372036854775808 + wd 0 m := ⟨_, rfl⟩
  rw [← hx]
  have f1 : (FloatKind.f64.format.order x x != some .eq) = false := by
    show (double.order _ _ != _) = false
    rw [hx, order_neg_self hcan]; rfl
  have f2 : (FloatKind.f64.format.order x 0 == some .lt) = true := by
    show (double.order _ _ == _) = true
    rw [hx, order_neg hcan h0]; rfl
  have hneg : ∀ w, (Op.unary .neg (.float .f64 x)).run Tryz.prog w = .ok (.float .f64 (wd 0 m)) w := fun w => by
    have e : Op.negFloat .f64 x = wd 0 m := by rw [hx]; exact neg_xor _ (by unfold wd; omega)
    simp [Op.unary, e]
  have HX : Hid (x = 9223372036854775808 + wd 0 m) := hx
  clear hx
  have f3 : (FloatKind.f64.format.order (wd 0 m) 0 == some .eq) = false := by show (double.order _ _ == _) = false; rw [g0]; rfl
  have f4 : (FloatKind.f64.format.order z (wd 0 m) == some .eq) = false := by show (double.order _ _ == _) = false; rw [hzo]; rfl
  have hq := fun w => run_float_arith (P := Tryz.prog) w .mul 55 .f64 (wd 0 m) 4611686018427387904 z hz
  have HM : Hid (m ≠ 0 ∧ m < 4503599627370496) := ⟨h0, h1⟩
  have b0 := lt_two hcan (by omega)
  clear g0 hz hzo h0 hcan
  go_enter Tryz.func76, Tryz.ntmps76
  go_wp2
  clear f1 f2 f3 f4 hq hneg
  go_loop [0, 4] (fun v e => v = .float .f64 (wd 0 m) ∧ e = .int .i64 0) (fun v _ => wordOf v)
  case atStart => exact ⟨rfl, rfl⟩
  case round =>
    obtain ⟨rfl, rfl⟩ := hrel
    go_wp2
    clear b0
    go_loop [0, 4] (fun v e => ∃ k : Nat, k ≤ 1022 ∧ v = .float .f64 (wd (sq m k) (sm m k)) ∧ e = .int .i64 (-(k : Int))) (fun _ e => (intOf e + 1022).toNat)
    case atStart => exact ⟨0, by omega, by rw [(sub_start m).1, (sub_start m).2], by go_num⟩
    case round =>
      obtain ⟨k, hk, rfl, rfl⟩ := hrel
      have hL := log2_sub HM.out.1 HM.out.2
      have b1 := lt_one (sub_can HM.out.1 HM.out.2 hk) (by unfold sq; omega)
      clear hL
      by_cases hlt : k < 1022
      · have hd := fun w => run_float_arith (P := Tryz.prog) w .mul 55 .f64 (wd (sq m k) (sm m k)) 4611686018427387904 (wd (sq m (k + 1)) (sm m (k + 1))) (sub_step HM.out.1 HM.out.2 hlt)
        go_wp2
        go_round
        case rel => exact ⟨k + 1, by omega, rfl, by rw [show (-(k : Int)) - 1 = -((k + 1 : Nat) : Int) by omega]⟩
        case measure => simp [intOf]; omega
      · obtain ⟨y, hy, hi⟩ := sub_end (k := k) HM.out.1 HM.out.2 (by omega)
        have hd2 := fun w => run_float_arith (P := Tryz.prog) w .mul 55 .f64 (wd (sq m k) (sm m k)) 4841369599423283200 y hy
        have hd3 := fun w => run_convert_float_int (P := Tryz.prog) w 55 125 .f64 .u64 y _ (by rw [Tryz.underlying55]; rfl) Tryz.underlying125 hi
        clear hy hi
        go_wp2
        go_ret
        exact ⟨ret_u64 (by rw [HX.out]; unfold wd; omega), rfl⟩

theorem refBits_negzero (w : World) : Calls Tryz.prog 76 #[.float .f64 9223372036854775808] w fun e w' => e = .returned (.int .u64 9223372036854775808) ∧ w' = w := by
  have f1 : (FloatKind.f64.format.order 9223372036854775808 9223372036854775808 != some .eq) = false := by decide
  have f2 : (FloatKind.f64.format.order 9223372036854775808 0 == some .lt) = false := by decide
  have f3 : (FloatKind.f64.format.order 9223372036854775808 0 == some .eq) = true := by decide
  have f4 : (FloatKind.f64.format.order 18442240474082181120 0 == some .lt) = true := by decide
  have f5 : (FloatKind.f64.format.order 0 0 == some .eq) = true := by decide
  have hq := fun w => run_float_arith (P := Tryz.prog) w .quo 55 .f64 4607182418800017408 9223372036854775808 18442240474082181120 (by decide)
  have hneg : ∀ w, (Op.unary .neg (.float .f64 9223372036854775808)).run Tryz.prog w = .ok (.float .f64 0) w := fun w => by
    have e : Op.negFloat .f64 9223372036854775808 = 0 := by decide
    simp [Op.unary, e]
  go_enter Tryz.func76, Tryz.ntmps76
  go_wp2
  go_ret
  exact ⟨rfl, rfl⟩

theorem refBits_neginf (w : World) : Calls Tryz.prog 76 #[.float .f64 18442240474082181120] w fun e w' => e = .returned (.int .u64 18442240474082181120) ∧ w' = w := by
  have f1 : (FloatKind.f64.format.order 18442240474082181120 18442240474082181120 != some .eq) = false := by decide
  have f2 : (FloatKind.f64.format.order 18442240474082181120 0 == some .lt) = true := by decide
  have f3 : (FloatKind.f64.format.order 9218868437227405312 0 == some .eq) = false := by decide
  have f4 : (FloatKind.f64.format.order 9218868437227405312 9218868437227405312 == some .eq) = true := by decide
  have hq := fun w => run_float_arith (P := Tryz.prog) w .mul 55 .f64 9218868437227405312 4611686018427387904 9218868437227405312 (by decide)
  have hneg : ∀ w, (Op.unary .neg (.float .f64 18442240474082181120)).run Tryz.prog w = .ok (.float .f64 9218868437227405312) w := fun w => by
    have e : Op.negFloat .f64 18442240474082181120 = 9218868437227405312 := by decide
    simp [Op.unary, e]
  go_enter Tryz.func76, Tryz.ntmps76
  go_wp2
  go_ret
  exact ⟨rfl, rfl⟩

/-- Bits of every float. -/
theorem refBits_any (w : World) (x : Nat) (hx : x < 18446744073709551616) : Calls Tryz.prog 76 #[.float .f64 x] w fun e w' => e = .returned (.int .u64 (bitsOf x : Nat)) ∧ w' = w := by
  unfold bitsOf
  by_cases c0 : 9218868437227405312 < x % 9223372036854775808
  · rw [if_pos c0]; exact refBits_nan w x c0
  rw [if_neg c0]
  by_cases c1 : x < 9223372036854775808
  · by_cases c2 : x = 9218868437227405312
    · subst c2; exact refBits_inf w
    by_cases c3 : x = 0
    · subst c3; exact refBits_zero w
    by_cases c4 : x < 4503599627370496
    · have e : x = wd 0 x := by unfold wd; omega
      rw [e]; exact refBits_subpos w x c3 c4
    · obtain ⟨q, m, hc, e⟩ := wd_of x (by omega)
      rw [e]; exact refBits_pos w q m hc (by obtain ⟨_, _, h3⟩ := hc; unfold wd at e; omega)
  · obtain ⟨y, hy⟩ : ∃ y, x = 9223372036854775808 + y := ⟨x - 9223372036854775808, by omega⟩
    by_cases c2 : y = 9218868437227405312
    · have e : x = 18442240474082181120 := by omega
      rw [e]; exact refBits_neginf w
    by_cases c3 : y = 0
    · have e : x = 9223372036854775808 := by omega
      rw [e]; exact refBits_negzero w
    by_cases c4 : y < 4503599627370496
    · have e : x = 9223372036854775808 + wd 0 y := by unfold wd; omega
      rw [e]; exact refBits_subneg w y c3 c4
    · obtain ⟨q, m, hc, e⟩ := wd_of y (by omega)
      have e2 : x = 9223372036854775808 + wd q m := by rw [hy, e]
      rw [e2]; exact refBits_neg w q m hc (by obtain ⟨_, _, h3⟩ := hc; unfold wd at e; omega)

end Go.Proofs.YtmjcpcpcngpdjaaGreatDoor
