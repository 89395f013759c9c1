/- lagoonref01.From: the float of its bits. -/
import Derived.Test.YtblgipjipeaemaaGreatDoorFrmAJ
namespace Go.Proofs.YtblgipjipeaemaaGreatDoor
open Go.RowKit Ieee
set_option maxRecDepth 8000

theorem floatOfInt_is (n : Int) : floatOfInt .f64 n = FloatKind.f64.nearest n := rfl

/-- What is made of the fraction. -/
theorem from_prep {f : Nat} (h1 : f < 4503599627370496) : ∃ (A B : Nat) (H : Nat → Nat), floatOfInt .f64 (f : Int) = A ∧ double.div A 4841369599423283200 = some B ∧ double.add B 4607182418800017408 = some (wd 1022 (4503599627370496 + f)) ∧ H 1022 = B ∧ H 0 = f ∧ ∀ k, k < 1022 → double.div (H (k + 1)) 4611686018427387904 = some (H k) := by
  by_cases h0 : f = 0
  · subst h0
    exact ⟨0, 0, fun _ => 0, float_nought, div_nought, nought_one, rfl, rfl, fun _ _ => half_nought⟩
  · have hL := log2_sub h0 h1
    refine ⟨_, _, fun k => wd (sq f k) (sm f k), float_of h0 h1, div_big _ _ hL (up_lt (by omega)) (up_ge h0 (by omega)), add_one h0 h1, ?_, ?_, fun k hk => sub_back h0 h1 hk⟩
    · show wd (sq f 1022) (sm f 1022) = _
      rw [show sq f 1022 = 970 + f.log2 by unfold sq; omega, sm_top (by omega)]
    · show wd (sq f 0) (sm f 0) = f
      rw [(sub_start f).1, (sub_start f).2]
      simp [wd]

set_option maxRecDepth 100000 in
set_option maxHeartbeats 2000000 in
theorem refFrom_sub (w : World) (s f : Nat) (hs : s ≤ 1) (hf : f < 4503599627370496) (N : Nat) (hN : N = s * 9223372036854775808 + f) :
    Calls Tryz.prog 84 #[.int .u64 (N : Int)] w fun r w' => r = .returned (.tuple #[.float .f64 N, .bool true]) ∧ w' = w := by
  have d1 : (N : Int) / 9223372036854775808 = s := by omega
  have d2 : (N : Int) / 4503599627370496 % 2048 = 0 := by omega
  have d4 : (N : Int) % 4503599627370496 = f := by omega
  obtain ⟨A, B, H, p1, p2, p3, p4, p5, p6⟩ := from_prep hf
  have hq := fun w => run_float_arith (P := Tryz.prog) w .quo 44 .f64 A 4841369599423283200 B p2
  have HN : Hid (N = s * 9223372036854775808 + f ∧ f < 4503599627370496 ∧ H 1022 = B ∧ H 0 = f) := ⟨hN, hf, p4, p5⟩
  have HS : Hid (∀ k, k < 1022 → double.div (H (k + 1)) 4611686018427387904 = some (H k)) := p6
  clear hN hf p2 p3 p4 p5 p6
  go_enter Tryz.func84, Tryz.ntmps84
  go_wp2
  clear hq p1
  go_loop [5, 8] (fun e v => ∃ k : Nat, k ≤ 1022 ∧ e = .int .i64 (k : Int) ∧ v = .float .f64 (H (1022 - k))) (fun e _ => 1022 - (intOf e).toNat)
  case atStart => exact ⟨0, by omega, rfl, by rw [← HN.out.2.2.1]⟩
  case round =>
    obtain ⟨k, hk, rfl, rfl⟩ := hrel
    by_cases hlt : k < 1022
    · have c1 : decide ((k : Int) < 1022) = true := by simp; omega
      obtain ⟨j, hj⟩ : ∃ j, j + 1 = 1022 - k := ⟨1021 - k, by omega⟩
      have hd := fun w => run_float_arith (P := Tryz.prog) w .quo 44 .f64 (H (j + 1)) 4611686018427387904 (H j) (HS.out j (by omega))
      have hj2 : 1022 - (k + 1) = j := by omega
      rw [← hj]
      clear hj
      go_wp2
      go_round
      case rel => exact ⟨k + 1, by omega, by go_num, by rw [hj2]⟩
      case measure => simp [intOf]; omega
    · obtain rfl : k = 1022 := by omega
      rw [show 1022 - 1022 = 0 from rfl, HN.out.2.2.2]
      go_wp2
      go_loop [5, 8] (fun e v => e = .int .i64 1022 ∧ v = .float .f64 f) (fun _ _ => 0)
      case atStart => exact ⟨rfl, rfl⟩
      case round =>
        obtain ⟨rfl, rfl⟩ := hrel
        by_cases hs1 : s = 1
        · subst hs1
          have hn : Op.negFloat .f64 f = N := by rw [neg_up f (by have := HN.out.2.1; omega), HN.out.1]
          have hneg : ∀ w, (Op.unary .neg (.float .f64 f)).run Tryz.prog w = .ok (.float .f64 N) w := fun w => by simp [Op.unary, hn]
          clear hn
          go_wp2
          go_ret2
          exact ⟨rfl, rfl⟩
        · obtain rfl : s = 0 := by omega
          have hn : Hid (N = f) := by show N = f; rw [HN.out.1]; omega
          go_wp2
          go_ret2
          exact ⟨by rw [hn.out]; rfl, rfl⟩

set_option maxRecDepth 100000 in
set_option maxHeartbeats 2000000 in
theorem refFrom_nor (w : World) (s e f : Nat) (hs : s ≤ 1) (he : e ≤ 2045) (hf : f < 4503599627370496) (N : Nat) (hN : N = s * 9223372036854775808 + (e + 1) * 4503599627370496 + f) :
    Calls Tryz.prog 84 #[.int .u64 (N : Int)] w fun r w' => r = .returned (.tuple #[.float .f64 N, .bool true]) ∧ w' = w := by
  have d1 : (N : Int) / 9223372036854775808 = s := by omega
  have d2 : (N : Int) / 4503599627370496 % 2048 = (e : Int) + 1 := by omega
  have d4 : (N : Int) % 4503599627370496 = f := by omega
  have d5 : ((e : Int) + 1 == 2047) = false := by rw [beq_eq_false_iff_ne]; omega
  have d6 : decide ((0 : Int) < (e : Int) + 1) = true := by rw [decide_eq_true_iff]; omega
  obtain ⟨A, B, H, p1, p2, p3, _⟩ := from_prep hf
  have hq := fun w => run_float_arith (P := Tryz.prog) w .quo 44 .f64 A 4841369599423283200 B p2
  have hq2 := fun w => run_float_arith (P := Tryz.prog) w .add 44 .f64 B 4607182418800017408 _ p3
  obtain ⟨m, hm⟩ : ∃ m, m = 4503599627370496 + f := ⟨_, rfl⟩
  rw [← hm] at hq2
  have HN : Hid (N = s * 9223372036854775808 + wd e m ∧ wd e m < 9223372036854775808 ∧ 4503599627370496 ≤ m ∧ m < 9007199254740992) := ⟨by rw [hN]; unfold wd; omega, by unfold wd; omega, by omega, by omega⟩
  clear hN hf p2 p3 hm
  go_enter Tryz.func84, Tryz.ntmps84
  go_wp2
  clear hq hq2 p1 d5 d6
  go_loop [5, 8] (fun e' v => ∃ k : Nat, (k = 0 ∨ e + k ≤ 1022) ∧ e' = .int .i64 ((e + k : Nat) : Int) ∧ v = .float .f64 (wd (1022 - k) m)) (fun e' _ => 1022 - (intOf e').toNat)
  case atStart => exact ⟨0, .inl rfl, by go_num, rfl⟩
  case round =>
    obtain ⟨k, hk, rfl, rfl⟩ := hrel
    by_cases hlt : e + k < 1022
    · have c1 : decide (((e + k : Nat) : Int) < 1022) = true := by simp; omega
      have c2 : decide ((e : Int) + (k : Int) < 1022) = true := by simp; omega
      have hd := fun w => run_float_arith (P := Tryz.prog) w .quo 44 .f64 (wd (1022 - k) m) 4611686018427387904 (wd (1022 - k - 1) m) (div_two ⟨by omega, HN.out.2.2.2, .inr HN.out.2.2.1⟩ HN.out.2.2.1 (by omega))
      go_wp2
      go_round
      case rel => exact ⟨k + 1, .inr (by omega), by go_num, by rw [show 1022 - (k + 1) = 1022 - k - 1 by omega]⟩
      case measure => simp [intOf]; omega
    · have c1 : decide (((e + k : Nat) : Int) < 1022) = false := by simp; omega
      have c2 : decide ((e : Int) + (k : Int) < 1022) = false := by simp; omega
      obtain ⟨j, hj1, hj2⟩ : ∃ j, e + k = 1022 + j ∧ 1022 - k = e - j := ⟨e + k - 1022, by omega, by omega⟩
      have hje : j ≤ e := by omega
      rw [hj2]
      go_wp2
      clear c1 c2
      go_loop [5, 8] (fun e' v => ∃ j : Nat, j ≤ e ∧ e' = .int .i64 ((1022 + j : Nat) : Int) ∧ v = .float .f64 (wd (e - j) m)) (fun e' _ => (intOf e').toNat - 1022)
      case atStart => exact ⟨j, hje, by rw [← hj1]; go_num, rfl⟩
      case round =>
        clear hk hlt hj1 hj2 hje
        obtain ⟨j, hj, rfl, rfl⟩ := hrel
        by_cases hj0 : 0 < j
        · have c1 : decide ((1022 : Int) < ((1022 + j : Nat) : Int)) = true := by simp; omega
          have c2 : decide ((1022 : Int) < 1022 + (j : Int)) = true := by simp; omega
          have hd := fun w => run_float_arith (P := Tryz.prog) w .mul 44 .f64 (wd (e - j) m) 4611686018427387904 (wd (e - j + 1) m) (mul_two ⟨by omega, HN.out.2.2.2, .inr HN.out.2.2.1⟩ HN.out.2.2.1 (by omega))
          go_wp2
          go_round
          case rel => exact ⟨j - 1, by omega, by go_num, by rw [show e - (j - 1) = e - j + 1 by omega]⟩
          case measure => simp [intOf]; omega
        · obtain rfl : j = 0 := by omega
          rw [Nat.sub_zero]
          by_cases hs1 : s = 1
          · subst hs1
            have hn : Op.negFloat .f64 (wd e m) = N := by rw [neg_up _ HN.out.2.1, HN.out.1]
            have hneg : ∀ w, (Op.unary .neg (.float .f64 (wd e m))).run Tryz.prog w = .ok (.float .f64 N) w := fun w => by simp [Op.unary, hn]
            clear hn
            go_wp2
            go_ret2
            exact ⟨rfl, rfl⟩
          · obtain rfl : s = 0 := by omega
            have hn : Hid (N = wd e m) := by show N = wd e m; rw [HN.out.1]; omega
            go_wp2
            go_ret2
            exact ⟨by rw [hn.out]; rfl, rfl⟩

theorem from_inf (w : World) : (binOp .quo 44 (.float .f64 4607182418800017408) (.float .f64 0)).run Tryz.prog w = .ok (.float .f64 9218868437227405312) w := run_float_arith (P := Tryz.prog) w .quo 44 .f64 _ _ _ (by decide)
theorem from_ninf (w : World) : (binOp .quo 44 (.float .f64 13830554455654793216) (.float .f64 0)).run Tryz.prog w = .ok (.float .f64 18442240474082181120) w := run_float_arith (P := Tryz.prog) w .quo 44 .f64 _ _ _ (by decide)

set_option maxRecDepth 100000 in
set_option maxHeartbeats 2000000 in
theorem refFrom_inf (w : World) : Calls Tryz.prog 84 #[.int .u64 9218868437227405312] w fun r w' => r = .returned (.tuple #[.float .f64 9218868437227405312, .bool true]) ∧ w' = w := by
  have hq := fun w => from_inf w
  have f1 : floatOfInt .f64 0 = 0 := float_nought
  have f2 : (FloatKind.f64.format.order 0 0 == some .eq) = true := by decide
  have f3 : (FloatKind.f64.format.order 0 0 != some .eq) = false := by decide
  go_enter Tryz.func84, Tryz.ntmps84
  go_wp2
  go_ret2
  exact ⟨rfl, rfl⟩

set_option maxRecDepth 100000 in
set_option maxHeartbeats 2000000 in
theorem refFrom_ninf (w : World) : Calls Tryz.prog 84 #[.int .u64 18442240474082181120] w fun r w' => r = .returned (.tuple #[.float .f64 18442240474082181120, .bool true]) ∧ w' = w := by
  have hq := fun w => from_ninf w
  have f1 : floatOfInt .f64 0 = 0 := float_nought
  have f2 : (FloatKind.f64.format.order 0 0 == some .eq) = true := by decide
  have f3 : (FloatKind.f64.format.order 0 0 != some .eq) = false := by decide
  go_enter Tryz.func84, Tryz.ntmps84
  go_wp2
  go_ret2
  exact ⟨rfl, rfl⟩

theorem nan_word (t : Nat) : 9218868437227405312 < ((t % 2) * 2 ^ 63 + 0x7ff0000000000000 + 1 + (t / 2) % (2 ^ 52 - 1)) % 9223372036854775808 := by
  have h : t % 2 = 0 ∨ t % 2 = 1 := by omega
  have hb : (t / 2) % (2 ^ 52 - 1) < 4503599627370495 := Nat.mod_lt _ (by decide)
  generalize (t / 2) % (2 ^ 52 - 1) = b at *
  rcases h with h | h <;> rw [h] <;> omega

theorem from_nan (w : World) : ∃ x, 9218868437227405312 < x % 9223372036854775808 ∧ x < 18446744073709551616 ∧ (binOp .quo 44 (.float .f64 0) (.float .f64 0)).run Tryz.prog w = .ok (.float .f64 x) w.drew := by
  have e : FloatKind.f64.format.div 0 0 = none := by decide
  refine ⟨Question.cut (.nanBits .f64 0 0) (w.tape w.drawn (.nanBits .f64 0 0)), ?_, ?_, ?_⟩
  · exact nan_word _
  · show ((_ % 2) * 2 ^ 63 + 0x7ff0000000000000 + 1 + (_ / 2) % (2 ^ 52 - 1)) < 18446744073709551616
    omega
  · simp [binOp, Op.floatArith, e, Question.forced]

set_option maxRecDepth 100000 in
set_option maxHeartbeats 2000000 in
theorem refFrom_nan (w : World) (s f : Nat) (hs : s ≤ 1) (h0 : f ≠ 0) (hf : f < 4503599627370496) (N : Nat) (hN : N = s * 9223372036854775808 + 9218868437227405312 + f) :
    Calls Tryz.prog 84 #[.int .u64 (N : Int)] w fun r w' => ∃ x, 9218868437227405312 < x % 9223372036854775808 ∧ x < 18446744073709551616 ∧ r = .returned (.tuple #[.float .f64 x, .bool (decide (N = 9221120237041090560))]) ∧ w' = w.drew := by
  have d1 : (N : Int) / 9223372036854775808 = s := by omega
  have d2 : (N : Int) / 4503599627370496 % 2048 = 2047 := by omega
  have d4 : (N : Int) % 4503599627370496 = f := by omega
  have hL := log2_sub h0 hf
  have p1 : floatOfInt .f64 (f : Int) = wd (1022 + f.log2) (f * 2 ^ (52 - f.log2)) := float_of h0 hf
  have hc : Can (1022 + f.log2) (f * 2 ^ (52 - f.log2)) := ⟨by omega, up_lt (by omega), .inr (up_ge h0 (by omega))⟩
  have g0 := gt_nought hc (by have := up_ge h0 (f := f) (by omega); omega)
  obtain ⟨A, hA⟩ : ∃ A, A = wd (1022 + f.log2) (f * 2 ^ (52 - f.log2)) := ⟨_, rfl⟩
  rw [← hA] at p1 g0
  have f2 : (FloatKind.f64.format.order A 0 == some .eq) = false := by show (double.order _ _ == _) = false; rw [g0]; rfl
  have f3 : (FloatKind.f64.format.order A 0 != some .eq) = true := by show (double.order _ _ != _) = true; rw [g0]; rfl
  have HN : Hid (N = s * 9223372036854775808 + 9218868437227405312 + f) := hN
  obtain ⟨x, hx1, hx2, hx3⟩ := from_nan w
  have HX : Hid (9218868437227405312 < x % 9223372036854775808 ∧ x < 18446744073709551616) := ⟨hx1, hx2⟩
  have hb : ((N : Int) == 9221120237041090560) = decide (N = 9221120237041090560) := by
    rw [Bool.eq_iff_iff]
    simp
    omega
  clear hN hf h0 hL hc g0 hA hx1 hx2
  go_enter Tryz.func84, Tryz.ntmps84
  go_wp2
  go_ret2
  exact ⟨x, HX.out.1, HX.out.2, by rw [← hb]; rfl, rfl⟩

/-- The float of its bits, and whether the bits are the one form; no bits but NaN's are turned. -/
theorem refFrom_any (w : World) (N : Nat) (h : N < 18446744073709551616) :
    Calls Tryz.prog 84 #[.int .u64 (N : Int)] w fun r w' => ∃ x, x < 18446744073709551616 ∧ r = .returned (.tuple #[.float .f64 x, .bool (decide (¬ (9218868437227405312 < N % 9223372036854775808 ∧ N ≠ 9221120237041090560)))]) ∧ (¬ 9218868437227405312 < N % 9223372036854775808 → x = N) ∧ (9218868437227405312 < N % 9223372036854775808 → 9218868437227405312 < x % 9223372036854775808) ∧ ∃ n, w' = w.drewN n := by
  obtain ⟨s, y, hs, hy, rfl⟩ : ∃ s y, s ≤ 1 ∧ y < 9223372036854775808 ∧ N = s * 9223372036854775808 + y := ⟨N / 9223372036854775808, N % 9223372036854775808, by omega, by omega, by omega⟩
  have hm : (s * 9223372036854775808 + y) % 9223372036854775808 = y := by omega
  have hd : s * 9223372036854775808 + y = 9221120237041090560 ↔ (s = 0 ∧ y = 9221120237041090560) := by omega
  obtain ⟨e, f, he, hf, rfl⟩ : ∃ e f, e ≤ 2047 ∧ f < 4503599627370496 ∧ y = e * 4503599627370496 + f := ⟨y / 4503599627370496, y % 4503599627370496, by omega, by omega, by omega⟩
  rw [hm]
  have fin : ∀ w', w' = w → ∃ n, w' = w.drewN n := fun w' e => ⟨0, by rw [e]; rfl⟩
  by_cases h47 : e = 2047
  · subst h47
    by_cases h0 : f = 0
    · subst h0
      obtain rfl | rfl : s = 0 ∨ s = 1 := by omega
      · refine (refFrom_inf w).mono ?_
        rintro r w' ⟨rfl, hw⟩
        exact ⟨_, by omega, rfl, fun _ => rfl, fun h => by omega, fin _ hw⟩
      · refine (refFrom_ninf w).mono ?_
        rintro r w' ⟨rfl, hw⟩
        exact ⟨_, by omega, rfl, fun _ => rfl, fun h => by omega, fin _ hw⟩
    · refine (refFrom_nan w s f hs h0 hf _ (by omega)).mono ?_
      rintro r w' ⟨x, x1, x2, rfl, hw⟩
      refine ⟨x, x2, ?_, fun h => by omega, fun _ => x1, 1, hw⟩
      rw [show decide (¬ (9218868437227405312 < 2047 * 4503599627370496 + f ∧ s * 9223372036854775808 + (2047 * 4503599627370496 + f) ≠ 9221120237041090560)) = decide (s * 9223372036854775808 + (2047 * 4503599627370496 + f) = 9221120237041090560) by rw [decide_eq_decide]; omega]
  · have hdec : decide (¬ (9218868437227405312 < e * 4503599627370496 + f ∧ s * 9223372036854775808 + (e * 4503599627370496 + f) ≠ 9221120237041090560)) = true := by
      rw [decide_eq_true_iff]
      omega
    rw [hdec]
    have hno : ¬ 9218868437227405312 < e * 4503599627370496 + f := by omega
    by_cases he0 : e = 0
    · subst he0
      refine (refFrom_sub w s f hs hf _ (by omega)).mono ?_
      rintro r w' ⟨rfl, hw⟩
      exact ⟨_, h, rfl, fun _ => rfl, fun h => absurd h hno, fin _ hw⟩
    · refine (refFrom_nor w s (e - 1) f hs (by omega) hf _ (by rw [show e - 1 + 1 = e by omega]; omega)).mono ?_
      rintro r w' ⟨rfl, hw⟩
      exact ⟨_, h, rfl, fun _ => rfl, fun h => absurd h hno, fin _ hw⟩
end Go.Proofs.YtblgipjipeaemaaGreatDoor
