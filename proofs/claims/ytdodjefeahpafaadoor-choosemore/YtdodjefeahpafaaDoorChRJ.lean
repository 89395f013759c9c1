/- Twice a factor and one more: a greater factor. Plain facts, for ChooseMore; no Go function is walked here. -/
import Derived.Test.YtdodjefeahpafaaDoorChQJ
namespace Go.Proofs.YtdodjefeahpafaaDoor
open Ieee
set_option maxRecDepth 8000

theorem can_B1 : Can 1022 4503599627370496 := can_one

/-- A number from 0 on and 1. -/
theorem add_one {q m : Nat} (h : Can q m) : double.add (wd q m) 4607182418800017408 = some (double.nearest false (m * 2 ^ q + 4503599627370496 * 2 ^ 1022) (-1074)) := by
  unfold Format.add
  rw [one_wd, read_wd h, read_wd can_one]
  simp only [Datum.sum]
  obtain ⟨b, hb⟩ : ∃ b : Int, b = min ((q : Int) - 1074) (((1022 : Nat) : Int) - 1074) := ⟨_, rfl⟩
  rw [← hb]
  have hp := Nat.mul_pos (show 0 < 4503599627370496 by omega) (Nat.two_pow_pos (((1022 : Nat) : Int) - 1074 - b).toNat)
  have e : Ieee.signed false m ((q : Int) - 1074 - b).toNat + Ieee.signed false 4503599627370496 (((1022 : Nat) : Int) - 1074 - b).toNat = ((m * 2 ^ ((q : Int) - 1074 - b).toNat + 4503599627370496 * 2 ^ (((1022 : Nat) : Int) - 1074 - b).toNat : Nat) : Int) := by
    simp only [Ieee.signed, Bool.false_eq_true, if_false, Nat.shiftLeft_eq]
    omega
  rw [e, if_neg (by omega), decide_eq_false (by omega), Int.natAbs_natCast]
  simp only [Option.map_some, Format.write]
  congr 1
  obtain ⟨T, hT⟩ : ∃ T, T = m * 2 ^ ((q : Int) - 1074 - b).toNat + 4503599627370496 * 2 ^ (((1022 : Nat) : Int) - 1074 - b).toNat := ⟨_, rfl⟩
  have hb0 : b + 1074 ≥ 0 := by omega
  have e2 : m * 2 ^ q + 4503599627370496 * 2 ^ 1022 = T * 2 ^ (b + 1074).toNat := by
    rw [hT, Nat.add_mul, Nat.mul_assoc, Nat.mul_assoc, ← Nat.pow_add, ← Nat.pow_add, show ((q : Int) - 1074 - b).toNat + (b + 1074).toNat = q by omega, show (((1022 : Nat) : Int) - 1074 - b).toNat + (b + 1074).toNat = 1022 by omega]
  have hT0 : T ≠ 0 := by omega
  have hT1 : T * 2 ^ (b + 1074).toNat ≠ 0 := Nat.mul_ne_zero hT0 (by have := Nat.two_pow_pos (b + 1074).toNat; omega)
  rw [← hT, e2, nearest_rg hT0, nearest_rg hT1, rg_scale T _ hT0]
  congr 2
  omega

/-- A number from 0 on, written, is itself. -/
theorem nearest_self {q m : Nat} (h : Can q m) : double.nearest false (m * 2 ^ q) (-1074) = wd q m := by
  by_cases hm : m = 0
  · subst hm
    obtain ⟨_, _, h3⟩ := h
    obtain rfl : q = 0 := by omega
    rfl
  · exact nearest_wd h hm (by omega)

theorem addle0 {a b : Nat} (c : Nat) (h : a ≤ b) : (a + c) * 2 ^ 0 ≤ (b + c) * 2 ^ 0 := by
  rw [Nat.pow_zero, Nat.mul_one, Nat.mul_one]
  omega
theorem addup0 (a c : Nat) : a * 2 ^ 0 ≤ (a + c) * 2 ^ 0 := by
  rw [Nat.pow_zero, Nat.mul_one, Nat.mul_one]
  omega

/-- Twice a number and one more. -/
theorem more_fin (x : Nat) (hx : x ≤ 9094988921128908188) : ∃ z y, double.mul 4611686018427387904 x = some z ∧ double.add z 4607182418800017408 = some y ∧ x ≤ y ∧ y < 9218868437227405312 := by
  obtain ⟨q, m, h, rfl⟩ := wd_of x (by omega)
  obtain ⟨kq, km, hk, ek⟩ := wd_of 9094988921128908188 (by omega)
  have hz := mul_fin can_two h
  have hzk := mul_fin can_two hk
  have hup := mul_up can_two h can_two hk (Nat.le_refl _) (by rw [← ek]; exact hx)
  have hkv : double.mul (wd 1023 4503599627370496) (wd kq km) = some 9099492520756278684 := by rw [← ek, ← two_wd]; decide +kernel
  rw [hkv] at hzk
  have hzk' := Option.some.inj hzk
  rw [← hzk'] at hup
  have hlow := mul_up can_one h can_two h (by rw [← one_wd, ← two_wd]; omega) (Nat.le_refl _)
  have e1 : double.nearest false (4503599627370496 * m) (-2148 + ((1022 + q : Nat) : Int)) = wd q m := by
    by_cases hm : m = 0
    · subst hm
      obtain ⟨_, _, h3⟩ := h
      obtain rfl : q = 0 := by omega
      rfl
    · have := nearest_wd (q := q) (m := m) (s := 52) (t := -2148 + ((1022 + q : Nat) : Int)) h hm (by omega)
      rw [show (2 : Nat) ^ 52 = 4503599627370496 by decide, Nat.mul_comm] at this
      exact this
  rw [e1] at hlow
  obtain ⟨Z, hZ⟩ : ∃ Z, Z = double.nearest false (4503599627370496 * m) (-2148 + ((1023 + q : Nat) : Int)) := ⟨_, rfl⟩
  rw [← hZ] at hz hup hlow
  obtain ⟨zq, zm, hc, ez⟩ := wd_of Z (by omega)
  obtain ⟨kq', km', hk', ek'⟩ := wd_of 9099492520756278684 (by omega)
  refine ⟨Z, _, by rw [two_wd]; exact hz, by rw [ez]; exact add_one hc, ?_, ?_⟩
  · have := nearest_le (m := zm * 2 ^ zq) (n := zm * 2 ^ zq + 4503599627370496 * 2 ^ 1022) (a := 0) (b := 0) (-1074) (addup0 _ _)
    have e2 : double.nearest false (zm * 2 ^ zq) (-1074 + ((0 : Nat) : Int)) = wd zq zm := nearest_self hc
    have e3 : double.nearest false (zm * 2 ^ zq + 4503599627370496 * 2 ^ 1022) (-1074 + ((0 : Nat) : Int)) = double.nearest false (zm * 2 ^ zq + 4503599627370496 * 2 ^ 1022) (-1074) := rfl
    rw [e2, e3, ← ez] at this
    exact Nat.le_trans hlow this
  · have hv := wd_val hc hk' (by rw [← ez, ← ek']; exact hup)
    have := nearest_le (m := zm * 2 ^ zq + 4503599627370496 * 2 ^ 1022) (n := km' * 2 ^ kq' + 4503599627370496 * 2 ^ 1022) (a := 0) (b := 0) (-1074) (addle0 _ hv)
    have e3 : double.nearest false (zm * 2 ^ zq + 4503599627370496 * 2 ^ 1022) (-1074 + ((0 : Nat) : Int)) = double.nearest false (zm * 2 ^ zq + 4503599627370496 * 2 ^ 1022) (-1074) := rfl
    have e4 : double.nearest false (km' * 2 ^ kq' + 4503599627370496 * 2 ^ 1022) (-1074 + ((0 : Nat) : Int)) = double.nearest false (km' * 2 ^ kq' + 4503599627370496 * 2 ^ 1022) (-1074) := rfl
    rw [e3, e4] at this
    have hak := add_one hk'
    have hav : double.add (wd kq' km') 4607182418800017408 = some 9099492520756278684 := by rw [← ek']; decide +kernel
    rw [hav] at hak
    have := Option.some.inj hak
    omega

theorem order_gt' (a b : Nat) (ha : a ≤ 9218868437227405312) (hb : b < 9218868437227405312) : (double.order a b == some .gt) = decide (b < a) := by
  have ri : double.read 9218868437227405312 = .infinity false := by decide
  obtain ⟨r, n, hd, rfl⟩ := wd_of b hb
  by_cases ca : a = 9218868437227405312
  · subst ca
    unfold Format.order
    rw [ri, read_wd hd, decide_eq_true hb]
    rfl
  · obtain ⟨q, m, hc, rfl⟩ := wd_of a (by omega)
    rw [order_wd hc hd]
    rcases Nat.lt_trichotomy (wd q m) (wd r n) with c | c | c
    · rw [cmp_lt c, decide_eq_false (by omega)]; rfl
    · rw [c, decide_eq_false (by omega)]; simp
    · rw [cmp_gt c, decide_eq_true (by omega)]; rfl

theorem mulTwo_any (x : Nat) (hx : x ≤ 9218868437227405312) : ∃ z, double.mul 4611686018427387904 x = some z ∧ z ≤ 9218868437227405312 := by
  by_cases c : x = 9218868437227405312
  · subst c
    exact ⟨9218868437227405312, by decide, by omega⟩
  · obtain ⟨q, m, h, rfl⟩ := wd_of x (by omega)
    exact ⟨_, by rw [two_wd]; exact mul_fin can_two h, nearest_top _ _⟩

theorem add_one' (z : Nat) (hz : z ≤ 9218868437227405312) : ∃ y, double.add z 4607182418800017408 = some y := by
  by_cases c : z = 9218868437227405312
  · subst c
    exact ⟨9218868437227405312, by decide⟩
  · obtain ⟨q, m, h, rfl⟩ := wd_of z (by omega)
    exact ⟨_, add_one h⟩

/-- Minus nought is no measure but for nothing. -/
theorem und_nought (s im im' : Nat) (hs : s ≤ 9223372036854775807) (hi : im ≤ 9223372036854775807) (hi' : im' ≤ 9223372036854775807) (hu : undB s im 9223372036854775808 = true) : undB s im' 4607182418800017408 = true := by
  obtain ⟨e1, l1⟩ := float_le im hi
  obtain ⟨e2, l2⟩ := float_le im' hi'
  obtain ⟨e3, l3⟩ := float_le s hs
  unfold undB at hu ⊢
  rw [e1, e3] at hu
  rw [e2, e3]
  obtain ⟨q1, m1, c1, w1⟩ := wd_of _ l1
  obtain ⟨q2, m2, c2, w2⟩ := wd_of _ l2
  obtain ⟨q3, m3, c3, w3⟩ := wd_of _ l3
  rw [w1, w3] at hu
  rw [w2, w3]
  have rn : double.read 9223372036854775808 = .number true 0 (-1074) := by decide
  have hm : double.mul 9223372036854775808 (wd q1 m1) = some 9223372036854775808 := by
    unfold Format.mul
    rw [rn, read_wd c1]
    simp only [Datum.product, Nat.zero_mul, Option.map_some, Format.write]
    rfl
  rw [hm] at hu
  simp only at hu
  have h3 : m3 = 0 := by
    apply Classical.byContradiction
    intro h3
    have : double.order (wd q3 m3) 9223372036854775808 = some .gt := by
      unfold Format.order
      rw [rn, read_wd c3]
      simp only [Datum.order]
      refine congrArg some ?_
      generalize ((q3 : Int) - 1074 - min ((q3 : Int) - 1074) (-1074)).toNat = a
      generalize (-1074 - min ((q3 : Int) - 1074) (-1074)).toNat = b
      have hp : 0 < m3 * 2 ^ a := Nat.mul_pos (by omega) (Nat.two_pow_pos a)
      have : Ieee.signed true 0 b < Ieee.signed false m3 a := by
        simp only [Ieee.signed, if_true, Bool.false_eq_true, if_false, Nat.shiftLeft_eq, Nat.zero_mul]
        omega
      simp only [compare, compareOfLessAndEq]
      rw [if_neg (by omega), if_neg (by omega)]
    rw [this] at hu
    cases hu
  subst h3
  have h0 : wd q3 0 = 0 := by
    obtain ⟨_, _, h⟩ := c3
    obtain rfl : q3 = 0 := by omega
    rfl
  rw [h0, one_wd, mul_fin can_one c2]
  simp only
  rw [order_le _ _ (by omega) (nearest_top _ _)]
  exact decide_eq_true (by omega)

/-- The greater factor that the statement takes. -/
theorem more_factor (x : Nat) (hx : x < 18446744073709551616) (h0 : (double.order x 0 == some .gt || double.order x 0 == some .eq) = true) :
    ∃ z y, double.mul 4611686018427387904 x = some z ∧ double.add z 4607182418800017408 = some y ∧ ∀ s im im' : Nat, s ≤ 9223372036854775807 → im' ≤ 9223372036854775807 → im ≤ im' → undB s im x = true → undB s im' (if (double.order x 9094988921128908188 == some .gt) = true then x else y) = true := by
  by_cases c : x ≤ 9218868437227405312
  · rw [order_gt' x _ c (by omega)]
    by_cases hk : 9094988921128908188 < x
    · obtain ⟨z, hz, hz'⟩ := mulTwo_any x c
      obtain ⟨y, hy⟩ := add_one' z hz'
      refine ⟨z, y, hz, hy, fun s im im' a b d hu => ?_⟩
      rw [if_pos (decide_eq_true hk)]
      exact und_up s im im' x x a b d (Nat.le_refl _) c (fun _ => rfl) hu
    · obtain ⟨z, y, hz, hy, h1, h2⟩ := more_fin x (by omega)
      refine ⟨z, y, hz, hy, fun s im im' a b d hu => ?_⟩
      rw [if_neg (by rw [decide_eq_false hk]; decide)]
      exact und_up s im im' x y a b d h1 (by omega) (fun e => by omega) hu
  · by_cases cn : x = 9223372036854775808
    · subst cn
      refine ⟨9223372036854775808, 4607182418800017408, by decide, by decide, fun s im im' a b d hu => ?_⟩
      rw [if_neg (by decide)]
      exact und_nought s im im' a (by omega) b hu
    · exfalso
      have hr0 : double.read 0 = .number false 0 (-1074) := by decide
      by_cases hn : 9218868437227405312 < x % 9223372036854775808
      · have : ∃ a f, double.read x = .nan a f := by
          unfold Format.read
          simp only [dSign, dBin, dInf]
          rw [if_neg (by omega), if_neg (by omega), if_neg (by omega)]
          exact ⟨_, _, rfl⟩
        obtain ⟨a, f, e⟩ := this
        have : double.order x 0 = none := by
          unfold Format.order
          rw [e]
          rfl
        rw [this] at h0
        cases h0
      · obtain ⟨t, rfl⟩ : ∃ t, x = 9223372036854775808 + t := ⟨x - 9223372036854775808, by omega⟩
        have ht : t ≤ 9218868437227405312 := by omega
        have : double.order (9223372036854775808 + t) 0 = some .lt := by
          by_cases ci : t = 9218868437227405312
          · subst ci; decide
          · obtain ⟨q, m, hc, rfl⟩ := wd_of t (by omega)
            refine order_neg hc ?_
            rintro rfl
            obtain ⟨_, _, h⟩ := hc
            obtain rfl : q = 0 := by omega
            exact cn rfl
        rw [this] at h0
        cases h0
end Go.Proofs.YtdodjefeahpafaaDoor
