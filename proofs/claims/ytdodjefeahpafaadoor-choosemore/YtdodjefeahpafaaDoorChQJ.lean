/- Plain facts on IEEE 754 doubles: rounding keeps the order; so do products and sums of numbers from 0 on. No Go function is walked here. -/
import Derived.Test.YtdodjefeahpafaaDoorChGJ
namespace Go.Proofs.YtdodjefeahpafaaDoor
open Ieee
set_option maxRecDepth 8000

/-- n / 2^d to the nearest whole number; between two, the even one. -/
def rnd (n d : Nat) : Nat := n / 2 ^ d + (if 2 ^ d < 2 * (n % 2 ^ d) ∨ (2 ^ d = 2 * (n % 2 ^ d) ∧ n / 2 ^ d % 2 = 1) then 1 else 0)

theorem cut_rnd (n d : Nat) : Toward.even.cut false n d = rnd n d := by
  unfold Toward.cut rnd
  simp only [Nat.one_shiftLeft]
  by_cases h : d ≤ n.log2 + 2
  · rw [Nat.min_eq_left h]
    congr 1
    by_cases c : 2 ^ d < 2 * (n % 2 ^ d) ∨ (2 ^ d = 2 * (n % 2 ^ d) ∧ n / 2 ^ d % 2 = 1)
    · rw [if_pos c]
      have : (decide (2 ^ d < 2 * (n % 2 ^ d)) || 2 ^ d == 2 * (n % 2 ^ d) && n / 2 ^ d % 2 == 1) = true := by simpa using c
      rw [this]; rfl
    · rw [if_neg c]
      have : (decide (2 ^ d < 2 * (n % 2 ^ d)) || 2 ^ d == 2 * (n % 2 ^ d) && n / 2 ^ d % 2 == 1) = false := by
        rw [Bool.eq_false_iff]
        intro e
        exact c (by simpa using e)
      rw [this]; rfl
  · rw [Nat.min_eq_right (by omega)]
    have hn : n < 2 ^ (n.log2 + 1) := Nat.lt_log2_self
    have e1 : 2 ^ (n.log2 + 2) = 2 * 2 ^ (n.log2 + 1) := by rw [Nat.pow_succ 2 (n.log2 + 1)]; omega
    have e2 : 2 ^ (n.log2 + 2) ≤ 2 ^ d := Nat.pow_le_pow_right (by omega) (by omega)
    generalize 2 ^ (n.log2 + 1) = A at *
    generalize 2 ^ (n.log2 + 2) = Bq at *
    generalize 2 ^ d = D at *
    rw [show n / Bq = 0 from Nat.div_eq_of_lt (by omega), show n % Bq = n from Nat.mod_eq_of_lt (by omega), show n / D = 0 from Nat.div_eq_of_lt (by omega), show n % D = n from Nat.mod_eq_of_lt (by omega), if_neg (by omega)]
    have : (decide (Bq < 2 * n) || Bq == 2 * n && 0 % 2 == 1) = false := by
      simp
      omega
    rw [this]; rfl

theorem rnd_mono {n m d : Nat} (h : n ≤ m) : rnd n d ≤ rnd m d := by
  unfold rnd
  have hd : 0 < 2 ^ d := Nat.two_pow_pos d
  generalize 2 ^ d = D at *
  have h1 := Nat.div_add_mod n D
  have h2 := Nat.div_add_mod m D
  have h3 : n / D ≤ m / D := Nat.div_le_div_right h
  have l1 := Nat.mod_lt n hd
  have l2 := Nat.mod_lt m hd
  rcases Nat.lt_or_ge (n / D) (m / D) with hlt | hge
  · split <;> split <;> omega
  · have e : n / D = m / D := by omega
    rw [e] at h1 ⊢
    generalize D * (m / D) = P at *
    generalize m / D = q at *
    split <;> split <;> omega

theorem rnd_zero (n : Nat) : rnd n 0 = n := by
  unfold rnd
  rw [Nat.pow_zero, Nat.div_one, Nat.mod_one, if_neg (by omega)]
  rfl

theorem rnd_scale (n d s : Nat) : rnd (n * 2 ^ s) (d + s) = rnd n d := by
  unfold rnd
  have hs : 0 < 2 ^ s := Nat.two_pow_pos s
  rw [Nat.pow_add, Nat.mul_div_mul_right _ _ hs, Nat.mul_mod_mul_right]
  congr 1
  have e : (2 ^ d * 2 ^ s < 2 * (n % 2 ^ d * 2 ^ s) ∨ 2 ^ d * 2 ^ s = 2 * (n % 2 ^ d * 2 ^ s) ∧ n / 2 ^ d % 2 = 1) ↔ (2 ^ d < 2 * (n % 2 ^ d) ∨ 2 ^ d = 2 * (n % 2 ^ d) ∧ n / 2 ^ d % 2 = 1) := by
    rw [← Nat.mul_assoc, Nat.mul_lt_mul_right hs]
    constructor
    · rintro (h | ⟨h, g⟩)
      · exact .inl h
      · exact .inr ⟨Nat.eq_of_mul_eq_mul_right hs h, g⟩
    · rintro (h | ⟨h, g⟩)
      · exact .inl h
      · exact .inr ⟨by rw [← h], g⟩
  by_cases c : (2 ^ d < 2 * (n % 2 ^ d) ∨ 2 ^ d = 2 * (n % 2 ^ d) ∧ n / 2 ^ d % 2 = 1)
  · rw [if_pos c, if_pos (e.2 c)]
  · rw [if_neg c, if_neg (fun h => c (e.1 h))]

theorem rnd_le {n d : Nat} (h : n < 2 ^ (53 + d)) : rnd n d ≤ 9007199254740992 := by
  have : n / 2 ^ d < 9007199254740992 := by
    rw [Nat.div_lt_iff_lt_mul (Nat.two_pow_pos d)]
    rw [Nat.pow_add] at h
    exact h
  unfold rnd
  split <;> omega

theorem rnd_ge {n d : Nat} (h : 2 ^ (52 + d) ≤ n) : 4503599627370496 ≤ rnd n d := by
  have : 4503599627370496 ≤ n / 2 ^ d := by
    rw [Nat.le_div_iff_mul_le (Nat.two_pow_pos d)]
    rw [Nat.pow_add] at h
    exact h
  unfold rnd
  omega

/-- The rung of m * 2^p, ahead of the bound at infinity. -/
def rg (m : Nat) (p : Int) : Nat := ((max (p + (m.log2 : Int) - 52) (-1074)) + 1074).toNat * 4503599627370496 + rnd (m * 2 ^ (p - max (p + (m.log2 : Int) - 52) (-1074)).toNat) (max (p + (m.log2 : Int) - 52) (-1074) - p).toNat

theorem nearest_rg {m : Nat} (h : m ≠ 0) (p : Int) : double.nearest false m p = min (rg m p) 9218868437227405312 := by
  unfold Format.nearest rg
  rw [if_neg h]
  simp only [dLeast, dFrac, dBin, dInf]
  unfold Format.word
  rw [if_neg (by decide), cut_rnd, Nat.shiftLeft_eq]
  congr 2

theorem log2_mono {m n : Nat} (h : m ≤ n) (hm : m ≠ 0) : m.log2 ≤ n.log2 := by
  have h1 : 2 ^ m.log2 ≤ m := Nat.log2_self_le hm
  have h2 : n < 2 ^ (n.log2 + 1) := Nat.lt_log2_self
  have h3 : 2 ^ m.log2 < 2 ^ (n.log2 + 1) := by omega
  have := (Nat.pow_lt_pow_iff_right (by omega : 1 < 2)).1 h3
  omega

theorem rg_mono {m n : Nat} (h : m ≤ n) (hm : m ≠ 0) (p : Int) : rg m p ≤ rg n p := by
  have hl := log2_mono h hm
  have m1 : 2 ^ m.log2 ≤ m := Nat.log2_self_le hm
  have m2 : m < 2 ^ (m.log2 + 1) := Nat.lt_log2_self
  have n1 : 2 ^ n.log2 ≤ n := Nat.log2_self_le (by omega)
  unfold rg
  obtain ⟨L, hL⟩ : ∃ L, L = max (p + (m.log2 : Int) - 52) (-1074) := ⟨_, rfl⟩
  obtain ⟨K, hK⟩ : ∃ K, K = max (p + (n.log2 : Int) - 52) (-1074) := ⟨_, rfl⟩
  rw [← hL, ← hK]
  by_cases e : L = K
  · rw [e]
    have : m * 2 ^ (p - K).toNat ≤ n * 2 ^ (p - K).toNat := Nat.mul_le_mul_right _ h
    have := rnd_mono (d := (K - p).toNat) this
    omega
  · have hK2 : K = p + (n.log2 : Int) - 52 := by rw [hK] at e ⊢; rw [hL] at e; omega
    have a : rnd (m * 2 ^ (p - L).toNat) (L - p).toNat ≤ 9007199254740992 := by
      apply rnd_le
      by_cases c : L ≤ p
      · rw [show (L - p).toNat = 0 by omega]
        have : m * 2 ^ (p - L).toNat < 2 ^ (m.log2 + 1) * 2 ^ (p - L).toNat := Nat.mul_lt_mul_of_pos_right m2 (Nat.two_pow_pos _)
        rw [← Nat.pow_add] at this
        exact Nat.lt_of_lt_of_le this (Nat.pow_le_pow_right (by omega) (by omega))
      · rw [show (p - L).toNat = 0 by omega, Nat.pow_zero, Nat.mul_one]
        exact Nat.lt_of_lt_of_le m2 (Nat.pow_le_pow_right (by omega) (by omega))
    have b : 4503599627370496 ≤ rnd (n * 2 ^ (p - K).toNat) (K - p).toNat := by
      apply rnd_ge
      by_cases c : K ≤ p
      · rw [show (K - p).toNat = 0 by omega]
        have : 2 ^ n.log2 * 2 ^ (p - K).toNat ≤ n * 2 ^ (p - K).toNat := Nat.mul_le_mul_right _ n1
        rw [← Nat.pow_add, show n.log2 + (p - K).toNat = 52 + 0 by omega] at this
        exact this
      · rw [show (p - K).toNat = 0 by omega, Nat.pow_zero, Nat.mul_one, show 52 + (K - p).toNat = n.log2 by omega]
        exact n1
    have : (L + 1074).toNat + 1 ≤ (K + 1074).toNat := by omega
    omega

theorem rg_scale (m s : Nat) (hm : m ≠ 0) (p : Int) : rg (m * 2 ^ s) p = rg m (p + s) := by
  unfold rg
  rw [log2_shift m s hm]
  obtain ⟨L, hL⟩ : ∃ L, L = max (p + ((m.log2 + s : Nat) : Int) - 52) (-1074) := ⟨_, rfl⟩
  rw [← hL, show max (p + (s : Int) + (m.log2 : Int) - 52) (-1074) = L by rw [hL]; congr 1; omega]
  congr 1
  by_cases c : L ≤ p
  · rw [show (L - p).toNat = 0 by omega, show (L - (p + (s : Int))).toNat = 0 by omega, Nat.mul_assoc, ← Nat.pow_add]
    congr 3
    omega
  · rw [show (p - L).toNat = 0 by omega, Nat.pow_zero, Nat.mul_one]
    by_cases c2 : L ≤ p + s
    · rw [show (L - (p + (s : Int))).toNat = 0 by omega]
      have e : s = (p + (s : Int) - L).toNat + (L - p).toNat := by omega
      have := rnd_scale (m * 2 ^ (p + (s : Int) - L).toNat) 0 (L - p).toNat
      rw [Nat.mul_assoc, ← Nat.pow_add, ← e, Nat.zero_add] at this
      exact this
    · rw [show (p + (s : Int) - L).toNat = 0 by omega, Nat.pow_zero, Nat.mul_one]
      have := rnd_scale m (L - (p + (s : Int))).toNat s
      rw [show (L - (p + (s : Int))).toNat + s = (L - p).toNat by omega] at this
      exact this

/-- Rounding keeps the order. -/
theorem nearest_le {m n a b : Nat} (c : Int) (h : m * 2 ^ a ≤ n * 2 ^ b) : double.nearest false m (c + a) ≤ double.nearest false n (c + b) := by
  by_cases hm : m = 0
  · subst hm
    have : double.nearest false 0 (c + a) = 0 := rfl
    omega
  · have hp := Nat.two_pow_pos a
    have hm2 : m * 2 ^ a ≠ 0 := Nat.mul_ne_zero hm (by omega)
    have hn : n ≠ 0 := by rintro rfl; rw [Nat.zero_mul] at h; omega
    rw [nearest_rg hm, nearest_rg hn, ← rg_scale m a hm c, ← rg_scale n b hn c]
    have := rg_mono h hm2 c
    omega

theorem nearest_top (m : Nat) (p : Int) : double.nearest false m p ≤ 9218868437227405312 := by
  by_cases hm : m = 0
  · subst hm
    have : double.nearest false 0 p = 0 := rfl
    omega
  · rw [nearest_rg hm]; omega

/-- A greater word of a number from 0 on is a greater number. -/
theorem wd_val {q m q' m' : Nat} (h : Can q m) (h' : Can q' m') (hw : wd q m ≤ wd q' m') : m * 2 ^ q ≤ m' * 2 ^ q' := by
  obtain ⟨a1, a2, a3⟩ := h
  obtain ⟨b1, b2, b3⟩ := h'
  unfold wd at hw
  rcases Nat.lt_trichotomy q q' with c | c | c
  · have e : 2 ^ q' = 2 ^ (q' - q - 1) * (2 * 2 ^ q) := by
      rw [show q' = (q' - q - 1) + (1 + q) by omega, Nat.pow_add, Nat.pow_add]
      congr 2
      omega
    have hp := Nat.two_pow_pos (q' - q - 1)
    have hq := Nat.two_pow_pos q
    have hm' : 4503599627370496 ≤ m' := by omega
    rw [e]
    have x1 : m * 2 ^ q ≤ 9007199254740992 * 2 ^ q := Nat.mul_le_mul_right _ (by omega)
    have x2 : 4503599627370496 * (1 * (2 * 2 ^ q)) ≤ m' * (2 ^ (q' - q - 1) * (2 * 2 ^ q)) := Nat.mul_le_mul hm' (Nat.mul_le_mul_right _ hp)
    exact Nat.le_trans x1 (Nat.le_trans (Nat.le_of_eq (by omega)) x2)
  · subst c
    exact Nat.mul_le_mul_right _ (by omega)
  · omega

theorem mul_fin {q m q' m' : Nat} (h : Can q m) (h' : Can q' m') : double.mul (wd q m) (wd q' m') = some (double.nearest false (m * m') (-2148 + ((q + q' : Nat) : Int))) := by
  unfold Format.mul
  rw [read_wd h, read_wd h']
  simp only [Datum.product, Option.map_some, Format.write, Bool.xor_false]
  congr 2
  omega

theorem mul_up {q m q' m' r n r' n' : Nat} (h : Can q m) (h' : Can q' m') (g : Can r n) (g' : Can r' n') (h1 : wd q m ≤ wd r n) (h2 : wd q' m' ≤ wd r' n') : double.nearest false (m * m') (-2148 + ((q + q' : Nat) : Int)) ≤ double.nearest false (n * n') (-2148 + ((r + r' : Nat) : Int)) := by
  apply nearest_le
  have a := Nat.mul_le_mul (wd_val h g h1) (wd_val h' g' h2)
  have e : ∀ u v a b : Nat, u * 2 ^ a * (v * 2 ^ b) = u * v * 2 ^ (a + b) := fun u v a b => by
    rw [Nat.pow_add]
    simp only [Nat.mul_assoc, Nat.mul_left_comm]
  rw [e, e] at a
  exact a

/-- Words up to infinity stand to each other as what they stand for. -/
theorem order_le (a b : Nat) (ha : a ≤ 9218868437227405312) (hb : b ≤ 9218868437227405312) : (double.order a b == some .lt || double.order a b == some .eq) = decide (a ≤ b) := by
  have ri : double.read 9218868437227405312 = .infinity false := by decide
  by_cases ca : a = 9218868437227405312
  · by_cases cb : b = 9218868437227405312
    · subst ca; subst cb; decide
    · obtain ⟨q, m, hc, rfl⟩ := wd_of b (by omega)
      subst ca
      unfold Format.order
      rw [ri, read_wd hc, decide_eq_false (by omega)]
      rfl
  · obtain ⟨q, m, hc, rfl⟩ := wd_of a (by omega)
    by_cases cb : b = 9218868437227405312
    · subst cb
      unfold Format.order
      rw [ri, read_wd hc, decide_eq_true ha]
      rfl
    · obtain ⟨r, n, hd, rfl⟩ := wd_of b (by omega)
      rw [order_wd hc hd]
      rcases Nat.lt_trichotomy (wd q m) (wd r n) with c | c | c
      · rw [cmp_lt c, decide_eq_true (by omega)]; rfl
      · rw [c, decide_eq_true (by omega)]; simp
      · rw [cmp_gt c, decide_eq_false (by omega)]; rfl

/-- A number from 0 on, as a float. -/
theorem float_le (n : Nat) (h : n ≤ 9223372036854775807) : Go.floatOfInt .f64 (n : Int) = double.nearest false n 0 ∧ double.nearest false n 0 < 9218868437227405312 := by
  constructor
  · show double.write (.number (decide ((n : Int) < 0)) (n : Int).natAbs 0) = _
    rw [decide_eq_false (by omega), Int.natAbs_natCast]
    rfl
  · have h1 := nearest_le (m := n) (n := 9223372036854775807) (a := 0) (b := 0) 0 (by omega)
    have h2 : double.nearest false 9223372036854775807 (0 + ((0 : Nat) : Int)) = 4890909195324358656 := by decide +kernel
    have h3 : double.nearest false n (0 + ((0 : Nat) : Int)) = double.nearest false n 0 := rfl
    omega

theorem float_up {n n' : Nat} (h : n ≤ n') : double.nearest false n 0 ≤ double.nearest false n' 0 := nearest_le (a := 0) (b := 0) 0 (by omega)

/-- A greater image and a greater factor: what was within stays within. -/
theorem und_up (s im im' x x' : Nat) (hs : s ≤ 9223372036854775807) (hi' : im' ≤ 9223372036854775807) (hi : im ≤ im') (hx : x ≤ x') (hx' : x' ≤ 9218868437227405312) (hinf : x' = 9218868437227405312 → x = x') (hu : undB s im x = true) : undB s im' x' = true := by
  obtain ⟨e1, l1⟩ := float_le im (by omega)
  obtain ⟨e2, l2⟩ := float_le im' hi'
  obtain ⟨e3, l3⟩ := float_le s hs
  have hup := float_up hi
  unfold undB at hu ⊢
  rw [e1, e3] at hu
  rw [e2, e3]
  obtain ⟨q1, m1, c1, w1⟩ := wd_of _ l1
  obtain ⟨q2, m2, c2, w2⟩ := wd_of _ l2
  rw [w1] at hu
  rw [w2]
  rw [w1, w2] at hup
  generalize double.nearest false s 0 = S at *
  by_cases cx : x' = 9218868437227405312
  · have ri : double.read 9218868437227405312 = .infinity false := by decide
    have hx2 := hinf cx
    rw [hx2, cx] at hu
    rw [cx]
    have hm : ∀ {q m : Nat}, Can q m → double.mul 9218868437227405312 (wd q m) = if m = 0 then none else some 9218868437227405312 := by
      intro q m c
      unfold Format.mul
      rw [ri, read_wd c]
      simp only [Datum.product]
      by_cases h0 : m = 0
      · rw [if_pos h0, if_pos h0]; rfl
      · rw [if_neg h0, if_neg h0]; rfl
    rw [hm c1] at hu
    rw [hm c2]
    by_cases h1 : m1 = 0
    · rw [if_pos h1] at hu; cases hu
    · have h2 : m2 ≠ 0 := by
        intro h2
        have := wd_val c1 c2 hup
        rw [h2, Nat.zero_mul] at this
        have := Nat.mul_pos (Nat.pos_of_ne_zero h1) (Nat.two_pow_pos q1)
        omega
      rw [if_neg h2]
      simp only
      rw [order_le _ _ (by omega) (by omega)]
      exact decide_eq_true (by omega)
  · obtain ⟨r1, n1, g1, v1⟩ := wd_of x (by omega)
    obtain ⟨r2, n2, g2, v2⟩ := wd_of x' (by omega)
    rw [v1, mul_fin g1 c1] at hu
    rw [v2, mul_fin g2 c2]
    rw [v1, v2] at hx
    have hle := mul_up g1 c1 g2 c2 hx hup
    have t1 := nearest_top (n1 * m1) (-2148 + ((r1 + q1 : Nat) : Int))
    have t2 := nearest_top (n2 * m2) (-2148 + ((r2 + q2 : Nat) : Int))
    simp only at hu ⊢
    rw [order_le _ _ (by omega) t1] at hu
    rw [order_le _ _ (by omega) t2]
    have := of_decide_eq_true hu
    exact decide_eq_true (by omega)
end Go.Proofs.YtdodjefeahpafaaDoor
