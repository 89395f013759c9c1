/- The document's own Bits at numbers that are neither nought nor infinite, from the least exponent on: their bits. -/
import Derived.Test.YtehgibgeghhloaaGreatDoorRefBitsJ
import Derived.Test.YtehgibgeghhloaaGreatDoorPieceJ
import Derived.Test.YtehgibgeghhloaaGreatDoorCopyLJ
namespace Go.Proofs.YtehgibgeghhloaaGreatDoor
open Ieee
open Go.RowKit (intOf Hid)
set_option maxRecDepth 8000

theorem mul_over {m : Nat} (hm : 4503599627370496 ≤ m) (h2 : m < 9007199254740992) : double.mul (wd 2045 m) 4611686018427387904 = some 9218868437227405312 := by
  unfold Format.mul
  rw [two_wd, read_wd ⟨by omega, h2, .inr hm⟩, read_wd can_two]
  simp only [Datum.product, Option.map_some, Format.write]
  refine congrArg some ?_
  have e : (4503599627370496 : Nat) = 2 ^ 52 := by decide
  have hl : m.log2 = 52 := (Nat.log2_eq_iff (by omega)).2 ⟨by omega, by omega⟩
  have hl2 : (m * 4503599627370496).log2 = 104 := by rw [e, log2_shift m 52 (by omega), hl]
  unfold Format.nearest
  rw [if_neg (by omega)]
  simp only [dLeast, dFrac, dBin, dInf]
  rw [hl2]
  have hx : max (((2045 : Nat) : Int) - 1074 + (((1023 : Nat) : Int) - 1074) + ((104 : Nat) : Int) - ((52 : Nat) : Int)) (-1074) = 972 := by decide
  rw [hx]
  have e1 : (((2045 : Nat) : Int) - 1074 + (((1023 : Nat) : Int) - 1074) - 972).toNat = 0 := by decide
  have e2 : ((972 : Int) - (((2045 : Nat) : Int) - 1074 + (((1023 : Nat) : Int) - 1074))).toNat = 52 := by decide
  have e3 : ((972 : Int) - -1074).toNat = 2046 := by decide
  have c := cut_exact m 52 (by omega)
  rw [← e] at c
  rw [show (false ^^ false) = false from rfl, e1, e2, e3, Nat.shiftLeft_zero, c, Nat.min_eq_right (by omega)]
  rfl

theorem inf_order {q m : Nat} (h : Can q m) : double.order 9218868437227405312 (wd q m) = some .gt := by
  have hr : double.read 9218868437227405312 = .infinity false := by decide
  unfold Format.order
  rw [hr, read_wd h]
  rfl

/-- Twice a number that is neither nought nor infinite is another one. -/
theorem twice {q m : Nat} (h : Can q m) (hm : m ≠ 0) : ∃ z, double.mul (wd q m) 4611686018427387904 = some z ∧ double.order z (wd q m) = some .gt := by
  obtain ⟨h1, h2, h3⟩ := h
  by_cases c : 4503599627370496 ≤ m
  · by_cases c2 : q + 1 ≤ 2045
    · exact ⟨_, mul_two ⟨h1, h2, h3⟩ c c2, order_gt ⟨c2, h2, .inr c⟩ ⟨h1, h2, h3⟩ (by unfold wd; omega)⟩
    · obtain rfl : q = 2045 := by omega
      exact ⟨_, mul_over c h2, inf_order ⟨h1, h2, h3⟩⟩
  · obtain rfl : q = 0 := by omega
    exact ⟨_, mul_two_sub (by omega) hm, order_gt ⟨by omega, by omega, .inl rfl⟩ ⟨h1, h2, h3⟩ (by unfold wd; omega)⟩

theorem ge_two {q m : Nat} (h : Can q m) (hq : 1023 ≤ q) : (FloatKind.f64.format.order (wd q m) 4611686018427387904 == some .gt || FloatKind.f64.format.order (wd q m) 4611686018427387904 == some .eq) = true := by
  have e : FloatKind.f64.format.order (wd q m) 4611686018427387904 = some (compare (wd q m) 4611686018427387904) := by
    show double.order _ _ = _
    rw [two_wd]; exact order_wd h can_two
  rw [e]
  obtain ⟨h1, h2, h3⟩ := h
  have : 4611686018427387904 ≤ wd q m := by unfold wd; omega
  by_cases c : 4611686018427387904 < wd q m
  · rw [cmp_gt c]; rfl
  · have e2 : wd q m = 4611686018427387904 := by omega
    rw [e2]; decide

theorem lt_two {q m : Nat} (h : Can q m) (hq : q < 1023) : (FloatKind.f64.format.order (wd q m) 4611686018427387904 == some .gt || FloatKind.f64.format.order (wd q m) 4611686018427387904 == some .eq) = false := by
  have e : FloatKind.f64.format.order (wd q m) 4611686018427387904 = some .lt := by
    show double.order _ _ = _
    rw [two_wd]
    obtain ⟨h1, h2, h3⟩ := h
    exact order_lt ⟨h1, h2, h3⟩ can_two (by unfold wd; omega)
  rw [e]; rfl

theorem lt_one {q m : Nat} (h : Can q m) (hq : q < 1022) : (FloatKind.f64.format.order (wd q m) 4607182418800017408 == some .lt) = true := by
  have e : FloatKind.f64.format.order (wd q m) 4607182418800017408 = some .lt := by
    show double.order _ _ = _
    rw [one_wd]
    obtain ⟨h1, h2, h3⟩ := h
    exact order_lt ⟨h1, h2, h3⟩ can_one (by unfold wd; omega)
  rw [e]; rfl

theorem ge_one {m : Nat} (h : Can 1022 m) : (FloatKind.f64.format.order (wd 1022 m) 4607182418800017408 == some .lt) = false := by
  have e : FloatKind.f64.format.order (wd 1022 m) 4607182418800017408 = some (compare (wd 1022 m) 4607182418800017408) := by
    show double.order _ _ = _
    rw [one_wd]; exact order_wd h can_one
  rw [e]
  obtain ⟨h1, h2, h3⟩ := h
  have hge : 4607182418800017408 ≤ wd 1022 m := by unfold wd; omega
  by_cases c : 4607182418800017408 < wd 1022 m
  · rw [cmp_gt c]; rfl
  · have e2 : wd 1022 m = 4607182418800017408 := by omega
    rw [e2]; decide

/-- What stands behind the point of a number from 1 to 2: its fraction. -/
theorem frac_of {m : Nat} (h0 : 4503599627370496 ≤ m) (h1 : m < 9007199254740992) : ∃ a b, double.sub (wd 1022 m) 4607182418800017408 = some a ∧ double.mul a 4841369599423283200 = some b ∧ floatToIntVal .f64 b .u64 = some ((m - 4503599627370496 : Nat) : Int) := by
  by_cases c : m = 4503599627370496
  · subst c
    exact ⟨0, 0, sub_one_nought, mul_nought, int_nought⟩
  · have := scale_back (f := m - 4503599627370496) (by omega) (by omega)
    exact ⟨_, _, sub_one (by omega) h1, this.1, this.2⟩

theorem ret_u64 {a b : Int} (h : a = b) : Ending.returned (.int .u64 a) = .returned (.int .u64 b) := by rw [h]

theorem gt_nought {q m : Nat} (h : Can q m) (hm : m ≠ 0) : double.order (wd q m) 0 = some .gt := by
  have hl : wd 0 0 < wd q m := by
    have e : wd 0 0 = 0 := by decide
    rw [e]
    unfold wd
    omega
  have := order_gt h can_nought hl
  rw [← nought_wd] at this
  exact this

/-- The word in a slot: for a loop's measure. -/
def wordOf : Value → Nat
  | .float _ b => b
  | _ => 0

/-- What a number below the least exponent is behind k doublings. -/
def sq (m k : Nat) : Nat := k - (52 - m.log2)
def sm (m k : Nat) : Nat := m * 2 ^ (min k (52 - m.log2))

theorem log2_sub {m : Nat} (h0 : m ≠ 0) (h1 : m < 4503599627370496) : m.log2 ≤ 51 := by have := (Nat.log2_lt h0 (k := 52)).2 (by omega); omega

theorem sm_top {m k : Nat} (hk : 52 - m.log2 ≤ k) : sm m k = m * 2 ^ (52 - m.log2) := by unfold sm; rw [Nat.min_eq_right hk]

theorem sm_low {m k : Nat} (hk : k ≤ 52 - m.log2) : sm m k = m * 2 ^ k := by unfold sm; rw [Nat.min_eq_left hk]

theorem sm_small {m k : Nat} (h0 : m ≠ 0) (h1 : m < 4503599627370496) (hk : k < 52 - m.log2) : sm m k < 4503599627370496 ∧ sm m k ≠ 0 := by
  have hL := log2_sub h0 h1
  rw [sm_low (by omega)]
  have a1 : m < 2 ^ (m.log2 + 1) := Nat.lt_log2_self
  have a2 : m * 2 ^ k < 2 ^ (m.log2 + 1) * 2 ^ k := Nat.mul_lt_mul_of_pos_right a1 (Nat.two_pow_pos _)
  rw [← Nat.pow_add] at a2
  have a3 : 2 ^ (m.log2 + 1 + k) ≤ 2 ^ 52 := Nat.pow_le_pow_right (by omega) (by omega)
  have a4 : (2 : Nat) ^ 52 = 4503599627370496 := by decide
  have a5 : m * 2 ^ k ≠ 0 := Nat.mul_ne_zero h0 (by have := Nat.two_pow_pos k; omega)
  exact ⟨by omega, a5⟩

theorem sub_can {m k : Nat} (h0 : m ≠ 0) (h1 : m < 4503599627370496) (hk : k ≤ 1022) : Can (sq m k) (sm m k) := by
  have hL := log2_sub h0 h1
  by_cases c : k < 52 - m.log2
  · have := sm_small h0 h1 c
    exact ⟨by unfold sq; omega, by omega, .inl (by unfold sq; omega)⟩
  · rw [sm_top (by omega)]
    exact ⟨by unfold sq; omega, up_lt (by omega), .inr (up_ge h0 (by omega))⟩

theorem sub_step {m k : Nat} (h0 : m ≠ 0) (h1 : m < 4503599627370496) (hk : k < 1022) : double.mul (wd (sq m k) (sm m k)) 4611686018427387904 = some (wd (sq m (k + 1)) (sm m (k + 1))) := by
  have hL := log2_sub h0 h1
  by_cases c : k < 52 - m.log2
  · have hs := sm_small h0 h1 c
    have e1 : sq m k = 0 := by unfold sq; omega
    have e2 : sq m (k + 1) = 0 := by unfold sq; omega
    have e3 : sm m (k + 1) = 2 * sm m k := by
      rw [sm_low (by omega), sm_low (by omega), Nat.pow_succ, ← Nat.mul_assoc, Nat.mul_comm]
    rw [e1, e2, e3]
    exact mul_two_sub hs.1 hs.2
  · have e1 : sq m (k + 1) = sq m k + 1 := by unfold sq; omega
    have e2 : sm m (k + 1) = sm m k := by rw [sm_top (by omega), sm_top (by omega)]
    rw [e1, e2]
    exact mul_two (sub_can h0 h1 (by omega)) (by rw [sm_top (by omega)]; exact up_ge h0 (by omega)) (by unfold sq; omega)

theorem sub_end {m k : Nat} (h0 : m ≠ 0) (h1 : m < 4503599627370496) (hk : k = 1022) : ∃ b, double.mul (wd (sq m k) (sm m k)) 4841369599423283200 = some b ∧ floatToIntVal .f64 b .u64 = some (m : Int) := by
  have hL := log2_sub h0 h1
  have e1 : sq m k = 970 + m.log2 := by unfold sq; omega
  rw [e1, sm_top (by omega)]
  have := scale_back h0 h1
  exact ⟨_, this.1, this.2⟩

theorem sub_start (m : Nat) : sq m 0 = 0 ∧ sm m 0 = m := by
  constructor
  · unfold sq; omega
  · unfold sm; simp

end Go.Proofs.YtehgibgeghhloaaGreatDoor

/- What the document's own bytes of whole numbers are: digits and Int32 of lagoonref01. -/
namespace Go.Proofs.YtehgibgeghhloaaGreatDoor
open Go.RowKit
set_option maxRecDepth 8000

/-- The lowest m digits to the base 256, the highest first. -/
def digs : Nat → Int → List Int
  | 0, _ => []
  | m + 1, n => digs m (n / 256) ++ [n % 256]

theorem digs_len (m : Nat) (n : Int) : (digs m n).length = m := by
  induction m generalizing n with
  | zero => rfl
  | succ m ih => simp [digs, ih]

theorem digs_byts (m : Nat) (n : Int) : Byts (digs m n) := by
  induction m generalizing n with
  | zero => intro x hx; simp [digs] at hx
  | succ m ih =>
    refine (ih _).append ?_
    intro x hx
    simp at hx
    omega

theorem digs4 (n : Int) (h0 : 0 ≤ n) (h1 : n < 4294967296) : digs 4 n = be4 n := by
  simp only [digs, be4, List.nil_append, List.cons_append, List.cons.injEq, and_true]
  omega

theorem digs8 (n : Int) (h0 : 0 ≤ n) (h1 : n ≤ 18446744073709551615) : digs 8 n = be8 n := by
  simp only [digs, be8, be4, List.nil_append, List.cons_append, List.cons.injEq, and_true]
  omega

theorem drop_set {zs : List Int} {k : Nat} (x : Int) (hk : k < zs.length) : (zs.set k x).drop k = x :: zs.drop (k + 1) := by
  rw [List.drop_eq_getElem_cons (by simpa using hk), List.drop_set_of_lt (by omega)]
  simp

set_option maxHeartbeats 400000 in
theorem digits_any (n : Int) (m : Nat) (w : World) (hm : m ≤ 8) (h0 : 0 ≤ n) (h1 : n ≤ 18446744073709551615) :
    Calls Tryz.prog 88 #[.int .u64 n, .int .i64 m] w fun e w' => ∃ v', e = .returned v' ∧ Owns w' w.heap.size v' (digs m n) ∧ Below w.heap.size w w' := by
  obtain ⟨i0, hi, hz0, hz1, hz2⟩ := info_parts Tryz.infoByte
  go_enter Tryz.func88, Tryz.ntmps88
  go_wp2_with (at_make; refine wpList_make_full _ rfl _ _ 28 rfl w.heap.size 5 i0 (.int .u8 0) 1 Tryz.underlying28 hi hz0 hz1 .i64 .i64 _ _ m rfl rfl (by omega) (by omega) (by rw [hz2]; omega) (by unfold maxLen; omega) (Nat.le_refl _) ?_)
  intro w0 hown0 hgrow0
  have hown1 := made_owns hown0
  have hbel0 : Below w.heap.size w w0 := (Below.refl _ _).grown hgrow0 (Nat.le_refl _) (fun k hk => by simp at hk)
  have HO1 : Hid (Owns w0 w.heap.size (.slice (some ⟨w.heap.size, 0, none⟩) (List.replicate m (0 : Int)).length m) (List.replicate m 0)) := hown1
  clear hown0 hgrow0 hown1
  go_wp2
  go_loopw [0, 6] (fun q i wr => ∃ (k : Nat) (c : Int) (zs : List Int), k ≤ m ∧ 0 ≤ c ∧ c ≤ 18446744073709551615 ∧ q = .int .u64 c ∧ i = .int .i64 (k - 1) ∧ zs.length = m ∧ Owns wr w.heap.size (.slice (some ⟨w.heap.size, 0, none⟩) zs.length m) zs ∧ digs m n = digs k c ++ zs.drop k ∧ Below w.heap.size w wr) (fun _ i _ => (intOf i + 1).toNat)
  case atStart => exact ⟨m, n, _, Nat.le_refl _, h0, h1, rfl, by go_num, by simp, HO1.out, by simp, hbel0⟩
  case round =>
    clear HO1 hbel0 w0
    obtain ⟨k, c, zs, hk, hc0, hc1, rfl, rfl, hzl, hown, hd, hbel⟩ := hrel
    have HZ : Hid (zs.length = m ∧ Owns wr w.heap.size (.slice (some ⟨w.heap.size, 0, none⟩) zs.length m) zs ∧ digs m n = digs k c ++ zs.drop k ∧ Below w.heap.size w wr) := ⟨hzl, hown, hd, hbel⟩
    clear hd hzl hbel
    cases k with
    | zero =>
      clear hown
      go_wp2
      go_ret
      obtain ⟨z1, z2, z3, z4⟩ := HZ.out
      have e : digs m n = zs := by rw [z3]; simp [digs]
      rw [z1] at z2
      exact ⟨_, rfl, by rw [e]; exact z2, z4⟩
    | succ k =>
      have e : ((k + 1 : Nat) : Int) - 1 = k := by omega
      rw [e]
      clear e
      have hcz := owns_cell hown k (by rw [HZ.out.1]; omega)
      have hfz := hown.frozenAt k
      clear hown
      go_wp2
      obtain ⟨z1, z2, z3, z4⟩ := HZ.out
      have R := owns_set z2 k (c % 256)
      have R2 : digs m n = digs k (c / 256) ++ (zs.set k (c % 256)).drop k := by
        rw [drop_set _ (by omega), z3]; simp [digs]
      have R3 : Below w.heap.size w (wr.setCell ⟨w.heap.size, k, none⟩ (.int .u8 (c % 256))) := z4.setCell (Nat.le_refl _) _
      go_roundw
      case rel => exact ⟨k, c / 256, zs.set k (c % 256), by omega, by omega, by omega, rfl, by go_num, by simpa using z1, R.1, R2, R3⟩
      case measure => simp [intOf]

set_option maxHeartbeats 400000 in
theorem refInt32_any (n : Int) (w : World) (h0 : -2147483648 ≤ n) (h1 : n ≤ 2147483647) :
    Calls Tryz.prog 92 #[.int .i32 n] w fun e w' => ∃ v', e = .returned v' ∧ Owns w' w.heap.size v' (be4 (up32 n)) ∧ Below w.heap.size w w' := by
  by_cases hn : n < 0
  · have hd : Hid (digs 4 (n + 4294967296) = be4 (up32 n)) := by
      have : up32 n = n + 4294967296 := by unfold up32; omega
      show _ = _
      rw [this]; exact digs4 _ (by omega) (by omega)
    go_enter Tryz.func92, Tryz.ntmps92
    go_wp2_with fail
    refine (digits_any (n + 4294967296) 4 _ (by omega) (by omega) (by omega)).mono ?_
    rintro e w1 ⟨v, rfl, hp⟩
    rw [hd.out] at hp
    have HP : Hid (Owns w1 w.heap.size v (be4 (up32 n)) ∧ Below w.heap.size w w1) := hp
    clear hp
    go_wp2
    go_ret
    exact ⟨_, rfl, HP.out⟩
  · have hd : Hid (digs 4 n = be4 (up32 n)) := by
      have : up32 n = n := by unfold up32; omega
      show _ = _
      rw [this]; exact digs4 _ (by omega) (by omega)
    go_enter Tryz.func92, Tryz.ntmps92
    go_wp2_with fail
    refine (digits_any n 4 _ (by omega) (by omega) (by omega)).mono ?_
    rintro e w1 ⟨v, rfl, hp⟩
    rw [hd.out] at hp
    have HP : Hid (Owns w1 w.heap.size v (be4 (up32 n)) ∧ Below w.heap.size w w1) := hp
    clear hp
    go_wp2
    go_ret
    exact ⟨_, rfl, HP.out⟩

end Go.Proofs.YtehgibgeghhloaaGreatDoor

/- What the document's own bytes of an int64 are: Int64 of lagoonref01. -/
namespace Go.Proofs.YtehgibgeghhloaaGreatDoor
open Go.RowKit
set_option maxRecDepth 8000

/-- The loop of lagoonref01.Int64 below 0 takes each digit from 255. -/
theorem flip_digs (m : Nat) (n : Int) : (digs m n).map (fun x => 255 - x) = digs m (-1 - n) := by
  induction m generalizing n with
  | zero => rfl
  | succ m ih =>
    simp only [digs, List.map_append, ih, List.map_cons, List.map_nil]
    rw [show (-1 - n) / 256 = -1 - n / 256 by omega, show (-1 - n) % 256 = 255 - n % 256 by omega]

theorem digs_up64 (n : Int) (h0 : -9223372036854775808 ≤ n) (h1 : n < 0) : digs 8 n = be8 (up64 n) := by
  rw [← digs8 (up64 n) (up64_bd n).1 (up64_bd n).2]
  have : up64 n = n + 18446744073709551616 := by unfold up64; omega
  rw [this]
  simp only [digs, List.nil_append, List.cons_append, List.cons.injEq, and_true]
  omega

theorem flip_nth (zs : List Int) (k : Nat) (hk : k < zs.length) (ds : List Int) (h : ∀ j, j < zs.length → zs.getD j 0 = if j < k then 255 - ds.getD j 0 else ds.getD j 0) :
    ∀ j, j < (zs.set k (255 - ds.getD k 0)).length → (zs.set k (255 - ds.getD k 0)).getD j 0 = if j < k + 1 then 255 - ds.getD j 0 else ds.getD j 0 := by
  intro j hj
  simp at hj
  rw [nth_set zs k j _ hk]
  by_cases e : j = k
  · rw [if_pos e, if_pos (by omega), e]
  · rw [if_neg e, h j hj]
    by_cases e2 : j < k
    · rw [if_pos e2, if_pos (by omega)]
    · rw [if_neg e2, if_neg (by omega)]

set_option maxHeartbeats 1000000 in
theorem refInt64_any (n : Int) (w : World) (h0 : -9223372036854775808 ≤ n) (h1 : n ≤ 9223372036854775807) :
    Calls Tryz.prog 30 #[.int .i64 n] w fun e w' => ∃ v', e = .returned v' ∧ Owns w' w.heap.size v' (be8 (up64 n)) ∧ Below w.heap.size w w' := by
  by_cases hn : 0 ≤ n
  · have hd : Hid (digs 8 n = be8 (up64 n)) := by
      have : up64 n = n := by unfold up64; omega
      show _ = _
      rw [this]; exact digs8 _ (by omega) (by omega)
    go_enter Tryz.func30, Tryz.ntmps30
    go_wp2_with fail
    refine (digits_any n 8 _ (by omega) (by omega) (by omega)).mono ?_
    rintro e w1 ⟨v, rfl, hp⟩
    rw [hd.out] at hp
    have HP : Hid (Owns w1 w.heap.size v (be8 (up64 n)) ∧ Below w.heap.size w w1) := hp
    clear hp
    go_wp2
    go_ret
    exact ⟨_, rfl, HP.out⟩
  · have hd : Hid (digs 8 n = be8 (up64 n)) := digs_up64 n h0 (by omega)
    have HF : Hid ((digs 8 (-1 - n)).map (fun x => 255 - x) = digs 8 n) := by
      have := flip_digs 8 (-1 - n)
      rw [show -1 - (-1 - n) = n by omega] at this
      exact this
    have HDB : Hid (Byts (digs 8 (-1 - n))) := digs_byts _ _
    have HDL : Hid ((digs 8 (-1 - n)).length = 8) := digs_len _ _
    go_enter Tryz.func30, Tryz.ntmps30
    go_wp2_with fail
    refine (digits_any (-1 - n) 8 _ (by omega) (by omega) (by omega)).mono ?_
    rintro e w1 ⟨v, rfl, ho, hbel⟩
    generalize digs 8 (-1 - n) = ds at *
    obtain ⟨g, c, hv, hg⟩ := owns_some ho (by rw [HDL.out]; omega)
    rw [HDL.out] at hv
    subst hv
    have HP : Hid (Owns w1 w.heap.size (.slice (some ⟨g, 0, none⟩) 8 c) ds ∧ Below w.heap.size w w1) := ⟨ho, hbel⟩
    clear ho hbel
    go_wp2
    go_loopw [4] (fun i wr => ∃ (k : Nat) (zs : List Int), k ≤ 8 ∧ i = .int .i64 k ∧ zs.length = 8 ∧ Owns wr w.heap.size (.slice (some ⟨g, 0, none⟩) 8 c) zs ∧ (∀ j, j < zs.length → zs.getD j 0 = if j < k then 255 - ds.getD j 0 else ds.getD j 0) ∧ Below w.heap.size w wr) (fun i _ => 8 - (intOf i).toNat)
    case atStart => exact ⟨0, ds, by omega, rfl, HDL.out, HP.out.1, fun j hj => by simp, HP.out.2⟩
    case round =>
      clear HP
      obtain ⟨k, zs, hk, rfl, hzl, hown, hpt, hbel⟩ := hrel
      have HZ : Hid (zs.length = 8 ∧ Owns wr w.heap.size (.slice (some ⟨g, 0, none⟩) zs.length c) zs ∧ (∀ j, j < zs.length → zs.getD j 0 = if j < k then 255 - ds.getD j 0 else ds.getD j 0) ∧ Below w.heap.size w wr) := ⟨hzl, by rw [hzl]; exact hown, hpt, hbel⟩
      clear hown hpt hbel hzl
      by_cases hlt : k < 8
      · have hcz := owns_cell HZ.out.2.1 k (by rw [HZ.out.1]; omega)
        rw [HZ.out.2.2.1 k (by rw [HZ.out.1]; omega), if_neg (by omega)] at hcz
        have hfz := HZ.out.2.1.frozenAt k
        have hx := HDB.out.nth k
        have HN := flip_nth zs k (by rw [HZ.out.1]; omega) ds HZ.out.2.2.1
        have HN' : Hid _ := HN
        have HS : Hid (Owns (wr.setCell ⟨g, k, none⟩ (.int .u8 (255 - ds.getD k 0))) w.heap.size (.slice (some ⟨g, 0, none⟩) (zs.set k (255 - ds.getD k 0)).length c) (zs.set k (255 - ds.getD k 0))) := (owns_set HZ.out.2.1 k (255 - ds.getD k 0)).1
        clear HN
        generalize ds.getD k 0 = x at *
        go_wp2
        have z2 := HS.out
        rw [List.length_set, HZ.out.1] at z2
        have R3 : Below w.heap.size w (wr.setCell ⟨g, k, none⟩ (.int .u8 (255 - x))) := HZ.out.2.2.2.setCell hg _
        go_roundw
        case rel => exact ⟨k + 1, zs.set k (255 - x), by omega, by go_num, by rw [List.length_set]; exact HZ.out.1, z2, HN'.out, R3⟩
        case measure => simp [intOf]; omega
      · have he : zs = be8 (up64 n) := by
          rw [← hd.out, ← HF.out]
          refine list_of_nths (by rw [List.length_map, HZ.out.1, HDL.out]) (fun j hj => ?_)
          rw [HZ.out.2.2.1 j hj, if_pos (by have := HZ.out.1; omega)]
          have hj' : j < ds.length := by have := HZ.out.1; have := HDL.out; omega
          simp [List.getD_eq_getElem?_getD, hj']
        have z2 := HZ.out.2.1
        rw [HZ.out.1, he] at z2
        have HR : Hid (Owns wr w.heap.size (.slice (some ⟨g, 0, none⟩) 8 c) (be8 (up64 n)) ∧ Below w.heap.size w wr) := ⟨z2, HZ.out.2.2.2⟩
        clear z2 he HZ
        go_wp2
        go_ret
        exact ⟨_, rfl, HR.out⟩

end Go.Proofs.YtehgibgeghhloaaGreatDoor
