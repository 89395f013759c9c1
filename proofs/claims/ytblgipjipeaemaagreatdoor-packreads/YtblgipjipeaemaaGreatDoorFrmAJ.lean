/- A count, and so many texts behind it: what reading any bytes gives, by the document. No Go function is walked here. -/
import Derived.Test.YtblgipjipeaemaaGreatDoorReaderAllJ
import Derived.Test.YtblgipjipeaemaaGreatDoorRefR5J
import Derived.Test.YtblgipjipeaemaaGreatDoorReaderMoreJ
import Derived.Test.YtblgipjipeaemaaGreatDoorRefBits2J
namespace Go.Proofs.YtblgipjipeaemaaGreatDoor
open Go.RowKit
set_option maxRecDepth 8000

/-- A count: by the document (-1 where there is none). -/
def rdCnt (most : Int) (xs : List Int) (f : Int) : Rd :=
  if f ≠ 0 then ⟨-1, xs, f⟩ else if xs.length < 4 then ⟨-1, xs, 10⟩ else if ahead xs < 0 ∨ most < ahead xs then ⟨-1, xs, 11⟩
  else if (xs.length : Int) - 4 < ahead xs then ⟨-1, xs, 10⟩ else ⟨ahead xs, xs.drop 4, 0⟩

/-- What so many readings of a text of at most 8 bytes give: the texts, what is left, the fault. -/
def gs (xs : List Int) (f : Int) : Nat → List (List Int) × List Int × Int
  | 0 => ([], xs, f)
  | i + 1 => if (gs xs f i).2.2 ≠ 0 then gs xs f i else ((gs xs f i).1 ++ [(rdBuf 8 (gs xs f i).2.1 0).1], (rdBuf 8 (gs xs f i).2.1 0).2.rest, (rdBuf 8 (gs xs f i).2.1 0).2.fault)

theorem gs_stop {xs : List Int} {f : Int} {i : Nat} (h : (gs xs f i).2.2 ≠ 0) : ∀ n, gs xs f (i + n) = gs xs f i
  | 0 => rfl
  | n + 1 => by
    have ih := gs_stop h n
    rw [show i + (n + 1) = (i + n) + 1 from rfl, gs, ih, if_pos h]

theorem gs_next {xs : List Int} {f : Int} {i : Nat} (h : (gs xs f i).2.2 = 0) : gs xs f (i + 1) = ((gs xs f i).1 ++ [(rdBuf 8 (gs xs f i).2.1 0).1], (rdBuf 8 (gs xs f i).2.1 0).2.rest, (rdBuf 8 (gs xs f i).2.1 0).2.fault) := by
  rw [gs, if_neg (by simp [h])]

/-- What is left is an end of what was there. -/
theorem rdBuf_drop (most : Int) (xs : List Int) (f : Int) : ∃ k, (rdBuf most xs f).2.rest = xs.drop k := by
  unfold rdBuf
  split
  · exact ⟨0, rfl⟩
  · split
    · exact ⟨0, rfl⟩
    · split
      · exact ⟨0, rfl⟩
      · split
        · exact ⟨0, rfl⟩
        · exact ⟨4 + (ahead xs).toNat, by rw [List.drop_drop]⟩

theorem gs_drop (xs : List Int) (f : Int) : ∀ i, ∃ k, (gs xs f i).2.1 = xs.drop k
  | 0 => ⟨0, rfl⟩
  | i + 1 => by
    obtain ⟨k, hk⟩ := gs_drop xs f i
    rw [gs]
    split
    · exact ⟨k, hk⟩
    · obtain ⟨m, hm⟩ := rdBuf_drop 8 (gs xs f i).2.1 0
      exact ⟨k + m, by rw [hm, hk, List.drop_drop]⟩

theorem gs_len (xs : List Int) (f : Int) : ∀ i, (gs xs f i).1.length ≤ i
  | 0 => Nat.le_refl _
  | i + 1 => by
    have := gs_len xs f i
    rw [gs]
    split
    · omega
    · simp; omega

theorem gs_bytes {xs : List Int} (f : Int) (hb : Byts xs) (i : Nat) : Byts (gs xs f i).2.1 := by
  obtain ⟨k, hk⟩ := gs_drop xs f i
  rw [hk]
  exact fun x hx => hb x (List.mem_of_mem_drop hx)

/-- A list of texts of at most 8 bytes: what has been read, what is left, the fault. -/
def gl (most : Int) (xs : List Int) : List (List Int) × List Int × Int := gs (rdCnt most xs 0).rest (rdCnt most xs 0).fault (rdCnt most xs 0).out.toNat

/-- The list that is answered. -/
def glL (most : Int) (xs : List Int) : List (List Int) := if (gl most xs).2.2 = 0 then (gl most xs).1 else []

theorem gl_bad {most : Int} {xs : List Int} {f : Int} (h : rdCnt most xs 0 = ⟨-1, xs, f⟩) (hf : f ≠ 0) : gl most xs = ([], xs, f) ∧ glL most xs = [] := by
  have e : gl most xs = ([], xs, f) := by unfold gl; rw [h]; rfl
  exact ⟨e, by unfold glL; rw [e, if_neg hf]⟩

theorem gl_ok {most : Int} {xs : List Int} {n : Nat} (h : rdCnt most xs 0 = ⟨(n : Int), xs.drop 4, 0⟩) : gl most xs = gs (xs.drop 4) 0 n := by
  unfold gl; rw [h]; rfl

/-- A count by its four ways. -/
theorem rdCnt_ways (most : Int) (xs : List Int) : (xs.length < 4 ∧ rdCnt most xs 0 = ⟨-1, xs, 10⟩) ∨ (4 ≤ xs.length ∧ (ahead xs < 0 ∨ most < ahead xs) ∧ rdCnt most xs 0 = ⟨-1, xs, 11⟩) ∨ (4 ≤ xs.length ∧ 0 ≤ ahead xs ∧ ahead xs ≤ most ∧ (xs.length : Int) - 4 < ahead xs ∧ rdCnt most xs 0 = ⟨-1, xs, 10⟩) ∨ (4 ≤ xs.length ∧ 0 ≤ ahead xs ∧ ahead xs ≤ most ∧ ahead xs ≤ (xs.length : Int) - 4 ∧ rdCnt most xs 0 = ⟨ahead xs, xs.drop 4, 0⟩) := by
  unfold rdCnt
  rw [if_neg (by simp)]
  by_cases h1 : xs.length < 4
  · exact .inl ⟨h1, by rw [if_pos h1]⟩
  · rw [if_neg h1]
    by_cases h2 : ahead xs < 0 ∨ most < ahead xs
    · exact .inr (.inl ⟨by omega, h2, by rw [if_pos h2]⟩)
    · rw [if_neg h2]
      by_cases h3 : (xs.length : Int) - 4 < ahead xs
      · exact .inr (.inr (.inl ⟨by omega, by omega, by omega, h3, by rw [if_pos h3]⟩))
      · exact .inr (.inr (.inr ⟨by omega, by omega, by omega, by omega, by rw [if_neg h3]⟩))

/-- Readings that have no fault are as many as they should be. -/
theorem gs_full {xs : List Int} {f : Int} : ∀ {i : Nat}, (gs xs f i).2.2 = 0 → (gs xs f i).1.length = i
  | 0, _ => rfl
  | i + 1, h => by
    by_cases h0 : (gs xs f i).2.2 = 0
    · rw [gs_next h0]
      have := gs_full h0
      simp [this]
    · rw [gs, if_pos h0] at h
      exact absurd h h0

theorem gs_end {xs : List Int} {f : Int} {k n : Nat} (hk : k ≤ n) (h : k = n ∨ (gs xs f k).2.2 ≠ 0) : gs xs f n = gs xs f k := by
  rcases h with rfl | h
  · rfl
  · have := gs_stop h (n - k)
    rwa [show k + (n - k) = n by omega] at this

/-- Texts as values. -/
abbrev txV (l : List (List Int)) : List Value := l.map fun x => .string (strOfNums x)
end Go.Proofs.YtblgipjipeaemaaGreatDoor

/- The document's own Reader (lagoonref01): New, Count, Text. -/
namespace Go.Proofs.YtblgipjipeaemaaGreatDoor
open Go.RowKit
set_option maxRecDepth 8000

section
variable (g : Nat) (v : Value) (bs : List Int) (p : Nat) (f : Int) (w : World)

end

section
variable (g : Nat) (v : Value) (bs : List Int) (p : Nat) (f : Int) (w : World)

set_option maxHeartbeats 1000000 in
theorem qText_any (most : Int) (h : IsQ w g v bs p f) (hb : Byts bs) : Calls Tryz.prog 47 #[.pointer (some ⟨g, 0, none⟩), .int .i64 most] w fun e w' => e = .returned (.string (strOfNums (rdBuf most (bs.drop p) f).1)) ∧ QTo w g v bs (rdBuf most (bs.drop p) f).2 w' := by
  have HB : Hid _ := qBuffer_any g v bs p f w most h hb
  have HT : Hid (∀ (w : World) (u : Value) (ys : List Int), Sees w u ys → (convert 22 9 u).run Tryz.prog w = .ok (.string (strOfNums ys)) w) := run_text
  clear h hb
  go_enter Tryz.func47, Tryz.ntmps47
  go_wp2_with fail
  refine Calls.mono HB.out ?_
  rintro e w1 ⟨u, rfl, ho, hq⟩
  have ht := HT.out w1 u _ (Sees.own ho)
  obtain ⟨ua, un, uc, rfl⟩ := owns_shape ho
  have HQ : Hid _ := hq
  clear ho hq HB HT
  go_wp2_with fail
  go_ret
  exact ⟨rfl, HQ.out⟩
end

set_option maxHeartbeats 400000 in
theorem refNewG (v : Value) (bs : List Int) (w : World) (h : Sees w v bs) (hl : bs.length ≤ 60000000000000) :
    Calls Tryz.prog 12 #[v] w fun e w' => ∃ g v', e = .returned (.pointer (some ⟨g, 0, none⟩)) ∧ IsQ w' g v' bs 0 0 ∧ w.heap.size ≤ g ∧ (∀ k, v'.ownBlock = some k → w.heap.size ≤ k ∧ k < g) ∧ Below w.heap.size w w' := by
  have H : Hid (Sees w v bs ∧ bs.length ≤ 60000000000000) := ⟨h, hl⟩
  clear h hl
  go_enter Tryz.func12, Tryz.ntmps12
  go_wp2_with fail
  refine (copyBytes_any _ bs _ H.out.1 (by have := H.out.2; omega)).mono ?_
  rintro e w1 ⟨v1, rfl, ho, hb⟩
  obtain ⟨a0, a1, a2, rfl⟩ : ∃ a n c, v1 = .slice a n c := by obtain ⟨a, c, e, _⟩ := Sees.own ho; exact ⟨a, _, c, e⟩
  have HB : Hid (Owns w1 w.heap.size (.slice a0 a1 a2) bs ∧ Below w.heap.size w w1) := ⟨ho, hb⟩
  clear ho hb
  go_wp2_with fail
  go_ret
  refine ⟨_, .slice a0 a1 a2, rfl, ⟨heap_alloc_new _ _, (Sees.own HB.out.1).below ((Below.refl _ _).alloc (Nat.le_refl _) _) (Nat.le_refl _), Nat.zero_le _, by have := H.out.2; omega, fun _ e => ?_⟩, HB.out.2.size, fun k e => HB.out.1.lt k e, HB.out.2.alloc HB.out.2.size _⟩
  have := (HB.out.1.lt _ e).2
  omega
end Go.Proofs.YtblgipjipeaemaaGreatDoor

/- Plain facts on doubles: what the document's own From does is exact: a whole number below 2^52 as a double, by 2^52, and 1, halved and doubled. No Go function is walked here. -/
namespace Go.Proofs.YtblgipjipeaemaaGreatDoor
open Ieee Go.RowKit
set_option maxRecDepth 8000

/-- A whole number below 2^52, not 0, as a double. -/
theorem float_of {m : Nat} (h0 : m ≠ 0) (h1 : m < 4503599627370496) : FloatKind.f64.nearest (m : Int) = wd (1022 + m.log2) (m * 2 ^ (52 - m.log2)) := by
  have hL := log2_sub h0 h1
  have e : FloatKind.f64.nearest (m : Int) = double.nearest false m 0 := by
    show double.write (.number (decide ((m : Int) < 0)) (m : Int).natAbs 0) = _
    have : decide ((m : Int) < 0) = false := by simp
    rw [this]
    rfl
  rw [e, nearest_up h0 (by omega) (by omega) (by omega), show ((0 : Int) + (m.log2 : Int) + 1022).toNat = 1022 + m.log2 by omega]

theorem float_nought : FloatKind.f64.nearest 0 = 0 := by decide

/-- By 2^52. -/
theorem div_big (L M : Nat) (hL : L ≤ 51) (hr : M < 9007199254740992) (hge : 4503599627370496 ≤ M) : double.div (wd (1022 + L) M) 4841369599423283200 = some (wd (970 + L) M) := by
  unfold Format.div
  rw [big_wd, read_wd ⟨by omega, hr, .inr hge⟩, read_wd can_big, dFrac]
  have hl : M.log2 = 52 := (Nat.log2_eq_iff (by omega)).2 ⟨by omega, by omega⟩
  have hl2 : (4503599627370496 : Nat).log2 = 52 := (Nat.log2_eq_iff (by omega)).2 ⟨by omega, by omega⟩
  simp only [Datum.quotient]
  rw [if_neg (by omega), hl, hl2]
  simp only [Option.map_some, Format.write]
  refine congrArg some ?_
  have e1 : M <<< (52 + 2 + 52 - 52) = (M * 4) * 4503599627370496 := by rw [Nat.shiftLeft_eq]; omega
  rw [e1, Nat.mul_div_cancel _ (by omega), Nat.mul_mod_left]
  have := nearest_wd (q := 970 + L) (m := M) (s := 3) (t := ((1022 + L : Nat) : Int) - 1074 - (((1074 : Nat) : Int) - 1074) - ((52 + 2 + 52 - 52 : Nat) : Int) - 1) ⟨by omega, hr, .inr hge⟩ (by omega) (by omega)
  have e2 : M * 2 ^ 3 = 2 * (M * 4) + (0 != 0).toNat := by simp; omega
  rw [e2] at this
  exact this

theorem div_nought : double.div 0 4841369599423283200 = some 0 := by decide
theorem half_nought : double.div 0 4611686018427387904 = some 0 := by decide
theorem nought_one : double.add 0 4607182418800017408 = some (wd 1022 4503599627370496) := by decide

/-- And 1. -/
theorem add_one {m : Nat} (h0 : m ≠ 0) (h1 : m < 4503599627370496) : double.add (wd (970 + m.log2) (m * 2 ^ (52 - m.log2))) 4607182418800017408 = some (wd 1022 (4503599627370496 + m)) := by
  have hL := log2_sub h0 h1
  have hlt := up_lt (f := m) (by omega)
  have hge := up_ge h0 (f := m) (by omega)
  unfold Format.add
  rw [one_wd, read_wd ⟨by omega, hlt, .inr hge⟩, read_wd can_one]
  simp only [Datum.sum, Option.map_some, Format.write]
  refine congrArg some ?_
  have e3 : min (((970 + m.log2 : Nat) : Int) - 1074) (((1022 : Nat) : Int) - 1074) = ((970 + m.log2 : Nat) : Int) - 1074 := by omega
  rw [e3]
  have e4 : (((970 + m.log2 : Nat) : Int) - 1074 - (((970 + m.log2 : Nat) : Int) - 1074)).toNat = 0 := by omega
  have e5 : (((1022 : Nat) : Int) - 1074 - (((970 + m.log2 : Nat) : Int) - 1074)).toNat = 52 - m.log2 := by omega
  rw [e4, e5]
  have e6 : Ieee.signed false (m * 2 ^ (52 - m.log2)) 0 + Ieee.signed false 4503599627370496 (52 - m.log2) = (((4503599627370496 + m) * 2 ^ (52 - m.log2) : Nat) : Int) := by
    simp only [Ieee.signed, Nat.shiftLeft_eq, Bool.false_eq_true, if_false, Nat.pow_zero, Nat.mul_one]
    rw [Nat.add_mul, Int.natCast_add, Int.add_comm]
  rw [e6]
  have hp := Nat.two_pow_pos (52 - m.log2)
  have hne : (4503599627370496 + m) * 2 ^ (52 - m.log2) ≠ 0 := Nat.mul_ne_zero (by omega) (by omega)
  have e7 : (if (((4503599627370496 + m) * 2 ^ (52 - m.log2) : Nat) : Int) = 0 then (false && false) else decide ((((4503599627370496 + m) * 2 ^ (52 - m.log2) : Nat) : Int) < 0)) = false := by
    rw [if_neg (by exact_mod_cast hne)]
    exact decide_eq_false (by exact Int.not_lt.2 (Int.natCast_nonneg _))
  rw [e7, Int.natAbs_natCast]
  exact nearest_wd (q := 1022) (m := 4503599627370496 + m) (s := 52 - m.log2) ⟨by omega, by omega, .inr (by omega)⟩ (by omega) (by omega)

/-- Halving below the least exponent. -/
theorem half_sub {x : Nat} (h0 : x ≠ 0) (h1 : x < 4503599627370496) : double.div (wd 0 (2 * x)) 4611686018427387904 = some (wd 0 x) := by
  unfold Format.div
  rw [two_wd, read_wd (q := 0) ⟨by omega, by omega, .inl rfl⟩, read_wd can_two, dFrac]
  have hl2 : (4503599627370496 : Nat).log2 = 52 := (Nat.log2_eq_iff (by omega)).2 ⟨by omega, by omega⟩
  have hl : (2 * x).log2 ≤ 52 := by have := (Nat.log2_lt (show 2 * x ≠ 0 by omega) (k := 53)).2 (by omega); omega
  simp only [Datum.quotient]
  rw [if_neg (by omega), hl2]
  simp only [Option.map_some, Format.write]
  refine congrArg some ?_
  generalize hs : (2 * x).log2 = l at *
  have e0 : 52 + 2 + 52 - l = 52 + (54 - l) := by omega
  have e1 : (2 * x) <<< (52 + 2 + 52 - l) = (2 * x * 2 ^ (54 - l)) * 4503599627370496 := by
    rw [e0, Nat.shiftLeft_eq, Nat.pow_add, Nat.mul_comm (2 ^ 52), ← Nat.mul_assoc]
  rw [e1, Nat.mul_div_cancel _ (by omega), Nat.mul_mod_left]
  have := nearest_wd (q := 0) (m := x) (s := 56 - l) (t := ((0 : Nat) : Int) - 1074 - (((1023 : Nat) : Int) - 1074) - ((52 + 2 + 52 - l : Nat) : Int) - 1) ⟨by omega, by omega, .inl rfl⟩ h0 (by omega)
  have e2 : x * 2 ^ (56 - l) = 2 * (2 * x * 2 ^ (54 - l)) + (0 != 0).toNat := by
    rw [show 56 - l = (54 - l) + 2 by omega, Nat.pow_add]
    simp
    rw [show x * (2 ^ (54 - l) * 4) = 4 * (x * 2 ^ (54 - l)) by rw [← Nat.mul_assoc, Nat.mul_comm], show 2 * x * 2 ^ (54 - l) = 2 * (x * 2 ^ (54 - l)) by rw [Nat.mul_assoc]]
    omega
  rw [e2] at this
  exact this

/-- Halving on the way to a number below the least exponent: back along the way of Bits. -/
theorem sub_back {m k : Nat} (h0 : m ≠ 0) (h1 : m < 4503599627370496) (hk : k < 1022) : double.div (wd (sq m (k + 1)) (sm m (k + 1))) 4611686018427387904 = some (wd (sq m k) (sm m k)) := by
  have hL := log2_sub h0 h1
  by_cases c : k < 52 - m.log2
  · have hs := sm_small h0 h1 c
    have e1 : sq m k = 0 := by unfold sq; omega
    have e2 : sq m (k + 1) = 0 := by unfold sq; omega
    have e3 : sm m (k + 1) = 2 * sm m k := by
      rw [sm_low (by omega), sm_low (by omega), Nat.pow_succ, ← Nat.mul_assoc, Nat.mul_comm]
    rw [e1, e2, e3]
    exact half_sub hs.2 hs.1
  · have e1 : sq m (k + 1) - 1 = sq m k := by unfold sq; omega
    have e2 : sm m (k + 1) = sm m k := by rw [sm_top (by omega), sm_top (by omega)]
    have := div_two (q := sq m (k + 1)) (m := sm m (k + 1)) (sub_can h0 h1 (by omega)) (by rw [sm_top (by omega)]; exact up_ge h0 (by omega)) (by unfold sq; omega)
    rw [e1, e2] at this
    rw [e2]
    exact this

theorem neg_up (y : Nat) (h : y < 9223372036854775808) : Op.negFloat .f64 y = 9223372036854775808 + y := by
  have h1 := neg_xor y h
  have h2 : Op.negFloat .f64 (Op.negFloat .f64 (9223372036854775808 + y)) = 9223372036854775808 + y := by
    unfold Op.negFloat
    rw [Nat.xor_assoc, Nat.xor_self, Nat.xor_zero]
  rw [h1] at h2
  exact h2
end Go.Proofs.YtblgipjipeaemaaGreatDoor
