/- More plain facts on IEEE 754 doubles: what stands behind the point taken back as a whole number; 1 taken away. -/
import Derived.Test.YtehgibgeghhloaaGreatDoorDblJ
import Derived.Laws.Externs
import Derived.WalkLawsBesides
namespace Go.Proofs.YtehgibgeghhloaaGreatDoor
open Ieee
set_option maxRecDepth 8000

theorem up_lt {f : Nat} (hL : f.log2 ≤ 52) : f * 2 ^ (52 - f.log2) < 9007199254740992 := by
  have h1 : f < 2 ^ (f.log2 + 1) := Nat.lt_log2_self
  have h2 : f * 2 ^ (52 - f.log2) < 2 ^ (f.log2 + 1) * 2 ^ (52 - f.log2) := Nat.mul_lt_mul_of_pos_right h1 (Nat.two_pow_pos _)
  rw [← Nat.pow_add, show f.log2 + 1 + (52 - f.log2) = 53 by omega] at h2
  have : (2 : Nat) ^ 53 = 9007199254740992 := by decide
  omega

theorem up_ge {f : Nat} (h0 : f ≠ 0) (hL : f.log2 ≤ 52) : 4503599627370496 ≤ f * 2 ^ (52 - f.log2) := by
  have h1 : 2 ^ f.log2 ≤ f := Nat.log2_self_le h0
  have h2 : 2 ^ f.log2 * 2 ^ (52 - f.log2) ≤ f * 2 ^ (52 - f.log2) := Nat.mul_le_mul_right _ h1
  rw [← Nat.pow_add, show f.log2 + (52 - f.log2) = 52 by omega] at h2
  have : (2 : Nat) ^ 52 = 4503599627370496 := by decide
  omega

/-- A whole number below 2^53 at a place t from -1074 on, written: its digits moved up to the first. -/
theorem nearest_up {f : Nat} {t : Int} (h0 : f ≠ 0) (h1 : f < 9007199254740992) (ht : -1022 ≤ t + f.log2) (ht' : t + f.log2 ≤ 1023) : double.nearest false f t = wd (t + f.log2 + 1022).toNat (f * 2 ^ (52 - f.log2)) := by
  have hL : f.log2 ≤ 52 := by have := (Nat.log2_lt h0 (k := 53)).2 (by omega); omega
  unfold Format.nearest
  rw [if_neg h0]
  simp only [dLeast, dFrac, dBin, dInf]
  have hl : max (t + (f.log2 : Int) - ((52 : Nat) : Int)) (-1074) = t + (f.log2 : Int) - 52 := by rw [Int.max_def]; split <;> omega
  rw [hl]
  have e1 : (t - (t + (f.log2 : Int) - 52)).toNat = 52 - f.log2 := by omega
  have e2 : (t + (f.log2 : Int) - 52 - t).toNat = 0 := by omega
  have e3 : (t + (f.log2 : Int) - 52 - -1074).toNat = (t + f.log2 + 1022).toNat := by rw [show t + (f.log2 : Int) - 52 - -1074 = t + f.log2 + 1022 by omega]
  rw [e1, e2, e3, Nat.shiftLeft_eq]
  have hne : f * 2 ^ (52 - f.log2) ≠ 0 := Nat.mul_ne_zero h0 (by have := Nat.two_pow_pos (52 - f.log2); omega)
  have c := cut_exact (f * 2 ^ (52 - f.log2)) 0 hne
  rw [Nat.pow_zero, Nat.mul_one] at c
  rw [c]
  have hlt := up_lt hL
  have hQ : (t + f.log2 + 1022).toNat ≤ 2045 := by omega
  generalize (t + f.log2 + 1022).toNat = Q at *
  generalize f * 2 ^ (52 - f.log2) = M at *
  have e4 : Q * 4503599627370496 + M ≤ 9218868437227405312 := by omega
  rw [Nat.min_eq_left e4]
  rfl

theorem scale_mul (L M : Nat) (hL : L ≤ 51) (hr : M < 9007199254740992) (hge : 4503599627370496 ≤ M) : double.mul (wd (970 + L) M) 4841369599423283200 = some (wd (1022 + L) M) := by
  unfold Format.mul
  rw [big_wd, read_wd ⟨by omega, hr, .inr hge⟩, read_wd can_big]
  have e : (4503599627370496 : Nat) = 2 ^ 52 := by decide
  simp only [Datum.product, Option.map_some, Format.write]
  refine congrArg some ?_
  have := nearest_wd (q := 1022 + L) (m := M) (s := 52) (t := ((970 + L : Nat) : Int) - 1074 + (((1074 : Nat) : Int) - 1074)) ⟨by omega, hr, .inr hge⟩ (by omega) (by omega)
  rw [← e] at this
  exact this

theorem cut_zero (f s : Nat) (h0 : f ≠ 0) : Toward.zero.cut false (f * 2 ^ s) s = f := by
  unfold Toward.cut
  simp only
  have e3 : min s ((f * 2 ^ s).log2 + 2) = s := by rw [log2_shift f _ h0]; omega
  rw [e3, Nat.one_shiftLeft, Nat.mul_div_cancel _ (Nat.two_pow_pos _)]
  simp

theorem decode_f64 (x : Nat) : FloatKind.decode .f64 x = double.read x := rfl
theorem toInt_at (m s : Nat) (p : Int) (h0 : m ≠ 0) (hp : p = -(s : Int)) : (Datum.number false (m * 2 ^ s) p).toInt .zero = some (m : Int) := by
  subst hp
  unfold Datum.toInt Datum.integral
  simp only
  have e1 : (-(s : Int)).toNat = 0 := by omega
  have e2 : (-(-(s : Int))).toNat = s := by omega
  rw [e1, e2, Nat.shiftLeft_zero, cut_zero m _ h0]
  simp [Ieee.signed]
theorem fits_u64 (f : Nat) (h : f < 4503599627370496) : IntKind.u64.min ≤ (f : Int) ∧ (f : Int) ≤ IntKind.u64.max := by
  have a1 : IntKind.u64.min = 0 := by decide
  have a2 : IntKind.u64.max = 18446744073709551615 := by decide
  rw [a1, a2]; omega
theorem toIntVal_of (x f : Nat) (d : Datum) (hd : double.read x = d) (ht : d.toInt .zero = some (f : Int)) (h : f < 4503599627370496) : floatToIntVal .f64 x .u64 = some (f : Int) := by
  unfold floatToIntVal
  rw [decode_f64, hd, ht]
  simp only
  rw [if_pos (fits_u64 f h)]

theorem scale_int (f L : Nat) (h0 : f ≠ 0) (h1 : f < 4503599627370496) (hL : L ≤ 51) (hr : f * 2 ^ (52 - L) < 9007199254740992) (hge : 4503599627370496 ≤ f * 2 ^ (52 - L)) :
    floatToIntVal .f64 (wd (1022 + L) (f * 2 ^ (52 - L))) .u64 = some (f : Int) := by
  refine toIntVal_of _ f _ (read_wd ⟨by omega, hr, .inr hge⟩) ?_ h1
  exact toInt_at f (52 - L) _ h0 (by omega)

/-- What stands behind the point, taken back: F * 2^-52, times 2^52, as a whole number. -/
theorem scale_back {f : Nat} (h0 : f ≠ 0) (h1 : f < 4503599627370496) :
    double.mul (wd (970 + f.log2) (f * 2 ^ (52 - f.log2))) 4841369599423283200 = some (wd (1022 + f.log2) (f * 2 ^ (52 - f.log2))) ∧ floatToIntVal .f64 (wd (1022 + f.log2) (f * 2 ^ (52 - f.log2))) .u64 = some (f : Int) := by
  have hL : f.log2 ≤ 51 := by have := (Nat.log2_lt h0 (k := 52)).2 (by omega); omega
  have hr := up_lt (f := f) (by omega)
  have hge := up_ge h0 (by omega)
  exact ⟨scale_mul _ _ hL hr hge, scale_int f _ h0 h1 hL hr hge⟩

/-- v - 1 of a number from 1 to 2. -/
theorem sub_one {m : Nat} (h0 : 4503599627370496 < m) (h1 : m < 9007199254740992) :
    double.sub (wd 1022 m) 4607182418800017408 = some (wd (970 + (m - 4503599627370496).log2) ((m - 4503599627370496) * 2 ^ (52 - (m - 4503599627370496).log2))) := by
  unfold Format.sub
  rw [one_wd, read_wd ⟨by omega, h1, .inr (by omega)⟩, read_wd can_one]
  simp only [Datum.opposite, Datum.sum, Option.map_some, Format.write]
  refine congrArg some ?_
  have e0 : (((1022 : Nat) : Int) - 1074 - min (((1022 : Nat) : Int) - 1074) (((1022 : Nat) : Int) - 1074)).toNat = 0 := by omega
  rw [e0]
  have e1 : Ieee.signed false m 0 + Ieee.signed (!false) 4503599627370496 0 = ((m - 4503599627370496 : Nat) : Int) := by
    simp [Ieee.signed]; omega
  rw [e1]
  have e2 : (((m - 4503599627370496 : Nat) : Int)).natAbs = m - 4503599627370496 := by omega
  have e3 : min (((1022 : Nat) : Int) - 1074) (((1022 : Nat) : Int) - 1074) = -52 := by omega
  have e4 : (if ((m - 4503599627370496 : Nat) : Int) = 0 then (false && !false) else decide (((m - 4503599627370496 : Nat) : Int) < 0)) = false := by
    rw [if_neg (by omega)]
    simp
  rw [e2, e3, e4]
  have hf : m - 4503599627370496 ≠ 0 := by omega
  have hl : (m - 4503599627370496).log2 ≤ 51 := by have := (Nat.log2_lt hf (k := 52)).2 (by omega); omega
  rw [nearest_up hf (by omega) (by omega) (by omega), show (-52 + ((m - 4503599627370496).log2 : Int) + 1022).toNat = 970 + (m - 4503599627370496).log2 by omega]

theorem sub_one_nought : double.sub (wd 1022 4503599627370496) 4607182418800017408 = some 0 := by decide
theorem mul_nought : double.mul 0 4841369599423283200 = some 0 := by decide
theorem int_nought : floatToIntVal .f64 0 .u64 = some 0 := by decide

end Go.Proofs.YtehgibgeghhloaaGreatDoor

/- A float's bits with one form for what is not a number; what is a number is like itself. -/
namespace Go.Proofs.YtehgibgeghhloaaGreatDoor
open Ieee
set_option maxRecDepth 8000

def bitsOf (x : Nat) : Nat := if 9218868437227405312 < x % 9223372036854775808 then 9221120237041090560 else x

theorem nan_order (x : Nat) (h : 9218868437227405312 < x % 9223372036854775808) : double.order x x = none := by
  have : ∃ s f, double.read x = .nan s f := by
    unfold Format.read
    simp only [dSign, dBin, dInf]
    rw [if_neg (by omega), if_neg (by omega), if_neg (by omega)]
    exact ⟨_, _, rfl⟩
  obtain ⟨s, f, e⟩ := this
  unfold Format.order
  rw [e]
  rfl

theorem num_order (x : Nat) (h : ¬ 9218868437227405312 < x % 9223372036854775808) : double.order x x = some .eq := by
  have hn : ∀ s f, double.read x ≠ .nan s f := by
    intro s f
    unfold Format.read
    simp only [dSign, dBin, dInf]
    by_cases c1 : x % 9223372036854775808 < 4503599627370496
    · rw [if_pos c1]; exact fun e => by cases e
    · rw [if_neg c1]
      by_cases c2 : x % 9223372036854775808 < 9218868437227405312
      · rw [if_pos c2]; exact fun e => by cases e
      · rw [if_neg c2, if_pos (by omega)]; exact fun e => by cases e
  unfold Format.order
  cases e : double.read x with
  | number s m p => simp [Datum.order, compare, compareOfLessAndEq]
  | infinity s => cases s <;> rfl
  | nan s f => exact absurd e (hn s f)

theorem bitsOf_lt (x : Nat) (h : x < 18446744073709551616) : bitsOf x < 18446744073709551616 := by unfold bitsOf; split <;> omega

end Go.Proofs.YtehgibgeghhloaaGreatDoor

/- What the rest of the Reader's calls do: Bool, Int8, Uint32, Int64, Float, Buffer, Raw, Fail and End. -/
namespace Go.Proofs.YtehgibgeghhloaaGreatDoor
open Go.RowKit
set_option maxRecDepth 8000

section
variable (g : Nat) (v : Value) (xs : List Int) (f : Int) (w : World)

set_option maxHeartbeats 400000 in
theorem rUint32_any (h : IsR w g v xs f) (hb : Byts xs) :
    Calls Tryz.prog 60 #[.pointer (some ⟨g, 0, none⟩)] w fun e w' => e = .returned (.int .u32 (rdNum 4 xs f).out) ∧ ReadsTo w g v (rdNum 4 xs f) w' := by
  have hbd := rdNum_bd 4 xs f hb
  have h4 : (256 : Int) ^ 4 = 4294967296 := by decide
  rw [h4] at hbd
  have b1 := hbd.1
  have b2 := hbd.2
  have H : Hid (IsR w g v xs f ∧ Byts xs) := ⟨h, hb⟩
  clear h hb h4 hbd
  go_enter Tryz.func60, Tryz.ntmps60
  go_wp2_with fail
  refine (rNumber_any g v xs f 4 _ H.out.1 H.out.2 (by omega)).mono ?_
  rintro e w1 ⟨rfl, hr⟩
  have HR : Hid (ReadsTo w g v (rdNum 4 xs f) w1) := hr
  clear hr
  go_wp2
  go_ret
  exact ⟨rfl, HR.out⟩

set_option maxHeartbeats 400000 in
theorem rInt64_any (h : IsR w g v xs f) (hb : Byts xs) :
    Calls Tryz.prog 62 #[.pointer (some ⟨g, 0, none⟩)] w fun e w' => e = .returned (.int .i64 (wrap64 (rdNum 8 xs f).out)) ∧ ReadsTo w g v (rdNum 8 xs f) w' := by
  have H : Hid (IsR w g v xs f ∧ Byts xs) := ⟨h, hb⟩
  clear h hb
  go_enter Tryz.func62, Tryz.ntmps62
  go_wp2_with fail
  refine (rNumber_any g v xs f 8 _ H.out.1 H.out.2 (by omega)).mono ?_
  rintro e w1 ⟨rfl, hr⟩
  have HR : Hid (ReadsTo w g v (rdNum 8 xs f) w1) := hr
  clear hr
  go_wp2
  go_ret
  exact ⟨rfl, HR.out⟩

set_option maxHeartbeats 400000 in
theorem rInt8_any (h : IsR w g v xs f) (hb : Byts xs) :
    Calls Tryz.prog 61 #[.pointer (some ⟨g, 0, none⟩)] w fun e w' => e = .returned (.int .i8 (IntKind.i8.wrap (rdNum 1 xs f).out)) ∧ ReadsTo w g v (rdNum 1 xs f) w' := by
  have H : Hid (IsR w g v xs f ∧ Byts xs) := ⟨h, hb⟩
  clear h hb
  go_enter Tryz.func61, Tryz.ntmps61
  go_wp2_with fail
  refine (rNumber_any g v xs f 1 _ H.out.1 H.out.2 (by omega)).mono ?_
  rintro e w1 ⟨rfl, hr⟩
  have HR : Hid (ReadsTo w g v (rdNum 1 xs f) w1) := hr
  clear hr
  go_wp2
  go_ret
  exact ⟨rfl, HR.out⟩

/-- A truth: by the document. -/
def rdBool (xs : List Int) (f : Int) : Rd :=
  if f ≠ 0 then ⟨0, xs, f⟩ else if xs.length < 1 then ⟨0, xs, 10⟩ else if 1 < xs.getD 0 0 then ⟨0, xs, 12⟩ else ⟨xs.getD 0 0, xs.drop 1, 0⟩

set_option maxHeartbeats 400000 in
theorem rBool_any (h : IsR w g v xs f) (hb : Byts xs) :
    Calls Tryz.prog 129 #[.pointer (some ⟨g, 0, none⟩)] w fun e w' => e = .returned (.bool ((rdBool xs f).out == 1)) ∧ ReadsTo w g v (rdBool xs f) w' := by
  by_cases hf : f = 0
  · subst hf
    by_cases hl : xs.length < 1
    · have e1 : rdBool xs 0 = ⟨0, xs, 10⟩ := by unfold rdBool; rw [if_neg (by simp), if_pos hl]
      rw [e1]
      have H : Hid (IsR w g v xs 0) := h
      clear h e1
      go_enter Tryz.func129, Tryz.ntmps129
      go_wp2_with fail
      refine (rPeek_short g v xs 1 _ H.out hl).mono ?_
      rintro e w1 ⟨rfl, rfl⟩
      go_wp2
      go_ret
      exact ⟨rfl, ReadsTo.fail H.out 10⟩
    · have hx := hb.nth 0
      have h2 := h.c2
      have h3 := h.fr 2
      by_cases hc : 1 < xs.getD 0 0
      · have e1 : rdBool xs 0 = ⟨0, xs, 12⟩ := by unfold rdBool; rw [if_neg (by simp), if_neg hl, if_pos hc]
        rw [e1]
        have H : Hid (IsR w g v xs 0) := h
        clear h e1
        go_enter Tryz.func129, Tryz.ntmps129
        go_wp2_with fail
        refine (rPeek_ok g v xs 1 _ H.out (by omega)).mono ?_
        rintro e w1 ⟨ao, rfl, hs, _, rfl⟩
        obtain ⟨b, off, rfl, hcell⟩ := sees_first hs (by omega)
        clear hs
        generalize xs.getD 0 0 = x at *
        go_wp2
        go_ret
        exact ⟨rfl, ReadsTo.fail H.out 12⟩
      · have e1 : rdBool xs 0 = ⟨xs.getD 0 0, xs.drop 1, 0⟩ := by unfold rdBool; rw [if_neg (by simp), if_neg hl, if_neg hc]
        rw [e1]
        have H : Hid (IsR w g v xs 0) := h
        clear h e1 h2 h3
        go_enter Tryz.func129, Tryz.ntmps129
        go_wp2_with fail
        refine (rPeek_ok g v xs 1 _ H.out (by omega)).mono ?_
        rintro e w1 ⟨ao, rfl, hs, hv, rfl⟩
        obtain ⟨b, off, rfl, hcell⟩ := sees_first hs (by omega)
        obtain ⟨l, c, hvv⟩ := hv
        have hbg : b ≠ g := by
          have := H.out.apart (by intro e; rw [e] at hl; simp at hl)
          rw [hvv] at this
          intro e
          exact this (by simp [Value.ownBlock, e])
        have HV : Hid (v = .slice (some ⟨b, off, none⟩) l c) := hvv
        clear hs hvv
        generalize hxx : xs.getD 0 0 = x at *
        have HXX : Hid (xs.getD 0 0 = x) := hxx
        clear hxx
        go_wp2_with fail
        refine (rSkip_ok g v xs 1 0 _ H.out (by omega)).mono ?_
        rintro e w2 ⟨rfl, hw2⟩
        have hcell2 : w2.cell? ⟨b, off, none⟩ = some (.int .u8 x) := by
          rw [hw2, World.cell?_of_block (w := w1) (Below.heap_setCell w1 _ _ b hbg)]; exact hcell
        have HRR : Hid (ReadsTo w1 g v ⟨x, xs.drop 1, 0⟩ w2) := by rw [hw2]; exact ReadsTo.skip H.out (by omega)
        clear hw2 hcell
        go_wp2
        go_ret
        have hxx := HXX.out
        subst hxx
        exact ⟨rfl, HRR.out⟩
  · have e1 : rdBool xs f = ⟨0, xs, f⟩ := by unfold rdBool; rw [if_pos hf]
    rw [e1]
    have H : Hid (IsR w g v xs f ∧ f ≠ 0) := ⟨h, hf⟩
    clear h e1 hf
    go_enter Tryz.func129, Tryz.ntmps129
    go_wp2_with fail
    refine (rPeek_fault g v xs 1 f _ H.out.1 H.out.2).mono ?_
    rintro e w1 ⟨rfl, rfl⟩
    go_wp2
    go_ret
    exact ⟨rfl, ReadsTo.stay H.out.1⟩

theorem rFail_any (e0 : Int) (h : IsR w g v xs f) :
    Calls Tryz.prog 123 #[.pointer (some ⟨g, 0, none⟩), .int .i64 e0] w fun e w' => e = .returned (.tuple #[]) ∧ ReadsTo w g v ⟨0, xs, if f = 0 then e0 else f⟩ w' := by
  have h2 := h.c2
  have h3 := h.fr 2
  have H : Hid (IsR w g v xs f) := h
  clear h
  by_cases hf : f = 0
  · subst hf
    rw [if_pos rfl]
    go_enter Tryz.func123, Tryz.ntmps123
    go_wp2_with fail
    refine (rReads_any g v xs 0 _ H.out).mono ?_
    rintro e w1 ⟨rfl, rfl⟩
    go_wp2
    go_end0
    exact ⟨rfl, ReadsTo.fail H.out e0⟩
  · rw [if_neg hf]
    have hf' : (f == 0) = false := by simp [hf]
    clear hf
    go_enter Tryz.func123, Tryz.ntmps123
    go_wp2_with fail
    refine (rReads_any g v xs f _ H.out).mono ?_
    rintro e w1 ⟨rfl, rfl⟩
    go_wp2
    go_end0
    exact ⟨rfl, ReadsTo.stay H.out⟩

theorem rEnd_any (h : IsR w g v xs f) :
    Calls Tryz.prog 64 #[.pointer (some ⟨g, 0, none⟩)] w fun e w' => e = .returned (.int .i64 (if f ≠ 0 then f else if xs = [] then 0 else 13)) ∧ w' = w := by
  have h1 := h.c1
  have H : Hid (IsR w g v xs f) := h
  obtain ⟨ao, cap, rfl, q1, q2, _, _⟩ := h.2
  unfold maxLen at q2
  clear h
  by_cases hf : f = 0
  · subst hf
    rw [if_neg (by simp)]
    by_cases hx : xs = []
    · rw [if_pos hx]
      have hl : xs.length = 0 := by rw [hx]; rfl
      clear hx
      have hl' : ¬ (0 : Int) < (xs.length : Int) := by omega
      have HL : Hid (xs.length = 0) := hl
      clear hl
      go_enter Tryz.func64, Tryz.ntmps64
      go_wp2_with fail
      refine (rErr_any g _ xs 0 _ H.out).mono ?_
      rintro e w1 ⟨rfl, rfl⟩
      go_wp2
      go_ret
      exact ⟨rfl, rfl⟩
    · rw [if_neg hx]
      have hl : 0 < xs.length := List.length_pos_iff.2 hx
      clear hx
      go_enter Tryz.func64, Tryz.ntmps64
      go_wp2_with fail
      refine (rErr_any g _ xs 0 _ H.out).mono ?_
      rintro e w1 ⟨rfl, rfl⟩
      go_wp2
      go_ret
      exact ⟨rfl, rfl⟩
  · rw [if_pos hf]
    have hf' : (f != 0) = true := by simp [hf]
    clear hf
    go_enter Tryz.func64, Tryz.ntmps64
    go_wp2_with fail
    refine (rErr_any g _ xs f _ H.out).mono ?_
    rintro e w1 ⟨rfl, rfl⟩
    go_wp2
    go_ret
    exact ⟨rfl, rfl⟩

/-- Raw bytes, a buffer: by the document: what is answered, what is left, the fault. -/
def rdRaw (n : Int) (xs : List Int) (f : Int) : List Int × Rd :=
  if f ≠ 0 then ([], ⟨0, xs, f⟩) else if n < 0 then ([], ⟨0, xs, 11⟩) else if (xs.length : Int) < n then ([], ⟨0, xs, 10⟩) else (xs.take n.toNat, ⟨0, xs.drop n.toNat, 0⟩)

/-- A slice that a Reader answers: it leads to the bytes; it has no spare room; it lies in the Reader's own row, or nowhere. -/
def Cut (w : World) (v u : Value) (ys : List Int) : Prop := Sees w u ys ∧ (∃ ao, u = .slice ao ys.length ys.length) ∧ ∀ k, u.ownBlock = some k → v.ownBlock = some k

theorem cut_nil (w : World) (v : Value) : Cut w v (.slice none 0 0) [] := ⟨sees_nil w, ⟨none, rfl⟩, fun k hk => by simp [Value.ownBlock] at hk⟩

set_option maxHeartbeats 400000 in
theorem rTake_any (n : Int) (h : IsR w g v xs f) :
    Calls Tryz.prog 145 #[.pointer (some ⟨g, 0, none⟩), .int .i64 n] w fun e w' => ∃ u, e = .returned u ∧ Cut w' v u (rdRaw n xs f).1 ∧ ReadsTo w g v (rdRaw n xs f).2 w' := by
  by_cases hf : f = 0
  · subst hf
    by_cases hn : n < 0
    · have e1 : rdRaw n xs 0 = ([], ⟨0, xs, 11⟩) := by unfold rdRaw; rw [if_neg (by simp), if_pos hn]
      rw [e1]
      refine (rTake_neg g v xs n w h hn).mono ?_
      rintro e w1 ⟨rfl, rfl⟩
      exact ⟨_, rfl, cut_nil _ _, ReadsTo.fail h 11⟩
    · obtain ⟨k, rfl⟩ := Int.eq_ofNat_of_zero_le (show 0 ≤ n by omega)
      by_cases hl : (xs.length : Int) < k
      · have e1 : rdRaw k xs 0 = ([], ⟨0, xs, 10⟩) := by unfold rdRaw; rw [if_neg (by simp), if_neg hn, if_pos hl]
        rw [e1]
        refine (rTake_short g v xs k w h (by omega)).mono ?_
        rintro e w1 ⟨rfl, rfl⟩
        exact ⟨_, rfl, cut_nil _ _, ReadsTo.fail h 10⟩
      · have e1 : rdRaw k xs 0 = (xs.take k, ⟨0, xs.drop k, 0⟩) := by unfold rdRaw; rw [if_neg (by simp), if_neg hn, if_neg hl, Int.toNat_natCast]
        rw [e1]
        refine (rTake_ok g v xs k w h (by omega)).mono ?_
        rintro e w1 ⟨ao, rfl, hs, ⟨l, c, hv⟩, rfl⟩
        have hlen : (xs.take k).length = k := by simp; omega
        refine ⟨_, rfl, ⟨hs.set _ _ (fun hx e => ?_), ⟨ao, by rw [hlen]⟩, fun j hj => ?_⟩, ReadsTo.skip h (by omega)⟩
        · have := h.apart (fun e2 => hx (by rw [e2]; simp))
          rw [hv] at this
          cases ao with
          | none => simp [Value.ownBlock] at e
          | some a => exact this (by simpa [Value.ownBlock] using e)
        · rw [hv]
          cases ao with
          | none => simp [Value.ownBlock] at hj
          | some a => simpa [Value.ownBlock] using hj
  · have e1 : rdRaw n xs f = ([], ⟨0, xs, f⟩) := by unfold rdRaw; rw [if_pos hf]
    rw [e1]
    refine (rTake_fault g v xs n f w h hf).mono ?_
    rintro e w1 ⟨rfl, rfl⟩
    exact ⟨_, rfl, cut_nil _ _, ReadsTo.stay h⟩

/-- A buffer, a text: by the document. -/
def rdBuf (most : Int) (xs : List Int) (f : Int) : List Int × Rd :=
  if f ≠ 0 then ([], ⟨0, xs, f⟩) else if xs.length < 4 then ([], ⟨0, xs, 10⟩) else if ahead xs < 0 ∨ most < ahead xs then ([], ⟨0, xs, 11⟩)
  else if (xs.length : Int) - 4 < ahead xs then ([], ⟨0, xs, 10⟩) else ((xs.drop 4).take (ahead xs).toNat, ⟨0, (xs.drop 4).drop (ahead xs).toNat, 0⟩)

set_option maxHeartbeats 400000 in
theorem rSized_any (most : Int) (h : IsR w g v xs f) (hb : Byts xs) :
    Calls Tryz.prog 147 #[.pointer (some ⟨g, 0, none⟩), .int .i64 most] w fun e w' => ∃ u, e = .returned u ∧ Cut w' v u (rdBuf most xs f).1 ∧ ReadsTo w g v (rdBuf most xs f).2 w' := by
  have H : Hid (IsR w g v xs f ∧ Byts xs) := ⟨h, hb⟩
  clear h hb
  by_cases hf : f = 0
  · subst hf
    by_cases hl : xs.length < 4
    · have e1 : rdBuf most xs 0 = ([], ⟨0, xs, 10⟩) := by unfold rdBuf; rw [if_neg (by simp), if_pos hl]
      rw [e1]
      clear e1
      go_enter Tryz.func147, Tryz.ntmps147
      go_wp2_with fail
      refine (rSize_short g v xs most _ H.out.1 hl).mono ?_
      rintro e w1 ⟨rfl, rfl⟩
      go_wp2
      go_ret
      exact ⟨_, rfl, cut_nil _ _, ReadsTo.fail H.out.1 10⟩
    · by_cases hw : ahead xs < 0 ∨ most < ahead xs
      · have e1 : rdBuf most xs 0 = ([], ⟨0, xs, 11⟩) := by unfold rdBuf; rw [if_neg (by simp), if_neg hl, if_pos hw]
        rw [e1]
        have HW : Hid _ := hw
        clear e1 hw
        go_enter Tryz.func147, Tryz.ntmps147
        go_wp2_with fail
        refine (rSize_wide g v xs most _ H.out.1 H.out.2 (by omega) HW.out).mono ?_
        rintro e w1 ⟨rfl, rfl⟩
        go_wp2
        go_ret
        exact ⟨_, rfl, cut_nil _ _, ReadsTo.fail H.out.1 11⟩
      · have hn : 0 ≤ ahead xs := by omega
        have hm : ahead xs ≤ most := by omega
        by_cases ho : (xs.length : Int) - 4 < ahead xs
        · have e1 : rdBuf most xs 0 = ([], ⟨0, xs, 10⟩) := by unfold rdBuf; rw [if_neg (by simp), if_neg hl, if_neg hw, if_pos ho]
          rw [e1]
          clear e1 hw
          go_enter Tryz.func147, Tryz.ntmps147
          go_wp2_with fail
          refine (rSize_over g v xs most _ H.out.1 H.out.2 (by omega) hn hm ho).mono ?_
          rintro e w1 ⟨rfl, rfl⟩
          go_wp2
          go_ret
          exact ⟨_, rfl, cut_nil _ _, ReadsTo.fail H.out.1 10⟩
        · have e1 : rdBuf most xs 0 = ((xs.drop 4).take (ahead xs).toNat, ⟨0, (xs.drop 4).drop (ahead xs).toNat, 0⟩) := by unfold rdBuf; rw [if_neg (by simp), if_neg hl, if_neg hw, if_neg ho]
          rw [e1]
          clear e1 hw
          go_enter Tryz.func147, Tryz.ntmps147
          go_wp2_with fail
          refine (rSize_ok g v xs most _ H.out.1 H.out.2 (by omega) hn hm (by omega)).mono ?_
          rintro e w1 ⟨rfl, rfl⟩
          go_wp2_with fail
          refine (rSkip_ok g v xs 4 0 _ H.out.1 (by omega)).mono ?_
          rintro e w2 ⟨rfl, hw2⟩
          have HR : Hid (IsR w2 g (cutFrom v 4) (xs.drop 4) 0 ∧ Kept w1 w2 (· = g) ∧ ∀ k, (cutFrom v 4).ownBlock = some k → v.ownBlock = some k) := by
            rw [hw2]
            refine ⟨H.out.1.skip (by omega), (Kept.refl w1 _).setCell _ _ (fun _ => rfl), fun k hk => ?_⟩
            obtain ⟨ao, cap, rfl, _⟩ := H.out.1.2
            exact cutFrom_block hk
          have e2 : rdRaw (ahead xs) (xs.drop 4) 0 = ((xs.drop 4).take (ahead xs).toNat, ⟨0, (xs.drop 4).drop (ahead xs).toNat, 0⟩) := by
            unfold rdRaw
            rw [if_neg (by simp), if_neg (by omega), if_neg (by rw [List.length_drop]; omega)]
          have HE2 : Hid _ := e2
          clear hw2 e2
          go_wp2_with fail
          refine (rTake_any g _ (xs.drop 4) 0 _ (ahead xs) HR.out.1).mono ?_
          rintro e w3 ⟨u, rfl, hc, ht⟩
          rw [HE2.out] at hc ht
          have HC : Hid (Cut w3 v u ((xs.drop 4).take (ahead xs).toNat) ∧ ReadsTo w1 g v ⟨0, (xs.drop 4).drop (ahead xs).toNat, 0⟩ w3) := by
            refine ⟨⟨hc.1, hc.2.1, fun k hk => HR.out.2.2 k (hc.2.2 k hk)⟩, ?_⟩
            obtain ⟨v', t1, t2, t3⟩ := ht
            exact ⟨v', t1, fun k hk => HR.out.2.2 k (t2 k hk), HR.out.2.1.trans t3 (fun _ _ h => h)⟩
          clear hc ht
          go_wp2
          go_ret
          exact ⟨_, rfl, HC.out⟩
  · have e1 : rdBuf most xs f = ([], ⟨0, xs, f⟩) := by unfold rdBuf; rw [if_pos hf]
    rw [e1]
    have HF : Hid (f ≠ 0) := hf
    clear e1 hf
    go_enter Tryz.func147, Tryz.ntmps147
    go_wp2_with fail
    refine (rSize_fault g v xs most _ f H.out.1 HF.out).mono ?_
    rintro e w1 ⟨rfl, rfl⟩
    go_wp2
    go_ret
    exact ⟨_, rfl, cut_nil _ _, ReadsTo.stay H.out.1⟩
end
end Go.Proofs.YtehgibgeghhloaaGreatDoor
