/- More plain facts on IEEE 754 doubles: what stands behind the point taken back as a whole number; 1 taken away. -/
import Derived.Test.YtobnggkgpenmfaaGreatDoorDblJ
import Derived.Laws.IdiomStrings
import Derived.Laws.Externs
import Derived.WalkLawsBesides
import Derived.Test.YtobnggkgpenmfaaGreatDoorProg
import Derived.Laws.StructEq
import Derived.Lib.LaidTab
import Derived.Deep.RegionHeld
import Derived.BigQuiet
import Derived.Defers
import Derived.Recover
namespace Go.Proofs.YtobnggkgpenmfaaGreatDoor
open Ieee
set_option maxRecDepth 8000

theorem up_lt {f : Nat} (hL : f.log2 ≤ 52) : f * 2 ^ (52 - f.log2) < 9007199254740992 := by
  have h1 : f < 2 ^ (f.log2 + 1) := Nat.lt_log2_self
  have h2 : f * 2 ^ (52 - f.log2) < 2 ^ (f.log2 + 1) * 2 ^ (52 - f.log2) := Nat.mul_lt_mul_of_pos_right h1 (Nat.two_pow_pos _)
  rw [← Nat.pow_add, show f.log2 + 1 + (52 - f.log2) = 53 by omega] at h2
  have : (2 : Nat) ^ 53 = 9007199254740992 := by decide
  omega

theorem up_ge {f : Nat} (h0 : f ≠ 0) (hL : f.log2 ≤ 52) : 4503599627370496 ≤ f * 2 ^ (52 - f.log2) := by
  have h1 : 2 ^ f.log2 ≤ f := Nat.log2_self_le h0
  have h2 : 2 ^ f.log2 * 2 ^ (52 - f.log2) ≤ f * 2 ^ (52 - f.log2) := Nat.mul_le_mul_right _ h1
  rw [← Nat.pow_add, show f.log2 + (52 - f.log2) = 52 by omega] at h2
  have : (2 : Nat) ^ 52 = 4503599627370496 := by decide
  omega

/-- A whole number below 2^53 at a place t from -1074 on, written: its digits moved up to the first. -/
theorem nearest_up {f : Nat} {t : Int} (h0 : f ≠ 0) (h1 : f < 9007199254740992) (ht : -1022 ≤ t + f.log2) (ht' : t + f.log2 ≤ 1023) : double.nearest false f t = wd (t + f.log2 + 1022).toNat (f * 2 ^ (52 - f.log2)) := by
  have hL : f.log2 ≤ 52 := by have := (Nat.log2_lt h0 (k := 53)).2 (by omega); omega
  unfold Format.nearest
  rw [if_neg h0]
  simp only [dLeast, dFrac, dBin, dInf]
  have hl : max (t + (f.log2 : Int) - ((52 : Nat) : Int)) (-1074) = t + (f.log2 : Int) - 52 := by rw [Int.max_def]; split <;> omega
  rw [hl]
  have e1 : (t - (t + (f.log2 : Int) - 52)).toNat = 52 - f.log2 := by omega
  have e2 : (t + (f.log2 : Int) - 52 - t).toNat = 0 := by omega
  have e3 : (t + (f.log2 : Int) - 52 - -1074).toNat = (t + f.log2 + 1022).toNat := by rw [show t + (f.log2 : Int) - 52 - -1074 = t + f.log2 + 1022 by omega]
  rw [e1, e2, e3, Nat.shiftLeft_eq]
  have hne : f * 2 ^ (52 - f.log2) ≠ 0 := Nat.mul_ne_zero h0 (by have := Nat.two_pow_pos (52 - f.log2); omega)
  have c := cut_exact (f * 2 ^ (52 - f.log2)) 0 hne
  rw [Nat.pow_zero, Nat.mul_one] at c
  rw [c]
  have hlt := up_lt hL
  have hQ : (t + f.log2 + 1022).toNat ≤ 2045 := by omega
  generalize (t + f.log2 + 1022).toNat = Q at *
  generalize f * 2 ^ (52 - f.log2) = M at *
  have e4 : Q * 4503599627370496 + M ≤ 9218868437227405312 := by omega
  rw [Nat.min_eq_left e4]
  rfl

theorem scale_mul (L M : Nat) (hL : L ≤ 51) (hr : M < 9007199254740992) (hge : 4503599627370496 ≤ M) : double.mul (wd (970 + L) M) 4841369599423283200 = some (wd (1022 + L) M) := by
  unfold Format.mul
  rw [big_wd, read_wd ⟨by omega, hr, .inr hge⟩, read_wd can_big]
  have e : (4503599627370496 : Nat) = 2 ^ 52 := by decide
  simp only [Datum.product, Option.map_some, Format.write]
  refine congrArg some ?_
  have := nearest_wd (q := 1022 + L) (m := M) (s := 52) (t := ((970 + L : Nat) : Int) - 1074 + (((1074 : Nat) : Int) - 1074)) ⟨by omega, hr, .inr hge⟩ (by omega) (by omega)
  rw [← e] at this
  exact this

theorem cut_zero (f s : Nat) (h0 : f ≠ 0) : Toward.zero.cut false (f * 2 ^ s) s = f := by
  unfold Toward.cut
  simp only
  have e3 : min s ((f * 2 ^ s).log2 + 2) = s := by rw [log2_shift f _ h0]; omega
  rw [e3, Nat.one_shiftLeft, Nat.mul_div_cancel _ (Nat.two_pow_pos _)]
  simp

theorem decode_f64 (x : Nat) : FloatKind.decode .f64 x = double.read x := rfl
theorem toInt_at (m s : Nat) (p : Int) (h0 : m ≠ 0) (hp : p = -(s : Int)) : (Datum.number false (m * 2 ^ s) p).toInt .zero = some (m : Int) := by
  subst hp
  unfold Datum.toInt Datum.integral
  simp only
  have e1 : (-(s : Int)).toNat = 0 := by omega
  have e2 : (-(-(s : Int))).toNat = s := by omega
  rw [e1, e2, Nat.shiftLeft_zero, cut_zero m _ h0]
  simp [Ieee.signed]
theorem fits_u64 (f : Nat) (h : f < 4503599627370496) : IntKind.u64.min ≤ (f : Int) ∧ (f : Int) ≤ IntKind.u64.max := by
  have a1 : IntKind.u64.min = 0 := by decide
  have a2 : IntKind.u64.max = 18446744073709551615 := by decide
  rw [a1, a2]; omega
theorem toIntVal_of (x f : Nat) (d : Datum) (hd : double.read x = d) (ht : d.toInt .zero = some (f : Int)) (h : f < 4503599627370496) : floatToIntVal .f64 x .u64 = some (f : Int) := by
  unfold floatToIntVal
  rw [decode_f64, hd, ht]
  simp only
  rw [if_pos (fits_u64 f h)]

theorem scale_int (f L : Nat) (h0 : f ≠ 0) (h1 : f < 4503599627370496) (hL : L ≤ 51) (hr : f * 2 ^ (52 - L) < 9007199254740992) (hge : 4503599627370496 ≤ f * 2 ^ (52 - L)) :
    floatToIntVal .f64 (wd (1022 + L) (f * 2 ^ (52 - L))) .u64 = some (f : Int) := by
  refine toIntVal_of _ f _ (read_wd ⟨by omega, hr, .inr hge⟩) ?_ h1
  exact toInt_at f (52 - L) _ h0 (by omega)

/-- What stands behind the point, taken back: F * 2^-52, times 2^52, as a whole number. -/
theorem scale_back {f : Nat} (h0 : f ≠ 0) (h1 : f < 4503599627370496) :
    double.mul (wd (970 + f.log2) (f * 2 ^ (52 - f.log2))) 4841369599423283200 = some (wd (1022 + f.log2) (f * 2 ^ (52 - f.log2))) ∧ floatToIntVal .f64 (wd (1022 + f.log2) (f * 2 ^ (52 - f.log2))) .u64 = some (f : Int) := by
  have hL : f.log2 ≤ 51 := by have := (Nat.log2_lt h0 (k := 52)).2 (by omega); omega
  have hr := up_lt (f := f) (by omega)
  have hge := up_ge h0 (by omega)
  exact ⟨scale_mul _ _ hL hr hge, scale_int f _ h0 h1 hL hr hge⟩

/-- v - 1 of a number from 1 to 2. -/
theorem sub_one {m : Nat} (h0 : 4503599627370496 < m) (h1 : m < 9007199254740992) :
    double.sub (wd 1022 m) 4607182418800017408 = some (wd (970 + (m - 4503599627370496).log2) ((m - 4503599627370496) * 2 ^ (52 - (m - 4503599627370496).log2))) := by
  unfold Format.sub
  rw [one_wd, read_wd ⟨by omega, h1, .inr (by omega)⟩, read_wd can_one]
  simp only [Datum.opposite, Datum.sum, Option.map_some, Format.write]
  refine congrArg some ?_
  have e0 : (((1022 : Nat) : Int) - 1074 - min (((1022 : Nat) : Int) - 1074) (((1022 : Nat) : Int) - 1074)).toNat = 0 := by omega
  rw [e0]
  have e1 : Ieee.signed false m 0 + Ieee.signed (!false) 4503599627370496 0 = ((m - 4503599627370496 : Nat) : Int) := by
    simp [Ieee.signed]; omega
  rw [e1]
  have e2 : (((m - 4503599627370496 : Nat) : Int)).natAbs = m - 4503599627370496 := by omega
  have e3 : min (((1022 : Nat) : Int) - 1074) (((1022 : Nat) : Int) - 1074) = -52 := by omega
  have e4 : (if ((m - 4503599627370496 : Nat) : Int) = 0 then (false && !false) else decide (((m - 4503599627370496 : Nat) : Int) < 0)) = false := by
    rw [if_neg (by omega)]
    simp
  rw [e2, e3, e4]
  have hf : m - 4503599627370496 ≠ 0 := by omega
  have hl : (m - 4503599627370496).log2 ≤ 51 := by have := (Nat.log2_lt hf (k := 52)).2 (by omega); omega
  rw [nearest_up hf (by omega) (by omega) (by omega), show (-52 + ((m - 4503599627370496).log2 : Int) + 1022).toNat = 970 + (m - 4503599627370496).log2 by omega]

theorem sub_one_nought : double.sub (wd 1022 4503599627370496) 4607182418800017408 = some 0 := by decide
theorem mul_nought : double.mul 0 4841369599423283200 = some 0 := by decide
theorem int_nought : floatToIntVal .f64 0 .u64 = some 0 := by decide

end Go.Proofs.YtobnggkgpenmfaaGreatDoor

/- A float's bits with one form for what is not a number; what is a number is like itself. -/
namespace Go.Proofs.YtobnggkgpenmfaaGreatDoor
open Ieee
set_option maxRecDepth 8000

def bitsOf (x : Nat) : Nat := if 9218868437227405312 < x % 9223372036854775808 then 9221120237041090560 else x

theorem nan_order (x : Nat) (h : 9218868437227405312 < x % 9223372036854775808) : double.order x x = none := by
  have : ∃ s f, double.read x = .nan s f := by
    unfold Format.read
    simp only [dSign, dBin, dInf]
    rw [if_neg (by omega), if_neg (by omega), if_neg (by omega)]
    exact ⟨_, _, rfl⟩
  obtain ⟨s, f, e⟩ := this
  unfold Format.order
  rw [e]
  rfl

theorem num_order (x : Nat) (h : ¬ 9218868437227405312 < x % 9223372036854775808) : double.order x x = some .eq := by
  have hn : ∀ s f, double.read x ≠ .nan s f := by
    intro s f
    unfold Format.read
    simp only [dSign, dBin, dInf]
    by_cases c1 : x % 9223372036854775808 < 4503599627370496
    · rw [if_pos c1]; exact fun e => by cases e
    · rw [if_neg c1]
      by_cases c2 : x % 9223372036854775808 < 9218868437227405312
      · rw [if_pos c2]; exact fun e => by cases e
      · rw [if_neg c2, if_pos (by omega)]; exact fun e => by cases e
  unfold Format.order
  cases e : double.read x with
  | number s m p => simp [Datum.order, compare, compareOfLessAndEq]
  | infinity s => cases s <;> rfl
  | nan s f => exact absurd e (hn s f)

theorem bitsOf_lt (x : Nat) (h : x < 18446744073709551616) : bitsOf x < 18446744073709551616 := by unfold bitsOf; split <;> omega

end Go.Proofs.YtobnggkgpenmfaaGreatDoor

/- What the rest of the Writer's calls do: Bool, Int8, Float, Text and Buffer. -/
namespace Go.Proofs.YtobnggkgpenmfaaGreatDoor
open Go.RowKit
set_option maxRecDepth 8000

/-- A truth's byte. -/
def b2i (b : Bool) : Int := if b then 1 else 0

set_option maxHeartbeats 400000 in
theorem wBool_any (g : Nat) (v : Value) (xs : List Int) (b : Bool) (w : World) (h : IsW w g v xs) (hb : xs.length + 1 ≤ 140737488355328) :
    Calls Tryz.prog 78 #[.pointer (some ⟨g, 0, none⟩), .bool b] w fun e w' => e = .returned (.tuple #[]) ∧ Puts w g v (xs ++ [b2i b]) w' := by
  have H : Hid (IsW w g v xs) := h
  clear h
  cases b
  · go_enter Tryz.func78, Tryz.ntmps78
    go_wp2_with fail
    refine (add_any g v _ xs [0] _ (H.out.alloc _) (sees_new _ [0] (by simp) rfl) hb).mono ?_
    rintro e w1 ⟨rfl, hp⟩
    have HP : Hid (Puts w g v (xs ++ [0]) w1) := hp.of_alloc
    clear hp
    go_wp2
    go_end0
    exact ⟨rfl, HP.out⟩
  · go_enter Tryz.func78, Tryz.ntmps78
    go_wp2_with fail
    refine (add_any g v _ xs [1] _ (H.out.alloc _) (sees_new _ [1] (by simp) rfl) hb).mono ?_
    rintro e w1 ⟨rfl, hp⟩
    have HP : Hid (Puts w g v (xs ++ [1]) w1) := hp.of_alloc
    clear hp
    go_wp2
    go_end0
    exact ⟨rfl, HP.out⟩

set_option maxHeartbeats 400000 in
theorem wInt8_any (g : Nat) (v : Value) (xs : List Int) (n : Int) (w : World) (h : IsW w g v xs) (hb : xs.length + 1 ≤ 140737488355328) :
    Calls Tryz.prog 43 #[.pointer (some ⟨g, 0, none⟩), .int .i8 n] w fun e w' => e = .returned (.tuple #[]) ∧ Puts w g v (xs ++ [n % 256]) w' := by
  have H : Hid (IsW w g v xs) := h
  clear h
  go_enter Tryz.func43, Tryz.ntmps43
  go_wp2_with fail
  refine (add_any g v _ xs [n % 256] _ (H.out.alloc _) (sees_new _ [n % 256] (by simp) rfl) hb).mono ?_
  rintro e w1 ⟨rfl, hp⟩
  have HP : Hid (Puts w g v (xs ++ [n % 256]) w1) := hp.of_alloc
  clear hp
  go_wp2
  go_end0
  exact ⟨rfl, HP.out⟩

set_option maxHeartbeats 400000 in
theorem wBuffer_any (g : Nat) (v u : Value) (xs ys : List Int) (w : World) (h : IsW w g v xs) (hu : Sees w u ys) (hap : ∀ k, liveB u = some k → k ≠ g ∧ v.ownBlock ≠ some k) (hl : ys.length ≤ 2147483647) (hb : xs.length + 4 + ys.length ≤ 140737488355328) :
    Calls Tryz.prog 74 #[.pointer (some ⟨g, 0, none⟩), u] w fun e w' => e = .returned (.tuple #[]) ∧ Puts w g v (xs ++ (be4 ys.length ++ ys)) w' := by
  have H : Hid (IsW w g v xs ∧ Sees w u ys ∧ ∀ k, liveB u = some k → k ≠ g ∧ v.ownBlock ≠ some k) := ⟨h, hu, hap⟩
  obtain ⟨ao, cap, rfl, q1, q2, _, _⟩ := hu
  unfold maxLen at q2
  clear h hap
  go_enter Tryz.func74, Tryz.ntmps74
  go_wp2_with fail
  refine (wInt32_any g v xs ys.length _ H.out.1 (by omega)).mono ?_
  rintro e w1 ⟨rfl, hp⟩
  rw [show up32 (ys.length : Int) = ys.length by unfold up32; omega] at hp
  obtain ⟨v1, hW1, hN1, hK1⟩ := hp
  have hs1 : Sees w1 (.slice ao ys.length cap) ys := H.out.2.1.keptL hK1 (fun k hk hs => by
    have := H.out.2.2 k hk
    rcases hs with hs | hs
    · exact this.1 hs
    · exact this.2 hs)
  have HW : Hid (IsW w1 g v1 (xs ++ be4 ys.length) ∧ Sees w1 (.slice ao ys.length cap) ys ∧ NewRow w v v1 ∧ Kept w w1 (fun k => k = g ∨ v.ownBlock = some k)) := ⟨hW1, hs1, hN1, hK1⟩
  clear hW1 hs1 hN1 hK1
  go_wp2_with fail
  refine (wRaw_any g v1 _ _ ys _ HW.out.1 HW.out.2.1 (by simp [be4]; omega)).mono ?_
  rintro e w2 ⟨rfl, hp2⟩
  have hp3 := Puts.next HW.out.2.2.1 HW.out.2.2.2 hp2
  rw [List.append_assoc] at hp3
  have HP : Hid (Puts w g v (xs ++ (be4 ys.length ++ ys)) w2) := hp3
  clear hp2 hp3
  go_wp2
  go_end0
  exact ⟨rfl, HP.out⟩

/-- A text's bytes as numbers. -/
def txt (s : ByteArray) : List Int := s.data.toList.map fun b => (b.toNat : Int)
theorem txt_len (s : ByteArray) : (txt s).length = s.size := by unfold txt; rw [List.length_map, Array.length_toList]; rfl
theorem txt_byts (s : ByteArray) : Byts (txt s) := by
  intro x hx
  simp [txt] at hx
  obtain ⟨b, _, rfl⟩ := hx
  have := b.toNat_lt
  omega

/-- What '[]byte(s)' makes leads to the text's bytes. -/
theorem sees_text (w : World) (s : ByteArray) (hs : s.size ≤ maxLen) (mk : Nat × Nat) :
    Sees (w.drew.alloc (.cells (bytesRow s (grownCap w s.size 0 5)) 5 mk)) (.slice (some ⟨w.heap.size, 0, none⟩) s.size (grownCap w s.size 0 5)) (txt s) := by
  refine ⟨_, _, by rw [txt_len], by rw [txt_len]; exact grownCap_ge _ _ _ _, grownCap_le_maxLen _ _ _ _ hs, fun e => by simp at e, .inr ⟨_, _, rfl, fun i hi => ?_⟩⟩
  rw [txt_len] at hi
  have hi' : i < s.data.size := hi
  rw [Nat.zero_add]
  have := World.cell?_alloc_mark w.drew (bytesRow s (grownCap w s.size 0 5)) 5 mk i
  rw [show w.drew.heap.size = w.heap.size from rfl] at this
  rw [this, bytesRow_at s _ i hi']
  simp only [txt, List.getD_eq_getElem?_getD, List.getElem?_map, Array.getElem?_toList, Array.getElem?_eq_getElem hi', Option.map_some, Option.getD_some]

theorem IsW.drew {w : World} {g : Nat} {v : Value} {xs : List Int} (h : IsW w g v xs) : IsW w.drew g v xs := h.kept ((Kept.refl w (fun _ => False)).drewN 1) (fun h => h) (fun _ _ h => h)

theorem Puts.of_drew {w w' : World} {g : Nat} {v : Value} {xs : List Int} (h : Puts w.drew g v xs w') : Puts w g v xs w' := by
  obtain ⟨v', h1, h2, h3⟩ := h
  exact ⟨v', h1, h2, ⟨h3.os, h3.tape, h3.output, h3.size, h3.block⟩⟩

set_option maxHeartbeats 400000 in
theorem wText_any (g : Nat) (v : Value) (xs : List Int) (s : ByteArray) (w : World) (h : IsW w g v xs) (hl : s.size ≤ 2147483647) (hb : xs.length + 4 + s.size ≤ 140737488355328) :
    Calls Tryz.prog 73 #[.pointer (some ⟨g, 0, none⟩), .string s] w fun e w' => e = .returned (.tuple #[]) ∧ Puts w g v (xs ++ (be4 (txt s).length ++ txt s)) w' := by
  have H : Hid (IsW w g v xs) := h
  have hcv := run_bytes_of_string (P := Tryz.prog) w 9 42 5 s Tryz.underlying9 Tryz.underlying42 Tryz.underlying5
  have hgw : g < w.heap.size := lt_of_block h.1
  clear h
  go_enter Tryz.func73, Tryz.ntmps73
  go_wp2_with fail
  refine (wBuffer_any g v _ xs (txt s) _ (by exact (H.out.drew.alloc _)) (by exact sees_text w s (by unfold maxLen; omega) _) (fun k hk => ?_) (by rw [txt_len]; omega) (by rw [txt_len]; omega)).mono ?_
  · replace hk := live_own hk
    simp [Value.ownBlock] at hk
    subst hk
    refine ⟨by omega, fun e => ?_⟩
    have := (H.out.2.lt _ e).2
    omega
  rintro e w1 ⟨rfl, hp⟩
  have HP : Hid (Puts w g v (xs ++ (be4 (txt s).length ++ txt s)) w1) := hp.of_drew.of_alloc
  clear hp
  go_wp2
  go_end0
  exact ⟨rfl, HP.out⟩

end Go.Proofs.YtobnggkgpenmfaaGreatDoor

/- Zxids: what Compare, Pack, Unpack and Next of package txn, and the document's own, answer. -/
namespace Go.Proofs.YtobnggkgpenmfaaGreatDoor
open Go.RowKit
set_option maxRecDepth 8000

/-- Two zxids held against each other: -1, 0 or 1. -/
def zcmp (e n f m : Int) : Int := if e < f ∨ (e = f ∧ n < m) then -1 else if e = f ∧ n = m then 0 else 1

abbrev zx (e n : Int) : Value := .agg #[.int .u32 e, .int .u32 n]

theorem eqZx (e n f m : Int) (w : World) : (binOp .eql 24 (.agg #[.int .u32 e, .int .u32 n]) (.agg #[.int .u32 f, .int .u32 m])).run Tryz.prog w = .ok (.bool (decide (e = f ∧ n = m))) w := by
  have hu : Tryz.prog.underlying 24 = some (.struct (Tryz.prog.fieldsOf 24)) := by kernel_rfl
  have hp : Tryz.prog.stoodInHeld 24 = false := by kernel_rfl
  have u3 := Tryz.underlying22
  have a3 := Tryz.isAgg22
  have z3 := Tryz.sizeOf22
  rw [run_eql_struct, show (10000 : Nat) = 9999 + 1 from rfl, run_equalIn_agg w 9999 _ _ _ hu hp]
  simp only [Program.fieldsOf, Tryz.underlying24]
  go_simp
  by_cases h1 : e = f <;> by_cases h2 : n = m <;> simp [h1, h2]

theorem two_alloc (w : World) (o o' : Obj) : Below w.heap.size w ((w.alloc o).alloc o') := ((Below.refl _ _).alloc (Nat.le_refl _) _).alloc (by simp) _
theorem one_alloc (w : World) (o : Obj) : Below w.heap.size w (w.alloc o) := (Below.refl _ _).alloc (Nat.le_refl _) _

set_option maxHeartbeats 400000 in
theorem compare_any (e n f m : Int) (w : World) :
    Calls Tryz.prog 31 #[zx e n, zx f m] w fun r w' => r = .returned (.int .i64 (zcmp e n f m)) ∧ Below w.heap.size w w' := by
  have hg : Tryz.prog.eqGuardType Tryz.prog.depth 24 = false := by kernel_rfl
  have hB := two_alloc w
  have hq := eqZx e n f m
  go_enter Tryz.func31, Tryz.ntmps31
  go_wp2
  all_goals (go_ret; refine ⟨?_, hB _ _⟩; unfold zcmp; split <;> (try split) <;> first | rfl | omega)

set_option maxHeartbeats 400000 in
theorem refCompare_any (e n f m : Int) (w : World) :
    Calls Tryz.prog 23 #[zx e n, zx f m] w fun r w' => r = .returned (.int .i64 (zcmp e n f m)) ∧ Below w.heap.size w w' := by
  have hg : Tryz.prog.eqGuardType Tryz.prog.depth 24 = false := by kernel_rfl
  have hB := two_alloc w
  have hq := eqZx e n f m
  go_enter Tryz.func23, Tryz.ntmps23
  go_wp2
  all_goals (go_ret; refine ⟨?_, hB _ _⟩; unfold zcmp; split <;> (try split) <;> first | rfl | omega)

theorem isEpoch_any (n : Int) (w : World) (h0 : 0 ≤ n) :
    Calls Tryz.prog 93 #[.int .u32 n] w fun r w' => r = .returned (.bool (decide (1 ≤ n ∧ n ≤ 2147483647))) ∧ w' = w := by
  go_enter Tryz.func93, Tryz.ntmps93
  go_wp2
  all_goals (go_ret; refine ⟨?_, rfl⟩; first | rfl | (congr 2; simp; omega))

/-- A zxid's one number. -/
def zpack (e n : Int) : Int × Int := if 2147483647 < e then (0, 1) else (e * 4294967296 + n, 0)

theorem ofInt_i64z (a : Nat) (ha : a < 9223372036854775808) : (BitVec.ofInt 64 (a : Int)).toNat = a := by
  rw [BitVec.ofInt_natCast, BitVec.toNat_ofNat]; exact Nat.mod_eq_of_lt (by omega)
theorem i64_or63 (a b : Int) (h1 : 0 ≤ a) (h2 : a < 9223372036854775808) (h3 : 0 ≤ b) (h4 : b < 9223372036854775808) : bits .or .i64 a b = ((a.toNat ||| b.toNat : Nat) : Int) := by
  obtain ⟨A, rfl⟩ := Int.eq_ofNat_of_zero_le h1
  obtain ⟨B, rfl⟩ := Int.eq_ofNat_of_zero_le h3
  have hx : A ||| B < 2 ^ 63 := Nat.or_lt_two_pow (by omega) (by omega)
  show IntKind.i64.wrap ((BitVec.ofInt 64 (A : Int) ||| BitVec.ofInt 64 (B : Int)).toNat : Int) = _
  rw [BitVec.toNat_or, ofInt_i64z A (by omega), ofInt_i64z B (by omega)]
  simp only [Int.toNat_natCast]
  simp [IntKind.wrap, IntKind.bits, IntKind.signed]
  omega

theorem zpack_or (e n : Int) (h0 : 0 ≤ e) (h1 : e ≤ 2147483647) (h2 : 0 ≤ n) (h3 : n ≤ 4294967295) : bits .or .i64 (e * 4294967296) n = e * 4294967296 + n := by
  rw [i64_or63 _ _ (by omega) (by omega) (by omega) (by omega), nat_join 32 _ _ (by omega) (by omega)]
  omega

/-- The zxid of a number: its epoch, its counter, the error. -/
def zunpack (n : Int) : Int × Int × Int := if n < 0 then (0, 0, 1) else (n / 4294967296, n % 4294967296, 0)

/-- The next zxid of an epoch: epoch, counter, error. -/
def znext (e n last : Int) : Int × Int × Int := if e = 0 ∨ 2147483647 < e then (0, 0, 1) else if last ≤ n then (0, 0, 2) else (e, n + 1, 0)

end Go.Proofs.YtobnggkgpenmfaaGreatDoor

/- What the small parts of txn.Check answer: isZxid, isOrigin, the layouts, names, bit, filled, needed. -/
namespace Go.Proofs.YtobnggkgpenmfaaGreatDoor
open Go.RowKit
set_option maxRecDepth 8000

def zxOk (e n : Int) : Bool := decide ((e = 0 ∧ n = 0) ∨ (1 ≤ e ∧ e ≤ 2147483647 ∧ 1 ≤ n))

set_option maxHeartbeats 400000 in
theorem isZxid_any (e n : Int) (w : World) (h0 : 0 ≤ e) (h2 : 0 ≤ n) :
    Calls Tryz.prog 67 #[zx e n] w fun r w' => r = .returned (.bool (zxOk e n)) ∧ Below w.heap.size w w' := by
  have hg : Tryz.prog.eqGuardType Tryz.prog.depth 24 = false := by kernel_rfl
  have hB := one_alloc w
  have hq := eqZx e n 0 0
  by_cases hz : e = 0 ∧ n = 0
  · rw [decide_eq_true hz] at hq
    have hr : zxOk e n = true := by unfold zxOk; simp [hz]
    obtain ⟨rfl, rfl⟩ := hz
    rw [hr]
    clear h0 h2 hr
    go_enter Tryz.func67, Tryz.ntmps67
    go_wp2
    go_ret
    exact ⟨rfl, hB _⟩
  · rw [decide_eq_false hz] at hq
    have hr : zxOk e n = decide (1 ≤ e ∧ e ≤ 2147483647 ∧ 1 ≤ n) := by
      unfold zxOk; congr 1; simp; exact fun h1 h2 => absurd ⟨h1, h2⟩ hz
    rw [hr]
    have HZ : Hid (¬ (e = 0 ∧ n = 0)) := hz
    clear hz hr
    go_enter Tryz.func67, Tryz.ntmps67
    go_wp2_with fail
    refine (isEpoch_any e _ h0).mono ?_
    rintro r w1 ⟨rfl, rfl⟩
    by_cases he : 1 ≤ e ∧ e ≤ 2147483647
    · rw [decide_eq_true he]
      go_wp2
      go_ret
      refine ⟨?_, hB _⟩
      simp [he]
    · rw [decide_eq_false he]
      go_wp2
      go_ret
      refine ⟨?_, hB _⟩
      have hf : decide (1 ≤ e ∧ e ≤ 2147483647 ∧ 1 ≤ n) = false := by simp; omega
      rw [hf]
      rfl

abbrev orig (s b m : Int) : Value := .agg #[.int .i8 s, .int .u32 b, .int .i64 m]
def origOk (s m : Int) : Bool := decide (0 ≤ s ∧ s < 7 ∧ 0 ≤ m)

set_option maxHeartbeats 400000 in
theorem isOrigin_any (s b m : Int) (w : World) :
    Calls Tryz.prog 68 #[orig s b m] w fun r w' => r = .returned (.bool (origOk s m)) ∧ Below w.heap.size w w' := by
  have hB := one_alloc w
  go_enter Tryz.func68, Tryz.ntmps68
  go_wp2
  all_goals (go_ret; refine ⟨?_, hB _⟩; unfold origOk; simp [*]; try omega)

abbrev lay (last wo : Int) : Value := .agg #[.int .i8 last, .int .u16 wo]

theorem proposed_any (w : World) : Calls Tryz.prog 45 #[] w fun r w' => r = .returned (lay 8 0) ∧ Below w.heap.size w w' := by
  have hB := one_alloc w
  go_enter Tryz.func45, Tryz.ntmps45
  go_wp2
  exact bodyPost_ret (v := lay 8 0) (by simp [results, Tryz.results45, go_sem]) rfl ⟨rfl, hB _⟩

theorem within_any (w : World) : Calls Tryz.prog 82 #[] w fun r w' => r = .returned (lay 5 320) ∧ Below w.heap.size w w' := by
  have hB := one_alloc w
  go_enter Tryz.func82, Tryz.ntmps82
  go_wp2
  exact bodyPost_ret (v := lay 5 320) (by simp [results, Tryz.results82, go_sem]) rfl ⟨rfl, hB _⟩

/-- A field's bit, where it is on. -/
def bz (n : Int) (b : Bool) : Int := if b then n else 0

theorem bit_any (n : Int) (b : Bool) (w : World) :
    Calls Tryz.prog 103 #[.int .u16 n, .bool b] w fun r w' => r = .returned (.int .u16 (bz n b)) ∧ w' = w := by
  go_enter Tryz.func103, Tryz.ntmps103
  cases b <;> go_wp2 <;> (go_ret; exact ⟨rfl, rfl⟩)

def need (k : Int) : Int := if k = 6 then 512 else if k = 7 then 128 else if k = 8 then 64 else 0

theorem needed_any (k : Int) (w : World) :
    Calls Tryz.prog 95 #[.int .i8 k] w fun r w' => r = .returned (.int .u16 (need k)) ∧ w' = w := by
  go_enter Tryz.func95, Tryz.ntmps95
  go_wp2
  all_goals (go_ret; refine ⟨?_, rfl⟩; unfold need; simp at *; simp [*])

/-- The table of what each kind names stands. -/
def Nam (w : World) : Prop := Lib.TabIs Tryz.prog w "lagoon/txn.named" .u16 [0, 375, 329, 331, 333, 329, 832, 128, 64, 321, 321, 321, 321]
theorem nam_global : Tryz.prog.globalNamed "lagoon/txn.named" = some 0 := by kernel_rfl
theorem Nam.below {B : Nat} {w w' : World} (h : Nam w) (hb : Below B w w') (hB : 0 < B) : Nam w' := var?_below hb nam_global hB h
theorem Nam.lt {w : World} (h : Nam w) : 0 < w.heap.size := by
  have := World.block_lt_of_cell? w _ (Lib.TabIs.cell h nam_global 0 (by decide)); simpa using this

def tabN (k : Int) : Int := ([0, 375, 329, 331, 333, 329, 832, 128, 64, 321, 321, 321, 321] : List Int).getD k.toNat 0

/-- What a kind names there. -/
def nms (last wo k : Int) : Int := if k < 1 ∨ last < k then 0 else bits .andNot .u16 (tabN k) wo

set_option maxHeartbeats 400000 in
theorem names_any (last wo k : Int) (w : World) (hn : Nam w) (hl : last ≤ 12) :
    Calls Tryz.prog 72 #[lay last wo, .int .i8 k] w fun r w' => r = .returned (.int .u16 (nms last wo k)) ∧ Below w.heap.size w w' := by
  have hB := one_alloc w
  by_cases hk : k < 1 ∨ last < k
  · have hr : nms last wo k = 0 := by unfold nms; rw [if_pos hk]
    rw [hr]
    clear hr hn
    go_enter Tryz.func72, Tryz.ntmps72
    go_wp2
    all_goals first | (go_ret; exact ⟨rfl, hB _⟩) | (exfalso; omega)
  · have hr : nms last wo k = bits .andNot .u16 (tabN k) wo := by unfold nms; rw [if_neg hk]
    rw [hr]
    have hc : w.cell? ⟨0, k.toNat, none⟩ = some (.int .u16 (tabN k)) := by
      have := Lib.TabIs.cell hn nam_global k.toNat (by simp; omega)
      rw [this]
      unfold tabN
      rfl
    have hlt := hn.lt
    have h1 : 1 ≤ k := by omega
    have h2 : k ≤ last := by omega
    clear hr hk hn
    generalize tabN k = t at *
    have hc1 : (w.alloc (.cells #[.int .i8 last, .int .u16 wo] 81)).cell? ⟨0, k.toNat, none⟩ = some (.int .u16 t) := by
      rw [World.cell?_alloc_lt _ _ _ hlt]; exact hc
    have hk0 : 0 ≤ k := by omega
    have hk13 : k < 13 := by omega
    clear hc
    go_enter Tryz.func72, Tryz.ntmps72
    go_wp2
    go_quiet (fail)
    go_wp2
    go_ret
    exact ⟨rfl, below_drewN (hB _) _⟩

/-- What of a request is not zero, as bits. -/
def fillz (p d a v e s z t o q : Bool) : Int :=
  bits .or .u16 (bits .or .u16 (bits .or .u16 (bits .or .u16 (bits .or .u16 (bits .or .u16 (bits .or .u16 (bits .or .u16 (bits .or .u16 (bz 1 p) (bz 2 d)) (bz 4 a)) (bz 8 v)) (bz 16 e)) (bz 32 s)) (bz 64 z)) (bz 128 t)) (bz 256 o)) (bz 512 q)

set_option maxHeartbeats 1000000 in
theorem filled_any (k : Int) (s : ByteArray) (da aa wa oa : Option Addr) (dl dc al ac wl wc ol oc : Nat) (ver : Int) (eph seq : Bool) (ses tmo : Int) (w : World) :
    Calls Tryz.prog 94 #[.agg #[.int .i8 k, .string s, .slice da dl dc, .slice aa al ac, .int .i32 ver, .bool eph, .bool seq, .int .i64 ses, .int .i32 tmo, .slice wa wl wc, .slice oa ol oc]] w
      fun r w' => r = .returned (.int .u16 (fillz (!s.toList.isEmpty) (decide (0 < dl)) (decide (0 < al)) (ver != 0) eph seq (ses != 0) (tmo != 0) (decide (0 < wl)) (decide (0 < ol)))) ∧ Below w.heap.size w w' := by
  have hB := one_alloc w
  go_enter Tryz.func94, Tryz.ntmps94
  go_wp2
  go_quiet ((go_at_call 103; exact Calls.quiet_of_same (bit_any _ _ _)))
  go_wp2
  go_ret
  refine ⟨?_, below_drewN (hB _) _⟩
  rfl

/-- An id that may be. -/
def idOk (x : IdD) : Bool := decide (x.scheme.size ≤ 24 ∧ x.name.size ≤ 24)

set_option maxHeartbeats 400000 in
theorem isId_any (x : IdD) (w : World) :
    Calls Tryz.prog 107 #[.agg #[.string x.scheme, .string x.name]] w fun r w' => r = .returned (.bool (idOk x)) ∧ Below w.heap.size w w' := by
  have hB := one_alloc w
  go_enter Tryz.func107, Tryz.ntmps107
  go_wp2
  all_goals (go_ret; refine ⟨?_, hB _⟩; unfold idOk; simp; first | omega | (rw [decide_eq_true (show x.scheme.size ≤ 24 by omega)]; simp; omega))

set_option maxHeartbeats 400000 in
theorem isEntry_any (x : EnD) (w : World) :
    Calls Tryz.prog 105 #[.agg #[.int .i8 x.perms, .string x.id.scheme, .string x.id.name]] w fun r w' => r = .returned (.bool (idOk x.id)) ∧ Below w.heap.size w w' := by
  have hB := one_alloc w
  go_enter Tryz.func105, Tryz.ntmps105
  go_wp2_with fail
  refine (isId_any x.id _).mono ?_
  rintro r w1 ⟨rfl, b1⟩
  have HB : Hid (Below w.heap.size w w1) := (hB _).trans (b1.mono (by simp))
  clear b1
  go_wp2
  go_ret
  exact ⟨rfl, HB.out⟩
end Go.Proofs.YtobnggkgpenmfaaGreatDoor

/- What putId, and PutList of ids with it, put behind a Writer's bytes. -/
namespace Go.Proofs.YtobnggkgpenmfaaGreatDoor
open Go.RowKit
set_option maxRecDepth 8000

/-- A text's bytes, its length ahead. -/
def txtB (s : ByteArray) : List Int := be4 (txt s).length ++ txt s
def idB (x : IdD) : List Int := txtB x.scheme ++ txtB x.name

theorem txtB_len (s : ByteArray) : (txtB s).length = 4 + s.size := by simp [txtB, be4, txt_len]; omega

theorem Puts.later {w w1 w2 : World} {g : Nat} {v : Value} {xs : List Int} (h : Puts w g v xs w1) (hb : Below w1.heap.size w1 w2) : Puts w g v xs w2 := by
  obtain ⟨v', h1, h2, h3⟩ := h
  refine ⟨v', h1.kept (Below.kept hb) ?_ ?_, h2, h3.trans (Below.kept hb) ?_⟩
  · have := lt_of_block h1.1; omega
  · intro k hk; have := (h1.2.lt k hk).2; omega
  · intro k hk h; have := h3.size; omega

/-- A cell that is no Writer's. -/
theorem Puts.cell {w w1 : World} {g : Nat} {v : Value} {xs : List Int} (h : Puts w g v xs w1) {p : Addr} {u : Value} (hc : w.cell? p = some u) (hg : p.block ≠ g) (hv : v.ownBlock ≠ some p.block) : w1.cell? p = some u := by
  obtain ⟨v', h1, h2, h3⟩ := h
  exact h3.cell hc (fun e => by
    rcases e with e | e
    · exact hg e
    · exact hv e)

theorem Puts.size {w w1 : World} {g : Nat} {v : Value} {xs : List Int} (h : Puts w g v xs w1) : w.heap.size ≤ w1.heap.size := by
  obtain ⟨v', h1, h2, h3⟩ := h
  exact h3.size

theorem IsW.lt {w : World} {g : Nat} {v : Value} {xs : List Int} (h : IsW w g v xs) : g < w.heap.size ∧ ∀ k, v.ownBlock = some k → k < w.heap.size :=
  ⟨lt_of_block h.1, fun k hk => (h.2.lt k hk).2⟩

theorem Puts.nam {w w1 : World} {g : Nat} {v : Value} {xs : List Int} (h : Puts w g v xs w1) (hn : Nam w) (hg : 0 < g) (hv : ∀ k, v.ownBlock = some k → 0 < k) : Nam w1 := by
  obtain ⟨v', h1, h2, h3⟩ := h
  refine hn.below (B := 0 + 1) ⟨h3.os, h3.tape, h3.output, h3.size, fun k hk => h3.block k (by have := hn.lt; omega) (fun e => ?_)⟩ (by omega)
  rcases e with e | e
  · omega
  · have := hv k e; omega

set_option maxHeartbeats 400000 in
theorem putId_any (l : Value) (last wo : Int) (hl : l = lay last wo) (g : Nat) (v : Value) (xs : List Int) (x : IdD) (w : World) (h : IsW w g v xs) (h1 : x.scheme.size ≤ 2147483647) (h2 : x.name.size ≤ 2147483647) (hb : xs.length ≤ 70000000000000) :
    Calls Tryz.prog 80 #[l, .pointer (some ⟨g, 0, none⟩), .agg #[.string x.scheme, .string x.name]] w fun e w' => e = .returned (.tuple #[]) ∧ Puts w g v (xs ++ idB x) w' := by
  subst hl
  obtain ⟨scheme, name⟩ := x
  simp only at h1 h2 ⊢
  have hlt := h.lt
  have HV : Hid (IsW ((w.alloc (.cells #[.int .i8 last, .int .u16 wo] 81)).alloc (.cells #[.string scheme, .string name] 101)) g v xs) := (h.alloc _).alloc _
  have HL : Hid (g < w.heap.size ∧ ∀ k, v.ownBlock = some k → k < w.heap.size) := hlt
  clear h hlt
  go_enter Tryz.func80, Tryz.ntmps80
  go_wp2_with fail
  refine (wText_any g v xs scheme _ HV.out h1 (by omega)).mono ?_
  rintro e w1 ⟨rfl, hp⟩
  have c1 : w1.cell? ⟨w.heap.size + 1, 1, none⟩ = some (.string name) := hp.cell (by rw [cell_of_row _ _ _ _ _ _ (by have := heap_alloc_new (w.alloc (.cells #[.int .i8 last, .int .u16 wo] 81)) (.cells #[.string scheme, .string name] 101 (0, 0)); simpa using this)]; rfl) (by have := HL.out.1; show w.heap.size + 1 ≠ g; omega) (fun e => by have h := HL.out.2 _ e; have : w.heap.size + 1 < w.heap.size := h; omega)
  obtain ⟨v1, hW, hN, hK⟩ := hp
  have HW : Hid (IsW w1 g v1 (xs ++ (be4 (txt scheme).length ++ txt scheme)) ∧ NewRow _ v v1 ∧ Kept _ w1 (fun k => k = g ∨ v.ownBlock = some k)) := ⟨hW, hN, hK⟩
  clear hW hN hK
  go_wp2_with fail
  refine (wText_any g v1 _ name _ HW.out.1 h2 (by simp [be4, txt_len]; omega)).mono ?_
  rintro e w2 ⟨rfl, hp2⟩
  have HP : Hid (Puts w g v (xs ++ idB ⟨scheme, name⟩) w2) := by
    have := (Puts.next HW.out.2.1 HW.out.2.2 hp2).of_alloc.of_alloc
    rw [List.append_assoc] at this
    exact this
  clear hp2 HW c1
  go_wp2
  go_end0
  exact ⟨rfl, HP.out⟩

theorem putDefI (w : World) : CallsD Tryz.prog 99 #[] .returning w fun e u' w' => e = .returned (.tuple #[]) ∧ u' = .returning ∧ w' = w := by
  refine callsD_of_wpS Tryz.func99 rfl fun c₀ cs hu => ?_
  apply wpS_region
  simp [wpOpsS, go_sem, recoverD, hu, Tryz.ntmps99, bodyPostS, results, Tryz.results99]
  cases c₀
  simp_all

def idsB (l : List IdD) : List Int := l.flatMap idB
theorem idsB_next (l : List IdD) (k : Nat) (h : k < l.length) : idsB (l.take (k + 1)) = idsB (l.take k) ++ idB l[k] := by
  rw [List.take_succ_eq_append_getElem h]; simp only [idsB, List.flatMap_append, List.flatMap_cons, List.flatMap_nil, List.append_nil]

theorem idsB_len (l : List IdD) (h : ∀ x ∈ l, x.scheme.size ≤ 2147483647 ∧ x.name.size ≤ 2147483647) : (idsB l).length ≤ 4294967310 * l.length := by
  induction l with
  | nil => simp [idsB]
  | cons x l ih =>
    have e : idsB (x :: l) = idB x ++ idsB l := by simp [idsB]
    have h1 := h x (by simp)
    have h2 := ih (fun y hy => h y (by simp [hy]))
    rw [e, List.length_append, idB, List.length_append, txtB_len, txtB_len, List.length_cons]
    omega

set_option maxHeartbeats 1000000 in
theorem putListI_any (last wo : Int) (g : Nat) (v u : Value) (xs : List Int) (l : List IdD) (w : World) (h : IsW w g v xs) (hs : SeesR w u 2 (l.map IdD.cells)) (hr : l.length ≤ 4096) (hx : ∀ x ∈ l, x.scheme.size ≤ 2147483647 ∧ x.name.size ≤ 2147483647) (hb : xs.length ≤ 30000000000000) (hap : ∀ k, liveB u = some k → k ≠ g ∧ v.ownBlock ≠ some k ∧ k < w.heap.size) :
    Calls Tryz.prog 79 #[.pointer (some ⟨g, 0, none⟩), u, .func (.func 80) #[lay last wo] #[]] w fun e w' => e = .returned (.tuple #[]) ∧ Puts w g v (xs ++ (be4 l.length ++ idsB l)) w' := by
  have H : Hid (IsW w g v xs ∧ SeesR w u 2 (l.map IdD.cells)) := ⟨h, hs⟩
  have HL : Hid (g < w.heap.size ∧ ∀ k, v.ownBlock = some k → k < w.heap.size) := h.lt
  obtain ⟨ao, cap, rfl, hlc, hcm, h0, h3⟩ := hs
  rw [List.length_map] at hlc ⊢
  unfold maxLen at hcm
  clear h h3 h0
  have hfn : ∀ w, (binOp .eql 119 (.func (.func 80) #[lay last wo] #[]) .nilFunc).run Tryz.prog w = .ok (.bool false) w := fun _ => by kernel_rfl
  go_enter_defers Tryz.func79, Tryz.ntmps79
  go_wp2_with fail
  refine (wInt32_any g v xs l.length _ H.out.1 (by omega)).mono ?_
  rintro e w1 ⟨rfl, hp⟩
  rw [show up32 (l.length : Int) = l.length by unfold up32; omega] at hp
  have HP : Hid (Puts w g v (xs ++ be4 l.length) w1) := hp
  clear hp
  go_wp2
  go_loopw [7, 19] (fun _ i wr => ∃ k : Nat, k ≤ l.length ∧ i = .int .i64 k ∧ Puts w g v (xs ++ be4 l.length ++ idsB (l.take k)) wr) (fun _ i _ => l.length - (intOf i).toNat)
  case atStart => exact ⟨0, Nat.zero_le _, rfl, by simpa [idsB] using HP.out⟩
  case round =>
    clear HP
    obtain ⟨k, hk, rfl, hp⟩ := hrel
    have HP : Hid (Puts w g v (xs ++ be4 l.length ++ idsB (l.take k)) wr) := hp
    clear hp
    by_cases hlt : k < l.length
    · have hap' : ∀ k, liveB (Value.slice ao (l.map IdD.cells).length cap) = some k → k ≠ g ∧ v.ownBlock ≠ some k ∧ k < w.heap.size := hap
      obtain ⟨ao', cap', e, _, _, _, h3⟩ := H.out.2
      simp at e
      obtain ⟨rfl, rfl⟩ := e
      rcases h3 with h3 | ⟨b, off, rfl, h3⟩
      · have : l.length = 0 := by simpa using congrArg List.length h3
        omega
      · have hbk := hap' b (live_at (by rw [List.length_map]; omega))
        have c0 := HP.out.cell (h3 k (by simpa using hlt) 0 (by omega)) hbk.1 hbk.2.1
        have c1 := HP.out.cell (h3 k (by simpa using hlt) 1 (by omega)) hbk.1 hbk.2.1
        simp [IdD.cells] at c0 c1
        have HT : Hid (idsB (l.take (k + 1)) = idsB (l.take k) ++ idB l[k]) := idsB_next l k hlt
        have HX : Hid _ := hx l[k] (List.getElem_mem hlt)
        have HN : Hid ((idsB (l.take k)).length ≤ 4294967310 * (l.take k).length) := idsB_len (l.take k) (fun x hx' => hx x (List.mem_of_mem_take hx'))
        clear h3 hap hap' hx
        generalize l[k] = x at *
        go_wp2_with fail
        obtain ⟨vk, hW, hNw, hK⟩ := (HP.out.later (one_alloc wr _))
        refine (putId_any (lay last wo) last wo rfl g vk _ x _ hW HX.out.1 HX.out.2 (by have := HN.out; simp [be4] at this ⊢; omega)).mono ?_
        rintro e w2 ⟨rfl, hp2⟩
        have hp3 := Puts.next hNw hK hp2
        rw [List.append_assoc, ← HT.out] at hp3
        have HP2 : Hid (Puts w g v (xs ++ be4 l.length ++ idsB (l.take (k + 1))) w2) := hp3
        clear hp2 hp3 hW hNw hK
        go_wp2
        go_roundw
        case rel => exact ⟨k + 1, by omega, by go_num, HP2.out⟩
        case measure => simp [intOf]; omega
    · obtain rfl : k = l.length := by omega
      have hp := HP.out
      rw [List.take_length] at hp
      have HQ : Hid (Puts w g v (xs ++ (be4 l.length ++ idsB l)) wr) := by rw [← List.append_assoc]; exact hp
      clear hp HP
      go_wp2
      refine leaves_cons (f := 99) (args := #[]) (by simp) (by simp [go_sem]) ?_
      refine (putDefI _).mono ?_
      rintro e u' w'' ⟨rfl, rfl, rfl⟩
      exact ⟨_, results_none rfl _ _ _, rfl, HQ.out⟩

end Go.Proofs.YtobnggkgpenmfaaGreatDoor

/- What putEntry, and PutList of entries with it, put behind a Writer's bytes. -/
namespace Go.Proofs.YtobnggkgpenmfaaGreatDoor
open Go.RowKit
set_option maxRecDepth 8000

def enB (x : EnD) : List Int := [x.perms % 256] ++ idB x.id

set_option maxHeartbeats 400000 in
theorem putEntry_any (last wo : Int) (g : Nat) (v : Value) (xs : List Int) (x : EnD) (w : World) (h : IsW w g v xs) (h1 : x.id.scheme.size ≤ 2147483647) (h2 : x.id.name.size ≤ 2147483647) (hb : xs.length ≤ 60000000000000) :
    Calls Tryz.prog 76 #[lay last wo, .pointer (some ⟨g, 0, none⟩), .agg #[.int .i8 x.perms, .string x.id.scheme, .string x.id.name]] w fun e w' => e = .returned (.tuple #[]) ∧ Puts w g v (xs ++ enB x) w' := by
  obtain ⟨perms, ⟨scheme, name⟩⟩ := x
  simp only at h1 h2 ⊢
  obtain ⟨V, eV⟩ : ∃ V, V = (w.alloc (.cells #[.int .i8 last, .int .u16 wo] 81)).alloc (.cells #[.int .i8 perms, .string scheme, .string name] 103) := ⟨_, rfl⟩
  have HL : Hid (g < w.heap.size ∧ ∀ k, v.ownBlock = some k → k < w.heap.size) := h.lt
  have HV : Hid (IsW V g v xs ∧ ∀ zs W, Puts V g v zs W → Puts w g v zs W ∧ W.cell? ⟨w.heap.size, 0, none⟩ = some (.int .i8 last) ∧ W.cell? ⟨w.heap.size, 1, none⟩ = some (.int .u16 wo) ∧ W.cell? ⟨w.heap.size + 1, 1, none⟩ = some (.string scheme) ∧ W.cell? ⟨w.heap.size + 1, 2, none⟩ = some (.string name)) := by
    refine ⟨by subst eV; exact (h.alloc _).alloc _, fun zs W hp => ⟨by subst eV; exact hp.of_alloc.of_alloc, ?_, ?_, ?_, ?_⟩⟩
    iterate 2 (refine hp.cell (p := ⟨w.heap.size, _, none⟩) ?_ (by have := HL.out.1; show w.heap.size ≠ g; omega) (fun e => by have h1 := HL.out.2 _ e; have : w.heap.size < w.heap.size := h1; omega); subst eV; rw [World.cell?_alloc_lt _ _ _ (by simp), cell_of_row _ _ _ _ _ _ (heap_alloc_new _ _)]; rfl)
    all_goals (refine hp.cell (p := ⟨w.heap.size + 1, _, none⟩) ?_ (by have := HL.out.1; show w.heap.size + 1 ≠ g; omega) (fun e => by have h1 := HL.out.2 _ e; have : w.heap.size + 1 < w.heap.size := h1; omega); subst eV; rw [cell_of_row _ _ _ _ _ _ (by have := heap_alloc_new (w.alloc (.cells #[.int .i8 last, .int .u16 wo] 81)) (.cells #[.int .i8 perms, .string scheme, .string name] 103 (0, 0)); simpa using this)]; rfl)
  have HE : Hid _ := eV
  clear h eV
  go_enter Tryz.func76, Tryz.ntmps76
  go_wp2_with fail
  rw [← HE.out]
  refine (wInt8_any g v xs perms _ HV.out.1 (by omega)).mono ?_
  rintro e w1 ⟨rfl, hp⟩
  have HP : Hid (Puts V g v (xs ++ [perms % 256]) w1) := hp
  clear hp HE
  obtain ⟨_, l0, l1, c1, c2⟩ := HV.out.2 _ _ HP.out
  go_wp2_with fail
  obtain ⟨v1, hW, hN, hK⟩ := HP.out
  refine (putId_any (lay last wo) last wo rfl g v1 _ ⟨scheme, name⟩ _ hW h1 h2 (by simp; omega)).mono ?_
  rintro e w2 ⟨rfl, hp2⟩
  have HQ : Hid (Puts V g v (xs ++ [perms % 256] ++ idB ⟨scheme, name⟩) w2) := Puts.next hN hK hp2
  clear hp2 hW hN hK HP l0 l1 c1 c2
  go_wp2
  go_end0
  refine ⟨rfl, ?_⟩
  have := (HV.out.2 _ _ HQ.out).1
  rw [List.append_assoc] at this
  exact this

theorem putDefE (w : World) : CallsD Tryz.prog 98 #[] .returning w fun e u' w' => e = .returned (.tuple #[]) ∧ u' = .returning ∧ w' = w := by
  refine callsD_of_wpS Tryz.func98 rfl fun c₀ cs hu => ?_
  apply wpS_region
  simp [wpOpsS, go_sem, recoverD, hu, Tryz.ntmps98, bodyPostS, results, Tryz.results98]
  cases c₀
  simp_all

def acB (l : List EnD) : List Int := l.flatMap enB
theorem acB_next (l : List EnD) (k : Nat) (h : k < l.length) : acB (l.take (k + 1)) = acB (l.take k) ++ enB l[k] := by
  rw [List.take_succ_eq_append_getElem h]; simp only [acB, List.flatMap_append, List.flatMap_cons, List.flatMap_nil, List.append_nil]

theorem acB_len (l : List EnD) (h : ∀ x ∈ l, x.id.scheme.size ≤ 2147483647 ∧ x.id.name.size ≤ 2147483647) : (acB l).length ≤ 4294967320 * l.length := by
  induction l with
  | nil => simp [acB]
  | cons x l ih =>
    have e : acB (x :: l) = enB x ++ acB l := by simp [acB]
    have h1 := h x (by simp)
    have h2 := ih (fun y hy => h y (by simp [hy]))
    rw [e, List.length_append, enB, List.length_append, idB, List.length_append, txtB_len, txtB_len]
    simp only [List.length_cons, List.length_nil]
    omega

set_option maxHeartbeats 1000000 in
theorem putListE_any (last wo : Int) (g : Nat) (v u : Value) (xs : List Int) (l : List EnD) (w : World) (h : IsW w g v xs) (hs : SeesR w u 3 (l.map EnD.cells)) (hr : l.length ≤ 4096) (hx : ∀ x ∈ l, x.id.scheme.size ≤ 2147483647 ∧ x.id.name.size ≤ 2147483647) (hb : xs.length ≤ 30000000000000) (hap : ∀ k, liveB u = some k → k ≠ g ∧ v.ownBlock ≠ some k ∧ k < w.heap.size) :
    Calls Tryz.prog 75 #[.pointer (some ⟨g, 0, none⟩), u, .func (.func 76) #[lay last wo] #[]] w fun e w' => e = .returned (.tuple #[]) ∧ Puts w g v (xs ++ (be4 l.length ++ acB l)) w' := by
  have H : Hid (IsW w g v xs ∧ SeesR w u 3 (l.map EnD.cells)) := ⟨h, hs⟩
  have HL : Hid (g < w.heap.size ∧ ∀ k, v.ownBlock = some k → k < w.heap.size) := h.lt
  obtain ⟨ao, cap, rfl, hlc, hcm, h0, h3⟩ := hs
  rw [List.length_map] at hlc ⊢
  unfold maxLen at hcm
  clear h h3 h0
  have hfn : ∀ w, (binOp .eql 115 (.func (.func 76) #[lay last wo] #[]) .nilFunc).run Tryz.prog w = .ok (.bool false) w := fun _ => by kernel_rfl
  go_enter_defers Tryz.func75, Tryz.ntmps75
  go_wp2_with fail
  refine (wInt32_any g v xs l.length _ H.out.1 (by omega)).mono ?_
  rintro e w1 ⟨rfl, hp⟩
  rw [show up32 (l.length : Int) = l.length by unfold up32; omega] at hp
  have HP : Hid (Puts w g v (xs ++ be4 l.length) w1) := hp
  clear hp
  go_wp2
  go_loopw [7, 19] (fun _ i wr => ∃ k : Nat, k ≤ l.length ∧ i = .int .i64 k ∧ Puts w g v (xs ++ be4 l.length ++ acB (l.take k)) wr) (fun _ i _ => l.length - (intOf i).toNat)
  case atStart => exact ⟨0, Nat.zero_le _, rfl, by simpa [acB] using HP.out⟩
  case round =>
    clear HP
    obtain ⟨k, hk, rfl, hp⟩ := hrel
    have HP : Hid (Puts w g v (xs ++ be4 l.length ++ acB (l.take k)) wr) := hp
    clear hp
    by_cases hlt : k < l.length
    · have hap' : ∀ k, liveB (Value.slice ao (l.map EnD.cells).length cap) = some k → k ≠ g ∧ v.ownBlock ≠ some k ∧ k < w.heap.size := hap
      obtain ⟨ao', cap', e, _, _, _, h3⟩ := H.out.2
      simp at e
      obtain ⟨rfl, rfl⟩ := e
      rcases h3 with h3 | ⟨b, off, rfl, h3⟩
      · have : l.length = 0 := by simpa using congrArg List.length h3
        omega
      · have hbk := hap' b (live_at (by rw [List.length_map]; omega))
        have c0 := HP.out.cell (h3 k (by simpa using hlt) 0 (by omega)) hbk.1 hbk.2.1
        have c1 := HP.out.cell (h3 k (by simpa using hlt) 1 (by omega)) hbk.1 hbk.2.1
        have c2 := HP.out.cell (h3 k (by simpa using hlt) 2 (by omega)) hbk.1 hbk.2.1
        simp [EnD.cells] at c0 c1 c2
        have HT : Hid (acB (l.take (k + 1)) = acB (l.take k) ++ enB l[k]) := acB_next l k hlt
        have HX : Hid _ := hx l[k] (List.getElem_mem hlt)
        have HN : Hid ((acB (l.take k)).length ≤ 4294967320 * (l.take k).length) := acB_len (l.take k) (fun x hx' => hx x (List.mem_of_mem_take hx'))
        clear h3 hap hap' hx
        generalize l[k] = x at *
        go_wp2_with fail
        obtain ⟨vk, hW, hNw, hK⟩ := (HP.out.later (one_alloc wr _))
        refine (putEntry_any last wo g vk _ x _ hW HX.out.1 HX.out.2 (by have := HN.out; simp [be4] at this ⊢; omega)).mono ?_
        rintro e w2 ⟨rfl, hp2⟩
        have hp3 := Puts.next hNw hK hp2
        rw [List.append_assoc, ← HT.out] at hp3
        have HP2 : Hid (Puts w g v (xs ++ be4 l.length ++ acB (l.take (k + 1))) w2) := hp3
        clear hp2 hp3 hW hNw hK
        go_wp2
        go_roundw
        case rel => exact ⟨k + 1, by omega, by go_num, HP2.out⟩
        case measure => simp [intOf]; omega
    · obtain rfl : k = l.length := by omega
      have hp := HP.out
      rw [List.take_length] at hp
      have HQ : Hid (Puts w g v (xs ++ (be4 l.length ++ acB l)) wr) := by rw [← List.append_assoc]; exact hp
      clear hp HP
      go_wp2
      refine leaves_cons (f := 98) (args := #[]) (by simp) (by simp [go_sem]) ?_
      refine (putDefE _).mono ?_
      rintro e u' w'' ⟨rfl, rfl, rfl⟩
      exact ⟨_, results_none rfl _ _ _, rfl, HQ.out⟩

end Go.Proofs.YtobnggkgpenmfaaGreatDoor

/- What pack.Sum and EqBytes of lagoonref00 answer: the Adler-32 sum of the bytes that are given; whether two lists of bytes are the same. -/
namespace Go.Proofs.YtobnggkgpenmfaaGreatDoor
open Go.RowKit
set_option maxRecDepth 8000

set_option maxHeartbeats 400000 in
theorem eqBytes_any (v u : Value) (xs ys : List Int) (w : World) (h : Sees w v xs) (g : Sees w u ys) :
    Calls Tryz.prog 60 #[v, u] w fun e w' => e = .returned (.bool (decide (xs = ys))) ∧ ∃ n, w' = w.drewN n := by
  obtain ⟨ao, cap, rfl, hlc, hcm, _, h3⟩ := h
  obtain ⟨bo, cbp, rfl, glc, gcm, _, g3⟩ := g
  unfold maxLen at hcm gcm
  by_cases hl : xs.length = ys.length
  · have hl1 : xs.length ≤ ys.length := by omega
    have hl2 : ys.length ≤ xs.length := by omega
    have hn0 : ((xs.length : Int) != (ys.length : Int)) = false := by simp; omega
    clear hl
    go_enter Tryz.func60, Tryz.ntmps60
    go_wp2
    go_loopw [5] (fun i wr => ∃ k m : Nat, k ≤ xs.length ∧ i = .int .i64 k ∧ xs.take k = ys.take k ∧ wr = w.drewN m) (fun i _ => xs.length - (intOf i).toNat)
    case atStart => exact ⟨0, 0, Nat.zero_le _, rfl, rfl, rfl⟩
    case round =>
      obtain ⟨k, m, hk, rfl, heq, rfl⟩ := hrel
      have HE : Hid _ := heq
      clear heq
      by_cases hlt : k < xs.length
      · rcases h3 with h3 | ⟨b, off, rfl, h3⟩
        · subst h3; simp at hlt
        · rcases g3 with g3 | ⟨b', off', rfl, g3⟩
          · have : ys.length = 0 := by rw [g3]; rfl
            omega
          · have hlt' : k < ys.length := by omega
            have hc := h3 k hlt
            have gc := g3 k hlt'
            have HN : Hid _ := take_next_eq hlt hlt' HE.out
            have HD : Hid _ := ne_of_nth (xs := xs) (ys := ys) k
            clear h3 g3
            generalize xs.getD k 0 = x at *
            generalize ys.getD k 0 = y at *
            by_cases hxy : x = y
            · subst hxy
              go_wp2
              go_region
              all_goals go_wp2
              all_goals go_roundw
              case rel => exact ⟨k + 1, _, by omega, by go_num, HN.out trivial, rfl⟩
              case measure => simp [intOf]; omega
            · have hne : (x != y) = true := by simp [hxy]
              clear hxy
              go_wp2
              go_region
              all_goals go_wp2
              all_goals go_ret
              have hxy : x ≠ y := by simpa using hne
              exact ⟨by rw [decide_eq_false (HD.out hxy)]; rfl, _, rfl⟩
      · have he : xs = ys := by
          have := HE.out
          rw [List.take_of_length_le (by omega), List.take_of_length_le (by omega)] at this
          exact this
        subst he
        go_wp2
        go_ret
        exact ⟨by simp, _, rfl⟩
  · have hn : ((xs.length : Int) != (ys.length : Int)) = true := by simp; omega
    have hq : xs ≠ ys := fun e => hl (by rw [e])
    have HQ : Hid _ := hq
    clear hl hq
    go_enter Tryz.func60, Tryz.ntmps60
    go_wp2
    go_ret
    exact ⟨by rw [decide_eq_false HQ.out]; rfl, 0, rfl⟩

end Go.Proofs.YtobnggkgpenmfaaGreatDoor
