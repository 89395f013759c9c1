/- More plain facts on IEEE 754 doubles: what stands behind the point taken back as a whole number; 1 taken away. -/
import Derived.Test.YtbdokdhconhifaaGreatDoorDblJ
import Derived.Laws.Externs
import Derived.WalkLawsBesides
import Derived.Laws.BytesArg
import Derived.Laws.IdiomStrings
import Derived.Test.YtbdokdhconhifaaGreatDoorApartJ
import Derived.Test.YtbdokdhconhifaaGreatDoorBgEhJ
namespace Go.Proofs.YtbdokdhconhifaaGreatDoor
open Ieee
set_option maxRecDepth 8000

theorem up_lt {f : Nat} (hL : f.log2 ≤ 52) : f * 2 ^ (52 - f.log2) < 9007199254740992 := by
  have h1 : f < 2 ^ (f.log2 + 1) := Nat.lt_log2_self
  have h2 : f * 2 ^ (52 - f.log2) < 2 ^ (f.log2 + 1) * 2 ^ (52 - f.log2) := Nat.mul_lt_mul_of_pos_right h1 (Nat.two_pow_pos _)
  rw [← Nat.pow_add, show f.log2 + 1 + (52 - f.log2) = 53 by omega] at h2
  have : (2 : Nat) ^ 53 = 9007199254740992 := by decide
  omega

theorem up_ge {f : Nat} (h0 : f ≠ 0) (hL : f.log2 ≤ 52) : 4503599627370496 ≤ f * 2 ^ (52 - f.log2) := by
  have h1 : 2 ^ f.log2 ≤ f := Nat.log2_self_le h0
  have h2 : 2 ^ f.log2 * 2 ^ (52 - f.log2) ≤ f * 2 ^ (52 - f.log2) := Nat.mul_le_mul_right _ h1
  rw [← Nat.pow_add, show f.log2 + (52 - f.log2) = 52 by omega] at h2
  have : (2 : Nat) ^ 52 = 4503599627370496 := by decide
  omega

/-- A whole number below 2^53 at a place t from -1074 on, written: its digits moved up to the first. -/
theorem nearest_up {f : Nat} {t : Int} (h0 : f ≠ 0) (h1 : f < 9007199254740992) (ht : -1022 ≤ t + f.log2) (ht' : t + f.log2 ≤ 1023) : double.nearest false f t = wd (t + f.log2 + 1022).toNat (f * 2 ^ (52 - f.log2)) := by
  have hL : f.log2 ≤ 52 := by have := (Nat.log2_lt h0 (k := 53)).2 (by omega); omega
  unfold Format.nearest
  rw [if_neg h0]
  simp only [dLeast, dFrac, dBin, dInf]
  have hl : max (t + (f.log2 : Int) - ((52 : Nat) : Int)) (-1074) = t + (f.log2 : Int) - 52 := by rw [Int.max_def]; split <;> omega
  rw [hl]
  have e1 : (t - (t + (f.log2 : Int) - 52)).toNat = 52 - f.log2 := by omega
  have e2 : (t + (f.log2 : Int) - 52 - t).toNat = 0 := by omega
  have e3 : (t + (f.log2 : Int) - 52 - -1074).toNat = (t + f.log2 + 1022).toNat := by rw [show t + (f.log2 : Int) - 52 - -1074 = t + f.log2 + 1022 by omega]
  rw [e1, e2, e3, Nat.shiftLeft_eq]
  have hne : f * 2 ^ (52 - f.log2) ≠ 0 := Nat.mul_ne_zero h0 (by have := Nat.two_pow_pos (52 - f.log2); omega)
  have c := cut_exact (f * 2 ^ (52 - f.log2)) 0 hne
  rw [Nat.pow_zero, Nat.mul_one] at c
  rw [c]
  have hlt := up_lt hL
  have hQ : (t + f.log2 + 1022).toNat ≤ 2045 := by omega
  generalize (t + f.log2 + 1022).toNat = Q at *
  generalize f * 2 ^ (52 - f.log2) = M at *
  have e4 : Q * 4503599627370496 + M ≤ 9218868437227405312 := by omega
  rw [Nat.min_eq_left e4]
  rfl

theorem scale_mul (L M : Nat) (hL : L ≤ 51) (hr : M < 9007199254740992) (hge : 4503599627370496 ≤ M) : double.mul (wd (970 + L) M) 4841369599423283200 = some (wd (1022 + L) M) := by
  unfold Format.mul
  rw [big_wd, read_wd ⟨by omega, hr, .inr hge⟩, read_wd can_big]
  have e : (4503599627370496 : Nat) = 2 ^ 52 := by decide
  simp only [Datum.product, Option.map_some, Format.write]
  refine congrArg some ?_
  have := nearest_wd (q := 1022 + L) (m := M) (s := 52) (t := ((970 + L : Nat) : Int) - 1074 + (((1074 : Nat) : Int) - 1074)) ⟨by omega, hr, .inr hge⟩ (by omega) (by omega)
  rw [← e] at this
  exact this

theorem cut_zero (f s : Nat) (h0 : f ≠ 0) : Toward.zero.cut false (f * 2 ^ s) s = f := by
  unfold Toward.cut
  simp only
  have e3 : min s ((f * 2 ^ s).log2 + 2) = s := by rw [log2_shift f _ h0]; omega
  rw [e3, Nat.one_shiftLeft, Nat.mul_div_cancel _ (Nat.two_pow_pos _)]
  simp

theorem decode_f64 (x : Nat) : FloatKind.decode .f64 x = double.read x := rfl
theorem toInt_at (m s : Nat) (p : Int) (h0 : m ≠ 0) (hp : p = -(s : Int)) : (Datum.number false (m * 2 ^ s) p).toInt .zero = some (m : Int) := by
  subst hp
  unfold Datum.toInt Datum.integral
  simp only
  have e1 : (-(s : Int)).toNat = 0 := by omega
  have e2 : (-(-(s : Int))).toNat = s := by omega
  rw [e1, e2, Nat.shiftLeft_zero, cut_zero m _ h0]
  simp [Ieee.signed]
theorem fits_u64 (f : Nat) (h : f < 4503599627370496) : IntKind.u64.min ≤ (f : Int) ∧ (f : Int) ≤ IntKind.u64.max := by
  have a1 : IntKind.u64.min = 0 := by decide
  have a2 : IntKind.u64.max = 18446744073709551615 := by decide
  rw [a1, a2]; omega
theorem toIntVal_of (x f : Nat) (d : Datum) (hd : double.read x = d) (ht : d.toInt .zero = some (f : Int)) (h : f < 4503599627370496) : floatToIntVal .f64 x .u64 = some (f : Int) := by
  unfold floatToIntVal
  rw [decode_f64, hd, ht]
  simp only
  rw [if_pos (fits_u64 f h)]

theorem scale_int (f L : Nat) (h0 : f ≠ 0) (h1 : f < 4503599627370496) (hL : L ≤ 51) (hr : f * 2 ^ (52 - L) < 9007199254740992) (hge : 4503599627370496 ≤ f * 2 ^ (52 - L)) :
    floatToIntVal .f64 (wd (1022 + L) (f * 2 ^ (52 - L))) .u64 = some (f : Int) := by
  refine toIntVal_of _ f _ (read_wd ⟨by omega, hr, .inr hge⟩) ?_ h1
  exact toInt_at f (52 - L) _ h0 (by omega)

/-- What stands behind the point, taken back: F * 2^-52, times 2^52, as a whole number. -/
theorem scale_back {f : Nat} (h0 : f ≠ 0) (h1 : f < 4503599627370496) :
    double.mul (wd (970 + f.log2) (f * 2 ^ (52 - f.log2))) 4841369599423283200 = some (wd (1022 + f.log2) (f * 2 ^ (52 - f.log2))) ∧ floatToIntVal .f64 (wd (1022 + f.log2) (f * 2 ^ (52 - f.log2))) .u64 = some (f : Int) := by
  have hL : f.log2 ≤ 51 := by have := (Nat.log2_lt h0 (k := 52)).2 (by omega); omega
  have hr := up_lt (f := f) (by omega)
  have hge := up_ge h0 (by omega)
  exact ⟨scale_mul _ _ hL hr hge, scale_int f _ h0 h1 hL hr hge⟩

/-- v - 1 of a number from 1 to 2. -/
theorem sub_one {m : Nat} (h0 : 4503599627370496 < m) (h1 : m < 9007199254740992) :
    double.sub (wd 1022 m) 4607182418800017408 = some (wd (970 + (m - 4503599627370496).log2) ((m - 4503599627370496) * 2 ^ (52 - (m - 4503599627370496).log2))) := by
  unfold Format.sub
  rw [one_wd, read_wd ⟨by omega, h1, .inr (by omega)⟩, read_wd can_one]
  simp only [Datum.opposite, Datum.sum, Option.map_some, Format.write]
  refine congrArg some ?_
  have e0 : (((1022 : Nat) : Int) - 1074 - min (((1022 : Nat) : Int) - 1074) (((1022 : Nat) : Int) - 1074)).toNat = 0 := by omega
  rw [e0]
  have e1 : Ieee.signed false m 0 + Ieee.signed (!false) 4503599627370496 0 = ((m - 4503599627370496 : Nat) : Int) := by
    simp [Ieee.signed]; omega
  rw [e1]
  have e2 : (((m - 4503599627370496 : Nat) : Int)).natAbs = m - 4503599627370496 := by omega
  have e3 : min (((1022 : Nat) : Int) - 1074) (((1022 : Nat) : Int) - 1074) = -52 := by omega
  have e4 : (if ((m - 4503599627370496 : Nat) : Int) = 0 then (false && !false) else decide (((m - 4503599627370496 : Nat) : Int) < 0)) = false := by
    rw [if_neg (by omega)]
    simp
  rw [e2, e3, e4]
  have hf : m - 4503599627370496 ≠ 0 := by omega
  have hl : (m - 4503599627370496).log2 ≤ 51 := by have := (Nat.log2_lt hf (k := 52)).2 (by omega); omega
  rw [nearest_up hf (by omega) (by omega) (by omega), show (-52 + ((m - 4503599627370496).log2 : Int) + 1022).toNat = 970 + (m - 4503599627370496).log2 by omega]

theorem sub_one_nought : double.sub (wd 1022 4503599627370496) 4607182418800017408 = some 0 := by decide
theorem mul_nought : double.mul 0 4841369599423283200 = some 0 := by decide
theorem int_nought : floatToIntVal .f64 0 .u64 = some 0 := by decide

end Go.Proofs.YtbdokdhconhifaaGreatDoor

/- A float's bits with one form for what is not a number; what is a number is like itself. -/
namespace Go.Proofs.YtbdokdhconhifaaGreatDoor
open Ieee
set_option maxRecDepth 8000

def bitsOf (x : Nat) : Nat := if 9218868437227405312 < x % 9223372036854775808 then 9221120237041090560 else x

theorem nan_order (x : Nat) (h : 9218868437227405312 < x % 9223372036854775808) : double.order x x = none := by
  have : ∃ s f, double.read x = .nan s f := by
    unfold Format.read
    simp only [dSign, dBin, dInf]
    rw [if_neg (by omega), if_neg (by omega), if_neg (by omega)]
    exact ⟨_, _, rfl⟩
  obtain ⟨s, f, e⟩ := this
  unfold Format.order
  rw [e]
  rfl

theorem num_order (x : Nat) (h : ¬ 9218868437227405312 < x % 9223372036854775808) : double.order x x = some .eq := by
  have hn : ∀ s f, double.read x ≠ .nan s f := by
    intro s f
    unfold Format.read
    simp only [dSign, dBin, dInf]
    by_cases c1 : x % 9223372036854775808 < 4503599627370496
    · rw [if_pos c1]; exact fun e => by cases e
    · rw [if_neg c1]
      by_cases c2 : x % 9223372036854775808 < 9218868437227405312
      · rw [if_pos c2]; exact fun e => by cases e
      · rw [if_neg c2, if_pos (by omega)]; exact fun e => by cases e
  unfold Format.order
  cases e : double.read x with
  | number s m p => simp [Datum.order, compare, compareOfLessAndEq]
  | infinity s => cases s <;> rfl
  | nan s f => exact absurd e (hn s f)

theorem bitsOf_lt (x : Nat) (h : x < 18446744073709551616) : bitsOf x < 18446744073709551616 := by unfold bitsOf; split <;> omega

end Go.Proofs.YtbdokdhconhifaaGreatDoor

/- What the rest of the Reader's calls do: Bool, Int8, Uint32, Int64, Float, Buffer, Raw, Fail and End. -/
namespace Go.Proofs.YtbdokdhconhifaaGreatDoor
open Go.RowKit
set_option maxRecDepth 8000

section
variable (g : Nat) (v : Value) (xs : List Int) (f : Int) (w : World)

/-- A truth: by the document. -/
def rdBool (xs : List Int) (f : Int) : Rd :=
  if f ≠ 0 then ⟨0, xs, f⟩ else if xs.length < 1 then ⟨0, xs, 10⟩ else if 1 < xs.getD 0 0 then ⟨0, xs, 12⟩ else ⟨xs.getD 0 0, xs.drop 1, 0⟩

/-- Raw bytes, a buffer: by the document: what is answered, what is left, the fault. -/
def rdRaw (n : Int) (xs : List Int) (f : Int) : List Int × Rd :=
  if f ≠ 0 then ([], ⟨0, xs, f⟩) else if n < 0 then ([], ⟨0, xs, 11⟩) else if (xs.length : Int) < n then ([], ⟨0, xs, 10⟩) else (xs.take n.toNat, ⟨0, xs.drop n.toNat, 0⟩)

/-- A slice that a Reader answers: it leads to the bytes; it has no spare room; it lies in the Reader's own row, or nowhere. -/
def Cut (w : World) (v u : Value) (ys : List Int) : Prop := Sees w u ys ∧ (∃ ao, u = .slice ao ys.length ys.length) ∧ ∀ k, u.ownBlock = some k → v.ownBlock = some k

theorem cut_nil (w : World) (v : Value) : Cut w v (.slice none 0 0) [] := ⟨sees_nil w, ⟨none, rfl⟩, fun k hk => by simp [Value.ownBlock] at hk⟩

/-- A buffer, a text: by the document. -/
def rdBuf (most : Int) (xs : List Int) (f : Int) : List Int × Rd :=
  if f ≠ 0 then ([], ⟨0, xs, f⟩) else if xs.length < 4 then ([], ⟨0, xs, 10⟩) else if ahead xs < 0 ∨ most < ahead xs then ([], ⟨0, xs, 11⟩)
  else if (xs.length : Int) - 4 < ahead xs then ([], ⟨0, xs, 10⟩) else ((xs.drop 4).take (ahead xs).toNat, ⟨0, (xs.drop 4).drop (ahead xs).toNat, 0⟩)

end
end Go.Proofs.YtbdokdhconhifaaGreatDoor
/- What the Reader's Float, Buffer and Text do. -/
namespace Go.Proofs.YtbdokdhconhifaaGreatDoor
open Go.RowKit
set_option maxRecDepth 8000

/-- A float: by the document: its word. -/
def rdFloat (xs : List Int) (f : Int) : Rd :=
  if f ≠ 0 then ⟨0, xs, f⟩ else if xs.length < 8 then ⟨0, xs, 10⟩
  else if 9218868437227405312 < (num (xs.take 8)).toNat % 9223372036854775808 ∧ num (xs.take 8) ≠ 9221120237041090560 then ⟨0, xs, 12⟩ else ⟨num (xs.take 8), xs.drop 8, 0⟩

section
variable (g : Nat) (v : Value) (xs : List Int) (f : Int) (w : World)

theorem run_text (w : World) (u : Value) (ys : List Int) (h : Sees w u ys) : (convert 58 9 u).run Tryz.prog w = .ok (.string (strOfNums ys)) w := by
  obtain ⟨ao, cap, rfl, _, _, _, h3⟩ := h
  rcases h3 with rfl | ⟨b, off, rfl, h3⟩
  · cases ao with
    | none => exact run_convert_bytes_nil w 58 5 Tryz.underlying58 Tryz.underlying5 _ _ _ Tryz.underlying9
    | some a =>
      rw [run_convert_bytes_string w 58 9 5 _ _ _ Tryz.underlying58 Tryz.underlying5 Tryz.underlying9]
      have hl : (loadCells a 0).run Tryz.prog w = .ok #[] w := by simp [loadCells, loadCellsFrom]
      simp [Conv.bytesToString, strOfNums, hl]
      rfl
  · exact run_convert_bytes_arg w 58 5 Tryz.underlying58 Tryz.underlying5 b off ys.length cap ys rfl h3 _ Tryz.underlying9

end
end Go.Proofs.YtbdokdhconhifaaGreatDoor
/- The eight bytes of a whole number; no Go function is walked here. -/
namespace Go.Proofs.YtbdokdhconhifaaGreatDoor

/-- The eight bytes of a number from 0 on. -/
def be8 (n : Int) : List Int := be4 (n / 4294967296) ++ be4 (n % 4294967296)

def up64 (n : Int) : Int := n % 18446744073709551616
theorem up64_bd (n : Int) : 0 ≤ up64 n ∧ up64 n ≤ 18446744073709551615 := by unfold up64; omega

end Go.Proofs.YtbdokdhconhifaaGreatDoor

/- What the Writer's Int64 does, and put64 behind it: eight bytes, the highest first. -/
namespace Go.Proofs.YtbdokdhconhifaaGreatDoor
open Go.RowKit
set_option maxRecDepth 8000

end Go.Proofs.YtbdokdhconhifaaGreatDoor

/- What the Writer's Raw does: it puts the bytes behind those that the Writer has. -/
namespace Go.Proofs.YtbdokdhconhifaaGreatDoor
open Go.RowKit
set_option maxRecDepth 8000

end Go.Proofs.YtbdokdhconhifaaGreatDoor

/- What the rest of the Writer's calls do: Bool, Int8, Float, Text and Buffer. -/
namespace Go.Proofs.YtbdokdhconhifaaGreatDoor
open Go.RowKit
set_option maxRecDepth 8000

/-- A truth's byte. -/
def b2i (b : Bool) : Int := if b then 1 else 0

/-- A text's bytes as numbers. -/
def txt (s : ByteArray) : List Int := s.data.toList.map fun b => (b.toNat : Int)
theorem txt_len (s : ByteArray) : (txt s).length = s.size := by unfold txt; rw [List.length_map, Array.length_toList]; rfl
theorem txt_byts (s : ByteArray) : Byts (txt s) := by
  intro x hx
  simp [txt] at hx
  obtain ⟨b, _, rfl⟩ := hx
  have := b.toNat_lt
  omega

/-- What '[]byte(s)' makes leads to the text's bytes. -/
theorem sees_text (w : World) (s : ByteArray) (hs : s.size ≤ maxLen) (mk : Nat × Nat) :
    Sees (w.drew.alloc (.cells (bytesRow s (grownCap w s.size 0 5)) 5 mk)) (.slice (some ⟨w.heap.size, 0, none⟩) s.size (grownCap w s.size 0 5)) (txt s) := by
  refine ⟨_, _, by rw [txt_len], by rw [txt_len]; exact grownCap_ge _ _ _ _, grownCap_le_maxLen _ _ _ _ hs, fun e => by simp at e, .inr ⟨_, _, rfl, fun i hi => ?_⟩⟩
  rw [txt_len] at hi
  have hi' : i < s.data.size := hi
  rw [Nat.zero_add]
  have := World.cell?_alloc_mark w.drew (bytesRow s (grownCap w s.size 0 5)) 5 mk i
  rw [show w.drew.heap.size = w.heap.size from rfl] at this
  rw [this, bytesRow_at s _ i hi']
  simp only [txt, List.getD_eq_getElem?_getD, List.getElem?_map, Array.getElem?_toList, Array.getElem?_eq_getElem hi', Option.map_some, Option.getD_some]

end Go.Proofs.YtbdokdhconhifaaGreatDoor

/- Lists of texts of bytes that are marked: what a mark is in memory; no Go function is walked here. -/
namespace Go.Proofs.YtbdokdhconhifaaGreatDoor
open Go.RowKit
set_option maxRecDepth 8000

/-- A text of bytes in a row of bytes. -/
def SeesB (w : World) (u : Value) (s : ByteArray) : Prop := Sees w u (txt s) ∧ ∀ k, u.ownBlock = some k → ∃ cs fr, w.heap[k]? = some (.cells cs 5 fr)

theorem SeesB.kept {w w' : World} {u : Value} {s : ByteArray} (h : SeesB w u s) (hk : Kept w w' (fun _ => False)) : SeesB w' u s :=
  ⟨h.1.kept hk (fun _ _ h => h), fun k hu => by
    obtain ⟨cs, fr, hr⟩ := h.2 k hu
    exact ⟨cs, fr, hk.heap hr (fun h => h)⟩⟩

theorem SeesB.turned {w w' : World} {u : Value} {s : ByteArray} {S : Nat → Nat → Prop} {E : TypeId} (h : SeesB w u s) (ht : Turned w w' S) (hS : ∀ k x, S k x → ∃ cs fr, w.heap[k]? = some (.cells cs E fr)) (hE : E ≠ 5) : SeesB w' u s := by
  have hn : ∀ k, u.ownBlock = some k → ∀ x, ¬ S k x := by
    intro k hu x hs
    obtain ⟨cs, fr, hr⟩ := h.2 k hu
    obtain ⟨cs', fr', hr'⟩ := hS k x hs
    rw [hr] at hr'
    simp at hr'
    exact hE hr'.2.1.symm
  refine ⟨?_, fun k hu => ?_⟩
  · obtain ⟨ao, cap, rfl, h1, h2, h0, h3⟩ := h.1
    refine ⟨ao, cap, rfl, h1, h2, h0, ?_⟩
    rcases h3 with h3 | ⟨b, off, rfl, h3⟩
    · exact .inl h3
    · exact .inr ⟨b, off, rfl, fun i hi => ht.cell (h3 i hi) (hn b rfl _)⟩
  · obtain ⟨cs, fr, hr⟩ := h.2 k hu
    rw [ht.same k (lt_of_block hr) (hn k hu)]
    exact ⟨cs, fr, hr⟩

theorem SeesB.typed {w w' : World} {u : Value} {s : ByteArray} {E : TypeId} (h : SeesB w u s) (hk : Kept w w' (OfType w E)) (hE : E ≠ 5) : SeesB w' u s := by
  have hn : ∀ k, u.ownBlock = some k → ¬ OfType w E k := by
    rintro k hu ⟨cs', fr', hr'⟩
    obtain ⟨cs, fr, hr⟩ := h.2 k hu
    rw [hr] at hr'
    simp at hr'
    exact hE hr'.2.1.symm
  refine ⟨h.1.kept hk hn, fun k hu => ?_⟩
  obtain ⟨cs, fr, hr⟩ := h.2 k hu
  exact ⟨cs, fr, hk.heap hr (hn k hu)⟩

theorem seesB_text (w : World) (s : ByteArray) (hs : s.size ≤ maxLen) (mk : Nat × Nat) :
    SeesB (w.drew.alloc (.cells (bytesRow s (grownCap w s.size 0 5)) 5 mk)) (.slice (some ⟨w.heap.size, 0, none⟩) s.size (grownCap w s.size 0 5)) s :=
  ⟨sees_text w s hs mk, fun k hk => by
    simp [Value.ownBlock] at hk
    subst hk
    exact ⟨_, _, heap_alloc_new w.drew _⟩⟩

theorem str_txt' (s : ByteArray) : strOfNums (txt s) = s := by
  unfold strOfNums txt
  rw [List.map_map]
  have : ((fun n : Int => UInt8.ofNat n.toNat) ∘ fun b : UInt8 => (b.toNat : Int)) = id := by
    funext b
    simp
  rw [this]
  simp

theorem run_textB {w : World} {u : Value} {s : ByteArray} (h : SeesB w u s) : (convert 58 9 u).run Tryz.prog w = .ok (.string s) w := by
  have := run_text w u (txt s) h.1
  rw [str_txt'] at this
  exact this

end Go.Proofs.YtbdokdhconhifaaGreatDoor
