/- What the Reader's size does: it looks at a length, or at a count, and stays ahead of it; the fault where it may not be. -/
import Derived.Test.YtdbphdllibffnaaGreatReaderJ
import Derived.WalkKit
import Derived.Laws.FloatArith
import Derived.Laws.Externs
import Derived.WalkLawsBesides
import Derived.Laws.BytesArg
import Derived.Test.YtdbphdllibffnaaGreatShelfCJ
import Derived.Test.YtdbphdllibffnaaGreatWriterJ
import Derived.Laws.IdiomStrings
import Derived.Test.YtdbphdllibffnaaGreatProg
import Derived.Laws.StructEq
import Derived.Lib.LaidTab
import Derived.Deep.RegionHeld
import Derived.BigQuiet
import Derived.Defers
import Derived.Recover
import Derived.Laws.Cover3
import Derived.Laws.CopyOwn
namespace Go.Proofs.YtdbphdllibffnaaGreat
open Go.RowKit
set_option maxRecDepth 8000

section
variable (g : Nat) (v : Value) (xs : List Int) (most : Int) (w : World)

end
end Go.Proofs.YtdbphdllibffnaaGreat

/- Plain facts on IEEE 754 doubles as words: what a word with sign, exponent and fraction stands for, and that doubling, halving, comparing and taking 1 away are exact where the document's own Bits does them; no Go function is walked here. -/
namespace Go.Proofs.YtdbphdllibffnaaGreat
open Ieee
set_option maxRecDepth 8000

end Go.Proofs.YtdbphdllibffnaaGreat

/- More plain facts on IEEE 754 doubles: what stands behind the point taken back as a whole number; 1 taken away. -/
namespace Go.Proofs.YtdbphdllibffnaaGreat
open Ieee
set_option maxRecDepth 8000

end Go.Proofs.YtdbphdllibffnaaGreat

/- A float's bits with one form for what is not a number; what is a number is like itself. -/
namespace Go.Proofs.YtdbphdllibffnaaGreat
open Ieee
set_option maxRecDepth 8000

end Go.Proofs.YtdbphdllibffnaaGreat

/- What the rest of the Reader's calls do: Bool, Int8, Uint32, Int64, Float, Buffer, Raw, Fail and End. -/
namespace Go.Proofs.YtdbphdllibffnaaGreat
open Go.RowKit
set_option maxRecDepth 8000

section
variable (g : Nat) (v : Value) (xs : List Int) (f : Int) (w : World)

set_option maxHeartbeats 400000 in
theorem rUint32_any (h : IsR w g v xs f) (hb : Byts xs) :
    Calls Tryz.prog 87 #[.pointer (some ⟨g, 0, none⟩)] w fun e w' => e = .returned (.int .u32 (rdNum 4 xs f).out) ∧ ReadsTo w g v (rdNum 4 xs f) w' := by
  have hbd := rdNum_bd 4 xs f hb
  have h4 : (256 : Int) ^ 4 = 4294967296 := by decide
  rw [h4] at hbd
  have b1 := hbd.1
  have b2 := hbd.2
  have H : Hid (IsR w g v xs f ∧ Byts xs) := ⟨h, hb⟩
  clear h hb h4 hbd
  go_enter Tryz.func87, Tryz.ntmps87
  go_wp2_with fail
  refine (rNumber_any g v xs f 4 _ H.out.1 H.out.2 (by omega)).mono ?_
  rintro e w1 ⟨rfl, hr⟩
  have HR : Hid (ReadsTo w g v (rdNum 4 xs f) w1) := hr
  clear hr
  go_wp2
  go_ret
  exact ⟨rfl, HR.out⟩

set_option maxHeartbeats 400000 in
theorem rInt64_any (h : IsR w g v xs f) (hb : Byts xs) :
    Calls Tryz.prog 89 #[.pointer (some ⟨g, 0, none⟩)] w fun e w' => e = .returned (.int .i64 (wrap64 (rdNum 8 xs f).out)) ∧ ReadsTo w g v (rdNum 8 xs f) w' := by
  have H : Hid (IsR w g v xs f ∧ Byts xs) := ⟨h, hb⟩
  clear h hb
  go_enter Tryz.func89, Tryz.ntmps89
  go_wp2_with fail
  refine (rNumber_any g v xs f 8 _ H.out.1 H.out.2 (by omega)).mono ?_
  rintro e w1 ⟨rfl, hr⟩
  have HR : Hid (ReadsTo w g v (rdNum 8 xs f) w1) := hr
  clear hr
  go_wp2
  go_ret
  exact ⟨rfl, HR.out⟩

set_option maxHeartbeats 400000 in
theorem rInt8_any (h : IsR w g v xs f) (hb : Byts xs) :
    Calls Tryz.prog 43 #[.pointer (some ⟨g, 0, none⟩)] w fun e w' => e = .returned (.int .i8 (IntKind.i8.wrap (rdNum 1 xs f).out)) ∧ ReadsTo w g v (rdNum 1 xs f) w' := by
  have H : Hid (IsR w g v xs f ∧ Byts xs) := ⟨h, hb⟩
  clear h hb
  go_enter Tryz.func43, Tryz.ntmps43
  go_wp2_with fail
  refine (rNumber_any g v xs f 1 _ H.out.1 H.out.2 (by omega)).mono ?_
  rintro e w1 ⟨rfl, hr⟩
  have HR : Hid (ReadsTo w g v (rdNum 1 xs f) w1) := hr
  clear hr
  go_wp2
  go_ret
  exact ⟨rfl, HR.out⟩

theorem rEnd_any (h : IsR w g v xs f) :
    Calls Tryz.prog 45 #[.pointer (some ⟨g, 0, none⟩)] w fun e w' => e = .returned (.int .i64 (if f ≠ 0 then f else if xs = [] then 0 else 13)) ∧ w' = w := by
  have h1 := h.c1
  have H : Hid (IsR w g v xs f) := h
  obtain ⟨ao, cap, rfl, q1, q2, _, _⟩ := h.2
  unfold maxLen at q2
  clear h
  by_cases hf : f = 0
  · subst hf
    rw [if_neg (by simp)]
    by_cases hx : xs = []
    · rw [if_pos hx]
      have hl : xs.length = 0 := by rw [hx]; rfl
      clear hx
      have hl' : ¬ (0 : Int) < (xs.length : Int) := by omega
      have HL : Hid (xs.length = 0) := hl
      clear hl
      go_enter Tryz.func45, Tryz.ntmps45
      go_wp2_with fail
      refine (rErr_any g _ xs 0 _ H.out).mono ?_
      rintro e w1 ⟨rfl, rfl⟩
      go_wp2
      go_ret
      exact ⟨rfl, rfl⟩
    · rw [if_neg hx]
      have hl : 0 < xs.length := List.length_pos_iff.2 hx
      clear hx
      go_enter Tryz.func45, Tryz.ntmps45
      go_wp2_with fail
      refine (rErr_any g _ xs 0 _ H.out).mono ?_
      rintro e w1 ⟨rfl, rfl⟩
      go_wp2
      go_ret
      exact ⟨rfl, rfl⟩
  · rw [if_pos hf]
    have hf' : (f != 0) = true := by simp [hf]
    clear hf
    go_enter Tryz.func45, Tryz.ntmps45
    go_wp2_with fail
    refine (rErr_any g _ xs f _ H.out).mono ?_
    rintro e w1 ⟨rfl, rfl⟩
    go_wp2
    go_ret
    exact ⟨rfl, rfl⟩

end
end Go.Proofs.YtdbphdllibffnaaGreat

/- What the Reader's Float, Buffer and Text do. -/
namespace Go.Proofs.YtdbphdllibffnaaGreat
open Go.RowKit
set_option maxRecDepth 8000

section
variable (g : Nat) (v : Value) (xs : List Int) (f : Int) (w : World)

end
end Go.Proofs.YtdbphdllibffnaaGreat

/- Requests and transactions as data, and what it means that they lie in memory; no Go function is walked here. -/
namespace Go.Proofs.YtdbphdllibffnaaGreat
open Go.RowKit
set_option maxRecDepth 8000

end Go.Proofs.YtdbphdllibffnaaGreat

/- The eight bytes of a whole number; no Go function is walked here. -/
namespace Go.Proofs.YtdbphdllibffnaaGreat

/-- The eight bytes of a number from 0 on. -/
def be8 (n : Int) : List Int := be4 (n / 4294967296) ++ be4 (n % 4294967296)

def up64 (n : Int) : Int := n % 18446744073709551616
theorem up64_bd (n : Int) : 0 ≤ up64 n ∧ up64 n ≤ 18446744073709551615 := by unfold up64; omega

end Go.Proofs.YtdbphdllibffnaaGreat

/- What the Writer's Int64 does, and put64 behind it: eight bytes, the highest first. -/
namespace Go.Proofs.YtdbphdllibffnaaGreat
open Go.RowKit
set_option maxRecDepth 8000

set_option maxHeartbeats 400000 in
theorem wPut64_any (g : Nat) (v : Value) (xs : List Int) (n : Int) (w : World) (h : IsW w g v xs) (hn : 0 ≤ n) (hn' : n ≤ 18446744073709551615) (hb : xs.length + 8 ≤ 140737488355328) :
    Calls Tryz.prog 116 #[.pointer (some ⟨g, 0, none⟩), .int .u64 n] w fun e w' => e = .returned (.tuple #[]) ∧ Puts w g v (xs ++ be8 n) w' := by
  have H : Hid (IsW w g v xs) := h
  clear h
  have hq : n / 4294967296 ≤ 4294967295 := by omega
  go_enter Tryz.func116, Tryz.ntmps116
  go_wp2_with fail
  refine (wUint32_any g v xs (n / 4294967296) _ H.out (by omega) (by omega) (by omega)).mono ?_
  rintro e w1 ⟨rfl, hp⟩
  obtain ⟨v1, hw1, hn1, hk1⟩ := hp
  have HW1 : Hid (IsW w1 g v1 (xs ++ be4 (n / 4294967296)) ∧ NewRow w v v1 ∧ Kept w w1 (fun k => k = g ∨ v.ownBlock = some k)) := ⟨hw1, hn1, hk1⟩
  clear hw1 hn1 hk1
  go_wp2_with fail
  refine (wUint32_any g v1 _ (n % 4294967296) _ HW1.out.1 (by omega) (by omega) (by simp [be4]; omega)).mono ?_
  rintro e w2 ⟨rfl, hp2⟩
  have hp3 := Puts.next HW1.out.2.1 HW1.out.2.2 hp2
  rw [List.append_assoc] at hp3
  have HP : Hid (Puts w g v (xs ++ be8 n) w2) := hp3
  clear hp2 hp3
  go_wp2
  go_end0
  exact ⟨rfl, HP.out⟩

set_option maxHeartbeats 400000 in
theorem wInt64_any (g : Nat) (v : Value) (xs : List Int) (n : Int) (w : World) (h : IsW w g v xs) (hb : xs.length + 8 ≤ 140737488355328) :
    Calls Tryz.prog 81 #[.pointer (some ⟨g, 0, none⟩), .int .i64 n] w fun e w' => e = .returned (.tuple #[]) ∧ Puts w g v (xs ++ be8 (up64 n)) w' := by
  have H : Hid (IsW w g v xs) := h
  clear h
  go_enter Tryz.func81, Tryz.ntmps81
  go_wp2_with fail
  refine (wPut64_any g v xs (up64 n) _ H.out (up64_bd n).1 (up64_bd n).2 hb).mono ?_
  rintro e w1 ⟨rfl, hp⟩
  have HP : Hid (Puts w g v (xs ++ be8 (up64 n)) w1) := hp
  clear hp
  go_wp2
  go_end0
  exact ⟨rfl, HP.out⟩

end Go.Proofs.YtdbphdllibffnaaGreat

/- What the Writer's Raw does: it puts the bytes behind those that the Writer has. -/
namespace Go.Proofs.YtdbphdllibffnaaGreat
open Go.RowKit
set_option maxRecDepth 8000

end Go.Proofs.YtdbphdllibffnaaGreat

/- What the rest of the Writer's calls do: Bool, Int8, Float, Text and Buffer. -/
namespace Go.Proofs.YtdbphdllibffnaaGreat
open Go.RowKit
set_option maxRecDepth 8000

set_option maxHeartbeats 400000 in
theorem wInt8_any (g : Nat) (v : Value) (xs : List Int) (n : Int) (w : World) (h : IsW w g v xs) (hb : xs.length + 1 ≤ 140737488355328) :
    Calls Tryz.prog 77 #[.pointer (some ⟨g, 0, none⟩), .int .i8 n] w fun e w' => e = .returned (.tuple #[]) ∧ Puts w g v (xs ++ [n % 256]) w' := by
  have H : Hid (IsW w g v xs) := h
  clear h
  go_enter Tryz.func77, Tryz.ntmps77
  go_wp2_with fail
  refine (add_any g v _ xs [n % 256] _ (H.out.alloc _) (sees_new _ [n % 256] (by simp) rfl) hb).mono ?_
  rintro e w1 ⟨rfl, hp⟩
  have HP : Hid (Puts w g v (xs ++ [n % 256]) w1) := hp.of_alloc
  clear hp
  go_wp2
  go_end0
  exact ⟨rfl, HP.out⟩

end Go.Proofs.YtdbphdllibffnaaGreat

/- Zxids: what Compare, Pack, Unpack and Next of package txn, and the document's own, answer. -/
namespace Go.Proofs.YtdbphdllibffnaaGreat
open Go.RowKit
set_option maxRecDepth 8000

end Go.Proofs.YtdbphdllibffnaaGreat

/- What the small parts of txn.Check answer: isZxid, isOrigin, the layouts, names, bit, filled, needed. -/
namespace Go.Proofs.YtdbphdllibffnaaGreat
open Go.RowKit
set_option maxRecDepth 8000

end Go.Proofs.YtdbphdllibffnaaGreat

/- What putId, and PutList of ids with it, put behind a Writer's bytes. -/
namespace Go.Proofs.YtdbphdllibffnaaGreat
open Go.RowKit
set_option maxRecDepth 8000

end Go.Proofs.YtdbphdllibffnaaGreat

/- What putEntry, and PutList of entries with it, put behind a Writer's bytes. -/
namespace Go.Proofs.YtdbphdllibffnaaGreat
open Go.RowKit
set_option maxRecDepth 8000

end Go.Proofs.YtdbphdllibffnaaGreat

/- What mayBe of package txn answers, for every request: by its bits, and by isBounded's answer. -/
namespace Go.Proofs.YtdbphdllibffnaaGreat
open Go.RowKit
set_option maxRecDepth 8000

end Go.Proofs.YtdbphdllibffnaaGreat

/- What txn.Check answers where the zxid and the origin may be: by mayBe's answer. -/
namespace Go.Proofs.YtdbphdllibffnaaGreat
open Go.RowKit
set_option maxRecDepth 8000

end Go.Proofs.YtdbphdllibffnaaGreat

/- A row of cells that is stored over, cell by cell; a result that lies in a variable. No Go function is walked here. -/
namespace Go.Proofs.YtdbphdllibffnaaGreat
open Go.RowKit
set_option maxRecDepth 8000

end Go.Proofs.YtdbphdllibffnaaGreat

/- A Reader at bytes that a Writer laid: each call tells what was written, and leaves the rest. getId and getEntry of package txn. -/
namespace Go.Proofs.YtdbphdllibffnaaGreat
open Go.RowKit
set_option maxRecDepth 8000

theorem bk_num4 (n : Int) : num (be4 n) = n := by
  simp only [num, be4, List.foldl_cons, List.foldl_nil]
  omega
theorem bk_num8 (n : Int) : num (be8 n) = n := by
  simp only [num, be8, be4, List.cons_append, List.nil_append, List.foldl_cons, List.foldl_nil]
  omega
theorem bk_take {a b : List Int} {n : Nat} (h : a.length = n) : (a ++ b).take n = a := by rw [← h]; simp
theorem bk_drop {a b : List Int} {n : Nat} (h : a.length = n) : (a ++ b).drop n = b := by rw [← h]; simp
theorem bk_rdNum {n : Nat} {a b : List Int} (h : a.length = n) : rdNum n (a ++ b) 0 = ⟨num a, b, 0⟩ := by
  unfold rdNum
  rw [if_neg (by simp), if_neg (by rw [List.length_append]; omega), bk_take h, bk_drop h]
section
variable {g : Nat} {v : Value} {rest : List Int} {w : World}

theorem gI8 (x : Int) (h : IsR w g v ([x % 256] ++ rest) 0) (hb : Byts ([x % 256] ++ rest)) (h0 : -128 ≤ x) (h1 : x ≤ 127) :
    Calls Tryz.prog 43 #[.pointer (some ⟨g, 0, none⟩)] w fun e w' => e = .returned (.int .i8 x) ∧ ReadsTo w g v ⟨0, rest, 0⟩ w' := by
  refine (rInt8_any g v _ 0 w h hb).mono ?_
  rintro e w' ⟨rfl, hr⟩
  rw [bk_rdNum (n := 1) rfl] at hr ⊢
  have hw : IntKind.i8.wrap (num [x % 256]) = x := by
    have : num [x % 256] = x % 256 := by simp [num]
    rw [this]
    simp [IntKind.wrap, IntKind.bits, IntKind.signed]
    omega
  exact ⟨by simp only [hw], hr⟩

theorem gU32 (x : Int) (h : IsR w g v (be4 x ++ rest) 0) (hb : Byts (be4 x ++ rest)) :
    Calls Tryz.prog 87 #[.pointer (some ⟨g, 0, none⟩)] w fun e w' => e = .returned (.int .u32 x) ∧ ReadsTo w g v ⟨0, rest, 0⟩ w' := by
  refine (rUint32_any g v _ 0 w h hb).mono ?_
  rintro e w' ⟨rfl, hr⟩
  rw [bk_rdNum (n := 4) rfl] at hr ⊢
  exact ⟨by simp only [bk_num4], hr⟩

theorem gI64 (x : Int) (h : IsR w g v (be8 (up64 x) ++ rest) 0) (hb : Byts (be8 (up64 x) ++ rest)) (h0 : -9223372036854775808 ≤ x) (h1 : x ≤ 9223372036854775807) :
    Calls Tryz.prog 89 #[.pointer (some ⟨g, 0, none⟩)] w fun e w' => e = .returned (.int .i64 x) ∧ ReadsTo w g v ⟨0, rest, 0⟩ w' := by
  refine (rInt64_any g v _ 0 w h hb).mono ?_
  rintro e w' ⟨rfl, hr⟩
  rw [bk_rdNum (n := 8) rfl] at hr ⊢
  have hw : wrap64 (num (be8 (up64 x))) = x := by
    rw [bk_num8]
    unfold wrap64 up64
    omega
  exact ⟨by simp only [hw], hr⟩

end
end Go.Proofs.YtdbphdllibffnaaGreat

/- What the statements' own first look 'works' answers: true; nothing that was there before is changed. -/
namespace Go.Proofs.YtdbphdllibffnaaGreat
open Go.RowKit
set_option maxRecDepth 8000

theorem below_writer {B : Nat} {w w' : World} {g : Nat} {v : Value} (h : Kept w w' (fun k => k = g ∨ v.ownBlock = some k)) (hB : B ≤ w.heap.size) (hg : B ≤ g) (hv : ∀ k, v.ownBlock = some k → B ≤ k) : Below B w w' := by
  refine h.below hB (fun k hk => ?_)
  rcases hk with hk | hk
  · omega
  · exact hv k hk

theorem below_reader {B : Nat} {w w' : World} {g : Nat} (h : Kept w w' (· = g)) (hB : B ≤ w.heap.size) (hg : B ≤ g) : Below B w w' :=
  h.below hB (fun k hk => by omega)

end Go.Proofs.YtdbphdllibffnaaGreat

/- What frame.isSize and frame.head answer: whether a body may have that many bytes; the four bytes of a body's length and the four of its sum. -/
namespace Go.Proofs.YtdbphdllibffnaaGreat
open Go.RowKit
set_option maxRecDepth 8000

/-- May a body have n bytes? -/
def isSz (n : Int) : Bool := decide (1 ≤ n) && decide (n ≤ 1048576)

theorem isSize_any (n : Int) (w : World) : Calls Tryz.prog 75 #[.int .i64 n] w fun e w' => e = .returned (.bool (isSz n)) ∧ w' = w := by
  unfold isSz
  by_cases h1 : 1 ≤ n
  · by_cases h2 : n ≤ 1048576
    · have d1 : decide (1 ≤ n) = true := by simp [h1]
      have d2 : decide (n ≤ 1048576) = true := by simp [h2]
      go_enter Tryz.func75, Tryz.ntmps75
      go_wp2
      go_ret
      exact ⟨by simp [h1, h2], rfl⟩
    · have d1 : decide (1 ≤ n) = true := by simp [h1]
      have d2 : decide (n ≤ 1048576) = false := by simp; omega
      go_enter Tryz.func75, Tryz.ntmps75
      go_wp2
      go_ret
      exact ⟨by simp, rfl⟩
  · have d1 : decide (1 ≤ n) = false := by simp; omega
    go_enter Tryz.func75, Tryz.ntmps75
    go_wp2
    go_ret
    exact ⟨by simp, rfl⟩

/-- What stands ahead of a body in its frame. -/
def headL (xs : List Int) : List Int := be4 xs.length ++ be4 (adler xs)
/-- The same as an array. -/
def headV (xs : List Int) : Value := .agg ((headL xs).map (Value.int .u8)).toArray

theorem isW_new (w : World) : IsW (w.alloc (.cells #[.slice none 0 0] 112)) w.heap.size (.slice none 0 0) [] := ⟨heap_alloc_new _ _, World.ownsRow_nil _ _ _ _⟩

/-- Eight cells of a list of eight bytes. -/
theorem eight (xs : List Int) : ∃ a b c d e f g h : Int, headL xs = [a, b, c, d, e, f, g, h] := ⟨_, _, _, _, _, _, _, _, rfl⟩

set_option maxHeartbeats 1000000 in
theorem head_any (v : Value) (xs : List Int) (w : World) (h : Sees w v xs) (hb : Byts xs) (hl : xs.length < 4294967296) :
    Calls Tryz.prog 76 #[v] w fun e w' => e = .returned (headV xs) ∧ Below w.heap.size w w' := by
  have H : Hid (Sees w v xs ∧ Byts xs) := ⟨h, hb⟩
  have hab := adler_bd xs
  have ha1 := hab.1
  have ha2 := hab.2
  obtain ⟨ao, cap, rfl, g1, g2, g0, g3⟩ := h
  clear g3 hb g0 hab
  unfold maxLen at g2
  go_enter Tryz.func76, Tryz.ntmps76
  go_wp2_with fail
  refine (wUint32_any (w.heap.size + 1) (.slice none 0 0) [] xs.length _ (by have := isW_new (w.alloc (.cells #[.int .u8 0, .int .u8 0, .int .u8 0, .int .u8 0, .int .u8 0, .int .u8 0, .int .u8 0, .int .u8 0] 109)); rwa [World.size_alloc] at this) (by omega) (by omega) (by simp)).mono ?_
  rintro e w1 ⟨rfl, v1, k1, k2, k3⟩
  have B1 : Below w.heap.size w w1 := (((Below.refl w.heap.size w).alloc (Nat.le_refl _) _).alloc (by simp) _).trans (below_writer k3 (by simp; omega) (by omega) (fun k hk => by simp [Value.ownBlock] at hk))
  have n1 : w1.heap[w.heap.size]? = some (.cells #[.int .u8 0, .int .u8 0, .int .u8 0, .int .u8 0, .int .u8 0, .int .u8 0, .int .u8 0, .int .u8 0] 109 (0, 0)) := by
    refine k3.heap (k := w.heap.size) ?_ (fun hs => ?_)
    · rw [Below.heap_alloc _ _ _ (by simp)]; exact heap_alloc_new _ _
    · rcases hs with hs | hs
      · omega
      · simp [Value.ownBlock] at hs
  have r1 : ∀ k, v1.ownBlock = some k → w.heap.size + 1 < k := by
    intro k hk
    rcases k2 with e | ⟨j, e, hj⟩
    · rw [e] at hk; simp [Value.ownBlock] at hk
    · rw [e] at hk; simp at hk hj; omega
  have H1 : Hid (IsW w1 (w.heap.size + 1) v1 (be4 xs.length) ∧ Below w.heap.size w w1 ∧ w1.heap[w.heap.size]? = some (.cells #[.int .u8 0, .int .u8 0, .int .u8 0, .int .u8 0, .int .u8 0, .int .u8 0, .int .u8 0, .int .u8 0] 109 (0, 0)) ∧ (∀ k, v1.ownBlock = some k → w.heap.size + 1 < k)) := ⟨k1, B1, n1, r1⟩
  clear k1 k2 k3 B1 n1 r1
  go_wp2_with fail
  refine (packSum_any _ xs _ (H.out.1.below H1.out.2.1 (Nat.le_refl _)) H.out.2).mono ?_
  rintro e w2 ⟨rfl, rfl⟩
  go_wp2_with fail
  refine (wUint32_any (w.heap.size + 1) v1 (be4 xs.length) (adler xs) _ H1.out.1 ha1 ha2 (by simp [be4])).mono ?_
  rintro e w3 ⟨rfl, v3, k1, k2, k3⟩
  have B3 : Below w.heap.size w w3 := H1.out.2.1.trans (below_writer k3 H1.out.2.1.size (by omega) (fun k hk => by have := H1.out.2.2.2 k hk; omega))
  have n3 : w3.heap[w.heap.size]? = some (.cells #[.int .u8 0, .int .u8 0, .int .u8 0, .int .u8 0, .int .u8 0, .int .u8 0, .int .u8 0, .int .u8 0] 109 (0, 0)) := by
    refine k3.heap (k := w.heap.size) H1.out.2.2.1 (fun hs => ?_)
    rcases hs with hs | hs
    · omega
    · have := H1.out.2.2.2 _ hs; omega
  have H3 : Hid (IsW w3 (w.heap.size + 1) v3 (headL xs) ∧ Below w.heap.size w w3 ∧ w3.heap[w.heap.size]? = some (.cells #[.int .u8 0, .int .u8 0, .int .u8 0, .int .u8 0, .int .u8 0, .int .u8 0, .int .u8 0, .int .u8 0] 109 (0, 0))) := ⟨k1, B3, n3⟩
  clear k1 k2 k3 B3 n3 H1
  go_wp2_with fail
  refine (wBytes_any (w.heap.size + 1) v3 (headL xs) _ H3.out.1 (by simp [headL, be4])).mono ?_
  rintro e w4 ⟨v4, rfl, ho, hb4⟩
  obtain ⟨g, c, rfl, hg⟩ := owns_some ho (by simp [headL, be4])
  have n4 : w4.heap[w.heap.size]? = some (.cells #[.int .u8 0, .int .u8 0, .int .u8 0, .int .u8 0, .int .u8 0, .int .u8 0, .int .u8 0, .int .u8 0] 109 (0, 0)) := by
    rw [hb4.block w.heap.size (lt_of_block H3.out.2.2)]; exact H3.out.2.2
  have hl8 : (headL xs).length = 8 := by simp [headL, be4]
  have HB : Hid (Below w.heap.size w w4 ∧ w4.heap[w.heap.size]? = some (.cells #[.int .u8 0, .int .u8 0, .int .u8 0, .int .u8 0, .int .u8 0, .int .u8 0, .int .u8 0, .int .u8 0] 109 (0, 0))) := ⟨H3.out.2.1.trans ⟨hb4.os, hb4.tape, hb4.output, hb4.size, fun k hk => hb4.block k (by have := H3.out.2.1.size; omega)⟩, n4⟩
  have hg4 : g ≠ w.heap.size := by have := lt_of_block H3.out.2.2; omega
  have fr : ∀ j, w4.frozen? ⟨w.heap.size, j, none⟩ = false := fun j => frozen_of_row w4 w.heap.size j _ _ n4
  have HV : Hid (headV xs = .agg ((headL xs).map (Value.int .u8)).toArray) := (rfl : headV xs = _)
  have oc := owns_cell ho
  obtain ⟨b0, b1, b2, b3, b4, b5, b6, b7, hh⟩ := eight xs
  rw [hh] at oc hl8 HV
  rw [hh]
  have q0 : w4.cell? ⟨g, 0, none⟩ = some (.int .u8 b0) := oc 0 (by simp)
  have q1 : w4.cell? ⟨g, 1, none⟩ = some (.int .u8 b1) := oc 1 (by simp)
  have q2 : w4.cell? ⟨g, 2, none⟩ = some (.int .u8 b2) := oc 2 (by simp)
  have q3 : w4.cell? ⟨g, 3, none⟩ = some (.int .u8 b3) := oc 3 (by simp)
  have q4 : w4.cell? ⟨g, 4, none⟩ = some (.int .u8 b4) := oc 4 (by simp)
  have q5 : w4.cell? ⟨g, 5, none⟩ = some (.int .u8 b5) := oc 5 (by simp)
  have q6 : w4.cell? ⟨g, 6, none⟩ = some (.int .u8 b6) := oc 6 (by simp)
  have q7 : w4.cell? ⟨g, 7, none⟩ = some (.int .u8 b7) := oc 7 (by simp)
  have z : ∀ j, j < 8 → w4.cell? ⟨w.heap.size, j, none⟩ = (#[.int .u8 0, .int .u8 0, .int .u8 0, .int .u8 0, .int .u8 0, .int .u8 0, .int .u8 0, .int .u8 0] : Array Value)[j]? := fun j _ => cell_of_row w4 w.heap.size j _ _ _ n4
  have z0 : w4.cell? ⟨w.heap.size, 0, none⟩ = some (.int .u8 0) := z 0 (by omega)
  have z1 : w4.cell? ⟨w.heap.size, 1, none⟩ = some (.int .u8 0) := z 1 (by omega)
  have z2 : w4.cell? ⟨w.heap.size, 2, none⟩ = some (.int .u8 0) := z 2 (by omega)
  have z3 : w4.cell? ⟨w.heap.size, 3, none⟩ = some (.int .u8 0) := z 3 (by omega)
  have z4 : w4.cell? ⟨w.heap.size, 4, none⟩ = some (.int .u8 0) := z 4 (by omega)
  have z5 : w4.cell? ⟨w.heap.size, 5, none⟩ = some (.int .u8 0) := z 5 (by omega)
  have z6 : w4.cell? ⟨w.heap.size, 6, none⟩ = some (.int .u8 0) := z 6 (by omega)
  have z7 : w4.cell? ⟨w.heap.size, 7, none⟩ = some (.int .u8 0) := z 7 (by omega)
  have f0 := fr 0
  have f1 := fr 1
  have f2 := fr 2
  have f3 := fr 3
  have f4 := fr 4
  have f5 := fr 5
  have f6 := fr 6
  have f7 := fr 7
  have hat : ∀ w, (Instr.arrayAt 109 (.slice (some ⟨g, 0, none⟩) 8 c)).run Tryz.prog w = .ok (.pointer (some ⟨g, 0, none⟩)) w := fun w => run_arrayAt w 109 _ 8 _ 8 c Tryz.underlying109 (Nat.le_refl _)
  clear ho hb4 H3 oc z fr n4 hh hl8
  go_wp2
  refine bodyPost_ret (v := .agg #[.int .u8 b0, .int .u8 b1, .int .u8 b2, .int .u8 b3, .int .u8 b4, .int .u8 b5, .int .u8 b6, .int .u8 b7]) ?_ rfl ⟨by rw [HV.out]; rfl, ((((((((HB.out.1.setCell (p := ⟨w.heap.size, 0, none⟩) (Nat.le_refl _) _).setCell (p := ⟨w.heap.size, 1, none⟩) (Nat.le_refl _) _).setCell (p := ⟨w.heap.size, 2, none⟩) (Nat.le_refl _) _).setCell (p := ⟨w.heap.size, 3, none⟩) (Nat.le_refl _) _).setCell (p := ⟨w.heap.size, 4, none⟩) (Nat.le_refl _) _).setCell (p := ⟨w.heap.size, 5, none⟩) (Nat.le_refl _) _).setCell (p := ⟨w.heap.size, 6, none⟩) (Nat.le_refl _) _).setCell (p := ⟨w.heap.size, 7, none⟩) (Nat.le_refl _) _)⟩
  have hres : Tryz.f76.results = #[.cell 2 109] := by kernel_rfl
  simp only [results, hres]
  go_simp

end Go.Proofs.YtdbphdllibffnaaGreat
