/- What the Reader's size does: it looks at a length, or at a count, and stays ahead of it; the fault where it may not be. -/
import Derived.Test.YtjdigknhiopdeaaGreatReaderJ
import Derived.WalkKit
import Derived.Laws.FloatArith
import Derived.Laws.Externs
import Derived.WalkLawsBesides
import Derived.Laws.BytesArg
import Derived.Test.YtjdigknhiopdeaaGreatMemJ
import Derived.Test.YtjdigknhiopdeaaGreatWriterJ
import Derived.Laws.IdiomStrings
import Derived.Test.YtjdigknhiopdeaaGreatProg
import Derived.Laws.StructEq
import Derived.Lib.LaidTab
import Derived.Deep.RegionHeld
import Derived.BigQuiet
import Derived.Defers
import Derived.Recover
import Derived.Test.YtjdigknhiopdeaaGreatDkTJ
namespace Go.Proofs.YtjdigknhiopdeaaGreat
open Go.RowKit
set_option maxRecDepth 8000

section
variable (g : Nat) (v : Value) (xs : List Int) (most : Int) (w : World)

end
end Go.Proofs.YtjdigknhiopdeaaGreat

/- Plain facts on IEEE 754 doubles as words: what a word with sign, exponent and fraction stands for, and that doubling, halving, comparing and taking 1 away are exact where the document's own Bits does them; no Go function is walked here. -/
namespace Go.Proofs.YtjdigknhiopdeaaGreat
open Ieee
set_option maxRecDepth 8000

end Go.Proofs.YtjdigknhiopdeaaGreat

/- More plain facts on IEEE 754 doubles: what stands behind the point taken back as a whole number; 1 taken away. -/
namespace Go.Proofs.YtjdigknhiopdeaaGreat
open Ieee
set_option maxRecDepth 8000

end Go.Proofs.YtjdigknhiopdeaaGreat

/- A float's bits with one form for what is not a number; what is a number is like itself. -/
namespace Go.Proofs.YtjdigknhiopdeaaGreat
open Ieee
set_option maxRecDepth 8000

end Go.Proofs.YtjdigknhiopdeaaGreat

/- What the rest of the Reader's calls do: Bool, Int8, Uint32, Int64, Float, Buffer, Raw, Fail and End. -/
namespace Go.Proofs.YtjdigknhiopdeaaGreat
open Go.RowKit
set_option maxRecDepth 8000

section
variable (g : Nat) (v : Value) (xs : List Int) (f : Int) (w : World)

set_option maxHeartbeats 400000 in
theorem rUint32_any (h : IsR w g v xs f) (hb : Byts xs) :
    Calls Tryz.prog 37 #[.pointer (some ⟨g, 0, none⟩)] w fun e w' => e = .returned (.int .u32 (rdNum 4 xs f).out) ∧ ReadsTo w g v (rdNum 4 xs f) w' := by
  have hbd := rdNum_bd 4 xs f hb
  have h4 : (256 : Int) ^ 4 = 4294967296 := by decide
  rw [h4] at hbd
  have b1 := hbd.1
  have b2 := hbd.2
  have H : Hid (IsR w g v xs f ∧ Byts xs) := ⟨h, hb⟩
  clear h hb h4 hbd
  go_enter Tryz.func37, Tryz.ntmps37
  go_wp2_with fail
  refine (rNumber_any g v xs f 4 _ H.out.1 H.out.2 (by omega)).mono ?_
  rintro e w1 ⟨rfl, hr⟩
  have HR : Hid (ReadsTo w g v (rdNum 4 xs f) w1) := hr
  clear hr
  go_wp2
  go_ret
  exact ⟨rfl, HR.out⟩

set_option maxHeartbeats 400000 in
theorem rInt64_any (h : IsR w g v xs f) (hb : Byts xs) :
    Calls Tryz.prog 39 #[.pointer (some ⟨g, 0, none⟩)] w fun e w' => e = .returned (.int .i64 (wrap64 (rdNum 8 xs f).out)) ∧ ReadsTo w g v (rdNum 8 xs f) w' := by
  have H : Hid (IsR w g v xs f ∧ Byts xs) := ⟨h, hb⟩
  clear h hb
  go_enter Tryz.func39, Tryz.ntmps39
  go_wp2_with fail
  refine (rNumber_any g v xs f 8 _ H.out.1 H.out.2 (by omega)).mono ?_
  rintro e w1 ⟨rfl, hr⟩
  have HR : Hid (ReadsTo w g v (rdNum 8 xs f) w1) := hr
  clear hr
  go_wp2
  go_ret
  exact ⟨rfl, HR.out⟩

set_option maxHeartbeats 400000 in
theorem rInt8_any (h : IsR w g v xs f) (hb : Byts xs) :
    Calls Tryz.prog 18 #[.pointer (some ⟨g, 0, none⟩)] w fun e w' => e = .returned (.int .i8 (IntKind.i8.wrap (rdNum 1 xs f).out)) ∧ ReadsTo w g v (rdNum 1 xs f) w' := by
  have H : Hid (IsR w g v xs f ∧ Byts xs) := ⟨h, hb⟩
  clear h hb
  go_enter Tryz.func18, Tryz.ntmps18
  go_wp2_with fail
  refine (rNumber_any g v xs f 1 _ H.out.1 H.out.2 (by omega)).mono ?_
  rintro e w1 ⟨rfl, hr⟩
  have HR : Hid (ReadsTo w g v (rdNum 1 xs f) w1) := hr
  clear hr
  go_wp2
  go_ret
  exact ⟨rfl, HR.out⟩

theorem rEnd_any (h : IsR w g v xs f) :
    Calls Tryz.prog 20 #[.pointer (some ⟨g, 0, none⟩)] w fun e w' => e = .returned (.int .i64 (if f ≠ 0 then f else if xs = [] then 0 else 13)) ∧ w' = w := by
  have h1 := h.c1
  have H : Hid (IsR w g v xs f) := h
  obtain ⟨ao, cap, rfl, q1, q2, _, _⟩ := h.2
  unfold maxLen at q2
  clear h
  by_cases hf : f = 0
  · subst hf
    rw [if_neg (by simp)]
    by_cases hx : xs = []
    · rw [if_pos hx]
      have hl : xs.length = 0 := by rw [hx]; rfl
      clear hx
      have hl' : ¬ (0 : Int) < (xs.length : Int) := by omega
      have HL : Hid (xs.length = 0) := hl
      clear hl
      go_enter Tryz.func20, Tryz.ntmps20
      go_wp2_with fail
      refine (rErr_any g _ xs 0 _ H.out).mono ?_
      rintro e w1 ⟨rfl, rfl⟩
      go_wp2
      go_ret
      exact ⟨rfl, rfl⟩
    · rw [if_neg hx]
      have hl : 0 < xs.length := List.length_pos_iff.2 hx
      clear hx
      go_enter Tryz.func20, Tryz.ntmps20
      go_wp2_with fail
      refine (rErr_any g _ xs 0 _ H.out).mono ?_
      rintro e w1 ⟨rfl, rfl⟩
      go_wp2
      go_ret
      exact ⟨rfl, rfl⟩
  · rw [if_pos hf]
    have hf' : (f != 0) = true := by simp [hf]
    clear hf
    go_enter Tryz.func20, Tryz.ntmps20
    go_wp2_with fail
    refine (rErr_any g _ xs f _ H.out).mono ?_
    rintro e w1 ⟨rfl, rfl⟩
    go_wp2
    go_ret
    exact ⟨rfl, rfl⟩

end
end Go.Proofs.YtjdigknhiopdeaaGreat

/- What the Reader's Float, Buffer and Text do. -/
namespace Go.Proofs.YtjdigknhiopdeaaGreat
open Go.RowKit
set_option maxRecDepth 8000

section
variable (g : Nat) (v : Value) (xs : List Int) (f : Int) (w : World)

end
end Go.Proofs.YtjdigknhiopdeaaGreat

/- Requests and transactions as data, and what it means that they lie in memory; no Go function is walked here. -/
namespace Go.Proofs.YtjdigknhiopdeaaGreat
open Go.RowKit
set_option maxRecDepth 8000

end Go.Proofs.YtjdigknhiopdeaaGreat

/- The eight bytes of a whole number; no Go function is walked here. -/
namespace Go.Proofs.YtjdigknhiopdeaaGreat

/-- The eight bytes of a number from 0 on. -/
def be8 (n : Int) : List Int := be4 (n / 4294967296) ++ be4 (n % 4294967296)

def up64 (n : Int) : Int := n % 18446744073709551616
theorem up64_bd (n : Int) : 0 ≤ up64 n ∧ up64 n ≤ 18446744073709551615 := by unfold up64; omega

end Go.Proofs.YtjdigknhiopdeaaGreat

/- What the Writer's Int64 does, and put64 behind it: eight bytes, the highest first. -/
namespace Go.Proofs.YtjdigknhiopdeaaGreat
open Go.RowKit
set_option maxRecDepth 8000

set_option maxHeartbeats 400000 in
theorem wPut64_any (g : Nat) (v : Value) (xs : List Int) (n : Int) (w : World) (h : IsW w g v xs) (hn : 0 ≤ n) (hn' : n ≤ 18446744073709551615) (hb : xs.length + 8 ≤ 140737488355328) :
    Calls Tryz.prog 76 #[.pointer (some ⟨g, 0, none⟩), .int .u64 n] w fun e w' => e = .returned (.tuple #[]) ∧ Puts w g v (xs ++ be8 n) w' := by
  have H : Hid (IsW w g v xs) := h
  clear h
  have hq : n / 4294967296 ≤ 4294967295 := by omega
  go_enter Tryz.func76, Tryz.ntmps76
  go_wp2_with fail
  refine (wUint32_any g v xs (n / 4294967296) _ H.out (by omega) (by omega) (by omega)).mono ?_
  rintro e w1 ⟨rfl, hp⟩
  obtain ⟨v1, hw1, hn1, hk1⟩ := hp
  have HW1 : Hid (IsW w1 g v1 (xs ++ be4 (n / 4294967296)) ∧ NewRow w v v1 ∧ Kept w w1 (fun k => k = g ∨ v.ownBlock = some k)) := ⟨hw1, hn1, hk1⟩
  clear hw1 hn1 hk1
  go_wp2_with fail
  refine (wUint32_any g v1 _ (n % 4294967296) _ HW1.out.1 (by omega) (by omega) (by simp [be4]; omega)).mono ?_
  rintro e w2 ⟨rfl, hp2⟩
  have hp3 := Puts.next HW1.out.2.1 HW1.out.2.2 hp2
  rw [List.append_assoc] at hp3
  have HP : Hid (Puts w g v (xs ++ be8 n) w2) := hp3
  clear hp2 hp3
  go_wp2
  go_end0
  exact ⟨rfl, HP.out⟩

set_option maxHeartbeats 400000 in
theorem wInt64_any (g : Nat) (v : Value) (xs : List Int) (n : Int) (w : World) (h : IsW w g v xs) (hb : xs.length + 8 ≤ 140737488355328) :
    Calls Tryz.prog 53 #[.pointer (some ⟨g, 0, none⟩), .int .i64 n] w fun e w' => e = .returned (.tuple #[]) ∧ Puts w g v (xs ++ be8 (up64 n)) w' := by
  have H : Hid (IsW w g v xs) := h
  clear h
  go_enter Tryz.func53, Tryz.ntmps53
  go_wp2_with fail
  refine (wPut64_any g v xs (up64 n) _ H.out (up64_bd n).1 (up64_bd n).2 hb).mono ?_
  rintro e w1 ⟨rfl, hp⟩
  have HP : Hid (Puts w g v (xs ++ be8 (up64 n)) w1) := hp
  clear hp
  go_wp2
  go_end0
  exact ⟨rfl, HP.out⟩

end Go.Proofs.YtjdigknhiopdeaaGreat

/- What the Writer's Raw does: it puts the bytes behind those that the Writer has. -/
namespace Go.Proofs.YtjdigknhiopdeaaGreat
open Go.RowKit
set_option maxRecDepth 8000

end Go.Proofs.YtjdigknhiopdeaaGreat

/- What the rest of the Writer's calls do: Bool, Int8, Float, Text and Buffer. -/
namespace Go.Proofs.YtjdigknhiopdeaaGreat
open Go.RowKit
set_option maxRecDepth 8000

set_option maxHeartbeats 400000 in
theorem wInt8_any (g : Nat) (v : Value) (xs : List Int) (n : Int) (w : World) (h : IsW w g v xs) (hb : xs.length + 1 ≤ 140737488355328) :
    Calls Tryz.prog 49 #[.pointer (some ⟨g, 0, none⟩), .int .i8 n] w fun e w' => e = .returned (.tuple #[]) ∧ Puts w g v (xs ++ [n % 256]) w' := by
  have H : Hid (IsW w g v xs) := h
  clear h
  go_enter Tryz.func49, Tryz.ntmps49
  go_wp2_with fail
  refine (add_any g v _ xs [n % 256] _ (H.out.alloc _) (sees_new _ [n % 256] (by simp) rfl) hb).mono ?_
  rintro e w1 ⟨rfl, hp⟩
  have HP : Hid (Puts w g v (xs ++ [n % 256]) w1) := hp.of_alloc
  clear hp
  go_wp2
  go_end0
  exact ⟨rfl, HP.out⟩

end Go.Proofs.YtjdigknhiopdeaaGreat

/- Zxids: what Compare, Pack, Unpack and Next of package txn, and the document's own, answer. -/
namespace Go.Proofs.YtjdigknhiopdeaaGreat
open Go.RowKit
set_option maxRecDepth 8000

end Go.Proofs.YtjdigknhiopdeaaGreat

/- What the small parts of txn.Check answer: isZxid, isOrigin, the layouts, names, bit, filled, needed. -/
namespace Go.Proofs.YtjdigknhiopdeaaGreat
open Go.RowKit
set_option maxRecDepth 8000

end Go.Proofs.YtjdigknhiopdeaaGreat

/- What putId, and PutList of ids with it, put behind a Writer's bytes. -/
namespace Go.Proofs.YtjdigknhiopdeaaGreat
open Go.RowKit
set_option maxRecDepth 8000

end Go.Proofs.YtjdigknhiopdeaaGreat

/- What putEntry, and PutList of entries with it, put behind a Writer's bytes. -/
namespace Go.Proofs.YtjdigknhiopdeaaGreat
open Go.RowKit
set_option maxRecDepth 8000

end Go.Proofs.YtjdigknhiopdeaaGreat

/- What mayBe of package txn answers, for every request: by its bits, and by isBounded's answer. -/
namespace Go.Proofs.YtjdigknhiopdeaaGreat
open Go.RowKit
set_option maxRecDepth 8000

end Go.Proofs.YtjdigknhiopdeaaGreat

/- What txn.Check answers where the zxid and the origin may be: by mayBe's answer. -/
namespace Go.Proofs.YtjdigknhiopdeaaGreat
open Go.RowKit
set_option maxRecDepth 8000

end Go.Proofs.YtjdigknhiopdeaaGreat

/- A row of cells that is stored over, cell by cell; a result that lies in a variable. No Go function is walked here. -/
namespace Go.Proofs.YtjdigknhiopdeaaGreat
open Go.RowKit
set_option maxRecDepth 8000

end Go.Proofs.YtjdigknhiopdeaaGreat

/- A Reader at bytes that a Writer laid: each call tells what was written, and leaves the rest. getId and getEntry of package txn. -/
namespace Go.Proofs.YtjdigknhiopdeaaGreat
open Go.RowKit
set_option maxRecDepth 8000

theorem bk_num4 (n : Int) : num (be4 n) = n := by
  simp only [num, be4, List.foldl_cons, List.foldl_nil]
  omega
theorem bk_num8 (n : Int) : num (be8 n) = n := by
  simp only [num, be8, be4, List.cons_append, List.nil_append, List.foldl_cons, List.foldl_nil]
  omega
theorem bk_take {a b : List Int} {n : Nat} (h : a.length = n) : (a ++ b).take n = a := by rw [← h]; simp
theorem bk_drop {a b : List Int} {n : Nat} (h : a.length = n) : (a ++ b).drop n = b := by rw [← h]; simp
theorem bk_rdNum {n : Nat} {a b : List Int} (h : a.length = n) : rdNum n (a ++ b) 0 = ⟨num a, b, 0⟩ := by
  unfold rdNum
  rw [if_neg (by simp), if_neg (by rw [List.length_append]; omega), bk_take h, bk_drop h]
section
variable {g : Nat} {v : Value} {rest : List Int} {w : World}

theorem gI8 (x : Int) (h : IsR w g v ([x % 256] ++ rest) 0) (hb : Byts ([x % 256] ++ rest)) (h0 : -128 ≤ x) (h1 : x ≤ 127) :
    Calls Tryz.prog 18 #[.pointer (some ⟨g, 0, none⟩)] w fun e w' => e = .returned (.int .i8 x) ∧ ReadsTo w g v ⟨0, rest, 0⟩ w' := by
  refine (rInt8_any g v _ 0 w h hb).mono ?_
  rintro e w' ⟨rfl, hr⟩
  rw [bk_rdNum (n := 1) rfl] at hr ⊢
  have hw : IntKind.i8.wrap (num [x % 256]) = x := by
    have : num [x % 256] = x % 256 := by simp [num]
    rw [this]
    simp [IntKind.wrap, IntKind.bits, IntKind.signed]
    omega
  exact ⟨by simp only [hw], hr⟩

theorem gU32 (x : Int) (h : IsR w g v (be4 x ++ rest) 0) (hb : Byts (be4 x ++ rest)) :
    Calls Tryz.prog 37 #[.pointer (some ⟨g, 0, none⟩)] w fun e w' => e = .returned (.int .u32 x) ∧ ReadsTo w g v ⟨0, rest, 0⟩ w' := by
  refine (rUint32_any g v _ 0 w h hb).mono ?_
  rintro e w' ⟨rfl, hr⟩
  rw [bk_rdNum (n := 4) rfl] at hr ⊢
  exact ⟨by simp only [bk_num4], hr⟩

theorem gI64 (x : Int) (h : IsR w g v (be8 (up64 x) ++ rest) 0) (hb : Byts (be8 (up64 x) ++ rest)) (h0 : -9223372036854775808 ≤ x) (h1 : x ≤ 9223372036854775807) :
    Calls Tryz.prog 39 #[.pointer (some ⟨g, 0, none⟩)] w fun e w' => e = .returned (.int .i64 x) ∧ ReadsTo w g v ⟨0, rest, 0⟩ w' := by
  refine (rInt64_any g v _ 0 w h hb).mono ?_
  rintro e w' ⟨rfl, hr⟩
  rw [bk_rdNum (n := 8) rfl] at hr ⊢
  have hw : wrap64 (num (be8 (up64 x))) = x := by
    rw [bk_num8]
    unfold wrap64 up64
    omega
  exact ⟨by simp only [hw], hr⟩

end
end Go.Proofs.YtjdigknhiopdeaaGreat

/- What the statements' own first look 'works' answers: true; nothing that was there before is changed. -/
namespace Go.Proofs.YtjdigknhiopdeaaGreat
open Go.RowKit
set_option maxRecDepth 8000

theorem below_writer {B : Nat} {w w' : World} {g : Nat} {v : Value} (h : Kept w w' (fun k => k = g ∨ v.ownBlock = some k)) (hB : B ≤ w.heap.size) (hg : B ≤ g) (hv : ∀ k, v.ownBlock = some k → B ≤ k) : Below B w w' := by
  refine h.below hB (fun k hk => ?_)
  rcases hk with hk | hk
  · omega
  · exact hv k hk

theorem below_reader {B : Nat} {w w' : World} {g : Nat} (h : Kept w w' (· = g)) (hB : B ≤ w.heap.size) (hg : B ≤ g) : Below B w w' :=
  h.below hB (fun k hk => by omega)

end Go.Proofs.YtjdigknhiopdeaaGreat
