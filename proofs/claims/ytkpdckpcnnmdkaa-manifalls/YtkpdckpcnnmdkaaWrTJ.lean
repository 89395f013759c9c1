/- The eight bytes of a whole number; no Go function is walked here. -/
import Derived.Test.YtkpdckpcnnmdkaaWriterJ
import Derived.Test.YtkpdckpcnnmdkaaDbl3J
import Derived.Laws.IdiomStrings
import Derived.Laws.Externs
import Derived.WalkLawsBesides
import Derived.Test.YtkpdckpcnnmdkaaProg
import Derived.Test.YtkpdckpcnnmdkaaMemJ
import Derived.Laws.StructEq
import Derived.Test.YtkpdckpcnnmdkaaRqJ
import Derived.Lib.LaidTab
import Derived.Deep.RegionHeld
import Derived.BigQuiet
import Derived.Defers
import Derived.Recover
namespace Go.Proofs.Ytkpdckpcnnmdkaa

/-- The eight bytes of a number from 0 on. -/
def be8 (n : Int) : List Int := be4 (n / 4294967296) ++ be4 (n % 4294967296)

def up64 (n : Int) : Int := n % 18446744073709551616
theorem up64_bd (n : Int) : 0 ≤ up64 n ∧ up64 n ≤ 18446744073709551615 := by unfold up64; omega

end Go.Proofs.Ytkpdckpcnnmdkaa

/- What the Writer's Int64 does, and put64 behind it: eight bytes, the highest first. -/
namespace Go.Proofs.Ytkpdckpcnnmdkaa
open Go.RowKit
set_option maxRecDepth 8000

set_option maxHeartbeats 400000 in
theorem wPut64_any (g : Nat) (v : Value) (xs : List Int) (n : Int) (w : World) (h : IsW w g v xs) (hn : 0 ≤ n) (hn' : n ≤ 18446744073709551615) (hb : xs.length + 8 ≤ 140737488355328) :
    Calls Try.prog 81 #[.pointer (some ⟨g, 0, none⟩), .int .u64 n] w fun e w' => e = .returned (.tuple #[]) ∧ Puts w g v (xs ++ be8 n) w' := by
  have H : Hid (IsW w g v xs) := h
  clear h
  have hq : n / 4294967296 ≤ 4294967295 := by omega
  go_enter Try.func81, Try.ntmps81
  go_wp2_with fail
  refine (wUint32_any g v xs (n / 4294967296) _ H.out (by omega) (by omega) (by omega)).mono ?_
  rintro e w1 ⟨rfl, hp⟩
  obtain ⟨v1, hw1, hn1, hk1⟩ := hp
  have HW1 : Hid (IsW w1 g v1 (xs ++ be4 (n / 4294967296)) ∧ NewRow w v v1 ∧ Kept w w1 (fun k => k = g ∨ v.ownBlock = some k)) := ⟨hw1, hn1, hk1⟩
  clear hw1 hn1 hk1
  go_wp2_with fail
  refine (wUint32_any g v1 _ (n % 4294967296) _ HW1.out.1 (by omega) (by omega) (by simp [be4]; omega)).mono ?_
  rintro e w2 ⟨rfl, hp2⟩
  have hp3 := Puts.next HW1.out.2.1 HW1.out.2.2 hp2
  rw [List.append_assoc] at hp3
  have HP : Hid (Puts w g v (xs ++ be8 n) w2) := hp3
  clear hp2 hp3
  go_wp2
  go_end0
  exact ⟨rfl, HP.out⟩

set_option maxHeartbeats 400000 in
theorem wInt64_any (g : Nat) (v : Value) (xs : List Int) (n : Int) (w : World) (h : IsW w g v xs) (hb : xs.length + 8 ≤ 140737488355328) :
    Calls Try.prog 56 #[.pointer (some ⟨g, 0, none⟩), .int .i64 n] w fun e w' => e = .returned (.tuple #[]) ∧ Puts w g v (xs ++ be8 (up64 n)) w' := by
  have H : Hid (IsW w g v xs) := h
  clear h
  go_enter Try.func56, Try.ntmps56
  go_wp2_with fail
  refine (wPut64_any g v xs (up64 n) _ H.out (up64_bd n).1 (up64_bd n).2 hb).mono ?_
  rintro e w1 ⟨rfl, hp⟩
  have HP : Hid (Puts w g v (xs ++ be8 (up64 n)) w1) := hp
  clear hp
  go_wp2
  go_end0
  exact ⟨rfl, HP.out⟩

end Go.Proofs.Ytkpdckpcnnmdkaa

/- What the Writer's Raw does: it puts the bytes behind those that the Writer has. -/
namespace Go.Proofs.Ytkpdckpcnnmdkaa
open Go.RowKit
set_option maxRecDepth 8000

end Go.Proofs.Ytkpdckpcnnmdkaa

/- What the rest of the Writer's calls do: Bool, Int8, Float, Text and Buffer. -/
namespace Go.Proofs.Ytkpdckpcnnmdkaa
open Go.RowKit
set_option maxRecDepth 8000

/-- A truth's byte. -/
def b2i (b : Bool) : Int := if b then 1 else 0

set_option maxHeartbeats 400000 in
theorem wInt8_any (g : Nat) (v : Value) (xs : List Int) (n : Int) (w : World) (h : IsW w g v xs) (hb : xs.length + 1 ≤ 140737488355328) :
    Calls Try.prog 52 #[.pointer (some ⟨g, 0, none⟩), .int .i8 n] w fun e w' => e = .returned (.tuple #[]) ∧ Puts w g v (xs ++ [n % 256]) w' := by
  have H : Hid (IsW w g v xs) := h
  clear h
  go_enter Try.func52, Try.ntmps52
  go_wp2_with fail
  refine (add_any g v _ xs [n % 256] _ (H.out.alloc _) (sees_new _ [n % 256] (by simp) rfl) hb).mono ?_
  rintro e w1 ⟨rfl, hp⟩
  have HP : Hid (Puts w g v (xs ++ [n % 256]) w1) := hp.of_alloc
  clear hp
  go_wp2
  go_end0
  exact ⟨rfl, HP.out⟩

/-- A text's bytes as numbers. -/
def txt (s : ByteArray) : List Int := s.data.toList.map fun b => (b.toNat : Int)
theorem txt_len (s : ByteArray) : (txt s).length = s.size := by unfold txt; rw [List.length_map, Array.length_toList]; rfl
theorem txt_byts (s : ByteArray) : Byts (txt s) := by
  intro x hx
  simp [txt] at hx
  obtain ⟨b, _, rfl⟩ := hx
  have := b.toNat_lt
  omega

/-- What '[]byte(s)' makes leads to the text's bytes. -/
theorem sees_text (w : World) (s : ByteArray) (hs : s.size ≤ maxLen) (mk : Nat × Nat) :
    Sees (w.drew.alloc (.cells (bytesRow s (grownCap w s.size 0 5)) 5 mk)) (.slice (some ⟨w.heap.size, 0, none⟩) s.size (grownCap w s.size 0 5)) (txt s) := by
  refine ⟨_, _, by rw [txt_len], by rw [txt_len]; exact grownCap_ge _ _ _ _, grownCap_le_maxLen _ _ _ _ hs, fun e => by simp at e, .inr ⟨_, _, rfl, fun i hi => ?_⟩⟩
  rw [txt_len] at hi
  have hi' : i < s.data.size := hi
  rw [Nat.zero_add]
  have := World.cell?_alloc_mark w.drew (bytesRow s (grownCap w s.size 0 5)) 5 mk i
  rw [show w.drew.heap.size = w.heap.size from rfl] at this
  rw [this, bytesRow_at s _ i hi']
  simp only [txt, List.getD_eq_getElem?_getD, List.getElem?_map, Array.getElem?_toList, Array.getElem?_eq_getElem hi', Option.map_some, Option.getD_some]

theorem IsW.drew {w : World} {g : Nat} {v : Value} {xs : List Int} (h : IsW w g v xs) : IsW w.drew g v xs := h.kept ((Kept.refl w (fun _ => False)).drewN 1) (fun h => h) (fun _ _ h => h)

theorem Puts.of_drew {w w' : World} {g : Nat} {v : Value} {xs : List Int} (h : Puts w.drew g v xs w') : Puts w g v xs w' := by
  obtain ⟨v', h1, h2, h3⟩ := h
  exact ⟨v', h1, h2, ⟨h3.os, h3.tape, h3.output, h3.size, h3.block⟩⟩

end Go.Proofs.Ytkpdckpcnnmdkaa

/- Zxids: what Compare, Pack, Unpack and Next of package txn, and the document's own, answer. -/
namespace Go.Proofs.Ytkpdckpcnnmdkaa
open Go.RowKit
set_option maxRecDepth 8000

/-- Two zxids held against each other: -1, 0 or 1. -/
def zcmp (e n f m : Int) : Int := if e < f ∨ (e = f ∧ n < m) then -1 else if e = f ∧ n = m then 0 else 1

abbrev zx (e n : Int) : Value := .agg #[.int .u32 e, .int .u32 n]

theorem two_alloc (w : World) (o o' : Obj) : Below w.heap.size w ((w.alloc o).alloc o') := ((Below.refl _ _).alloc (Nat.le_refl _) _).alloc (by simp) _
theorem one_alloc (w : World) (o : Obj) : Below w.heap.size w (w.alloc o) := (Below.refl _ _).alloc (Nat.le_refl _) _

/-- A zxid's one number. -/
def zpack (e n : Int) : Int × Int := if 2147483647 < e then (0, 1) else (e * 4294967296 + n, 0)

theorem ofInt_i64z (a : Nat) (ha : a < 9223372036854775808) : (BitVec.ofInt 64 (a : Int)).toNat = a := by
  rw [BitVec.ofInt_natCast, BitVec.toNat_ofNat]; exact Nat.mod_eq_of_lt (by omega)
theorem i64_or63 (a b : Int) (h1 : 0 ≤ a) (h2 : a < 9223372036854775808) (h3 : 0 ≤ b) (h4 : b < 9223372036854775808) : bits .or .i64 a b = ((a.toNat ||| b.toNat : Nat) : Int) := by
  obtain ⟨A, rfl⟩ := Int.eq_ofNat_of_zero_le h1
  obtain ⟨B, rfl⟩ := Int.eq_ofNat_of_zero_le h3
  have hx : A ||| B < 2 ^ 63 := Nat.or_lt_two_pow (by omega) (by omega)
  show IntKind.i64.wrap ((BitVec.ofInt 64 (A : Int) ||| BitVec.ofInt 64 (B : Int)).toNat : Int) = _
  rw [BitVec.toNat_or, ofInt_i64z A (by omega), ofInt_i64z B (by omega)]
  simp only [Int.toNat_natCast]
  simp [IntKind.wrap, IntKind.bits, IntKind.signed]
  omega

theorem zpack_or (e n : Int) (h0 : 0 ≤ e) (h1 : e ≤ 2147483647) (h2 : 0 ≤ n) (h3 : n ≤ 4294967295) : bits .or .i64 (e * 4294967296) n = e * 4294967296 + n := by
  rw [i64_or63 _ _ (by omega) (by omega) (by omega) (by omega), nat_join 32 _ _ (by omega) (by omega)]
  omega

/-- The zxid of a number: its epoch, its counter, the error. -/
def zunpack (n : Int) : Int × Int × Int := if n < 0 then (0, 0, 1) else (n / 4294967296, n % 4294967296, 0)

/-- The next zxid of an epoch: epoch, counter, error. -/
def znext (e n last : Int) : Int × Int × Int := if e = 0 ∨ 2147483647 < e then (0, 0, 1) else if last ≤ n then (0, 0, 2) else (e, n + 1, 0)

end Go.Proofs.Ytkpdckpcnnmdkaa

/- What the small parts of txn.Check answer: isZxid, isOrigin, the layouts, names, bit, filled, needed. -/
namespace Go.Proofs.Ytkpdckpcnnmdkaa
open Go.RowKit
set_option maxRecDepth 8000

def zxOk (e n : Int) : Bool := decide ((e = 0 ∧ n = 0) ∨ (1 ≤ e ∧ e ≤ 2147483647 ∧ 1 ≤ n))

abbrev orig (s b m : Int) : Value := .agg #[.int .i8 s, .int .u32 b, .int .i64 m]
def origOk (s m : Int) : Bool := decide (0 ≤ s ∧ s < 7 ∧ 0 ≤ m)

abbrev lay (last wo : Int) : Value := .agg #[.int .i8 last, .int .u16 wo]

/-- A field's bit, where it is on. -/
def bz (n : Int) (b : Bool) : Int := if b then n else 0

def need (k : Int) : Int := if k = 6 then 512 else if k = 7 then 128 else if k = 8 then 64 else 0

def tabN (k : Int) : Int := ([0, 375, 329, 331, 333, 329, 832, 128, 64, 321, 321, 321, 321] : List Int).getD k.toNat 0

/-- What a kind names there. -/
def nms (last wo k : Int) : Int := if k < 1 ∨ last < k then 0 else bits .andNot .u16 (tabN k) wo

/-- What of a request is not zero, as bits. -/
def fillz (p d a v e s z t o q : Bool) : Int :=
  bits .or .u16 (bits .or .u16 (bits .or .u16 (bits .or .u16 (bits .or .u16 (bits .or .u16 (bits .or .u16 (bits .or .u16 (bits .or .u16 (bz 1 p) (bz 2 d)) (bz 4 a)) (bz 8 v)) (bz 16 e)) (bz 32 s)) (bz 64 z)) (bz 128 t)) (bz 256 o)) (bz 512 q)

/-- An id that may be. -/
def idOk (x : IdD) : Bool := decide (x.scheme.size ≤ 24 ∧ x.name.size ≤ 24)

end Go.Proofs.Ytkpdckpcnnmdkaa
/- What putId, and PutList of ids with it, put behind a Writer's bytes. -/
namespace Go.Proofs.Ytkpdckpcnnmdkaa
open Go.RowKit
set_option maxRecDepth 8000

/-- A text's bytes, its length ahead. -/
def txtB (s : ByteArray) : List Int := be4 (txt s).length ++ txt s
def idB (x : IdD) : List Int := txtB x.scheme ++ txtB x.name

theorem txtB_len (s : ByteArray) : (txtB s).length = 4 + s.size := by simp [txtB, be4, txt_len]; omega

theorem Puts.later {w w1 w2 : World} {g : Nat} {v : Value} {xs : List Int} (h : Puts w g v xs w1) (hb : Below w1.heap.size w1 w2) : Puts w g v xs w2 := by
  obtain ⟨v', h1, h2, h3⟩ := h
  refine ⟨v', h1.kept (Below.kept hb) ?_ ?_, h2, h3.trans (Below.kept hb) ?_⟩
  · have := lt_of_block h1.1; omega
  · intro k hk; have := (h1.2.lt k hk).2; omega
  · intro k hk h; have := h3.size; omega

/-- A cell that is no Writer's. -/
theorem Puts.cell {w w1 : World} {g : Nat} {v : Value} {xs : List Int} (h : Puts w g v xs w1) {p : Addr} {u : Value} (hc : w.cell? p = some u) (hg : p.block ≠ g) (hv : v.ownBlock ≠ some p.block) : w1.cell? p = some u := by
  obtain ⟨v', h1, h2, h3⟩ := h
  exact h3.cell hc (fun e => by
    rcases e with e | e
    · exact hg e
    · exact hv e)

theorem Puts.size {w w1 : World} {g : Nat} {v : Value} {xs : List Int} (h : Puts w g v xs w1) : w.heap.size ≤ w1.heap.size := by
  obtain ⟨v', h1, h2, h3⟩ := h
  exact h3.size

theorem IsW.lt {w : World} {g : Nat} {v : Value} {xs : List Int} (h : IsW w g v xs) : g < w.heap.size ∧ ∀ k, v.ownBlock = some k → k < w.heap.size :=
  ⟨lt_of_block h.1, fun k hk => (h.2.lt k hk).2⟩

def idsB (l : List IdD) : List Int := l.flatMap idB
theorem idsB_next (l : List IdD) (k : Nat) (h : k < l.length) : idsB (l.take (k + 1)) = idsB (l.take k) ++ idB l[k] := by
  rw [List.take_succ_eq_append_getElem h]; simp only [idsB, List.flatMap_append, List.flatMap_cons, List.flatMap_nil, List.append_nil]

theorem idsB_len (l : List IdD) (h : ∀ x ∈ l, x.scheme.size ≤ 2147483647 ∧ x.name.size ≤ 2147483647) : (idsB l).length ≤ 4294967310 * l.length := by
  induction l with
  | nil => simp [idsB]
  | cons x l ih =>
    have e : idsB (x :: l) = idB x ++ idsB l := by simp [idsB]
    have h1 := h x (by simp)
    have h2 := ih (fun y hy => h y (by simp [hy]))
    rw [e, List.length_append, idB, List.length_append, txtB_len, txtB_len, List.length_cons]
    omega

end Go.Proofs.Ytkpdckpcnnmdkaa
