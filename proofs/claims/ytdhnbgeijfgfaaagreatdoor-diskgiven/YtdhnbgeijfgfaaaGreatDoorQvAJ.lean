/- What a ring of package cache is, as data: the last things, laid in places that are gone round; no Go function is walked here. -/
import Derived.WalkKit
import Derived.Deep.OwnRows
import Derived.Test.YtdhnbgeijfgfaaaGreatDoorShelfCJ
import Derived.Test.YtdhnbgeijfgfaaaGreatDoorProg
import Derived.Laws.StructEq
import Derived.Test.YtdhnbgeijfgfaaaGreatDoorQuPJ
import Derived.ChangeKeysEq
import Derived.OwnWalk
import Derived.Deep.MidRow
import Derived.BigQuiet
import Derived.Shelf.Abstract
import Derived.Test.YtdhnbgeijfgfaaaGreatDoorBgAJ
import Derived.Deep.RegionHeld
import Derived.Deep.CutRange
import Derived.Laws.ResultCell
namespace Go.Proofs.YtdhnbgeijfgfaaaGreatDoor
open Go.RowKit
set_option maxRecDepth 8000

/-- The last m of a list. -/
def lastN {α : Type} (m : Nat) (l : List α) : List α := l.drop (l.length - m)

theorem lastN_length {α : Type} (m : Nat) (l : List α) : (lastN m l).length = min l.length m := by
  unfold lastN
  rw [List.length_drop]
  omega

theorem lastN_short {α : Type} {m : Nat} {l : List α} (h : l.length ≤ m) : lastN m l = l := by
  unfold lastN
  rw [show l.length - m = 0 by omega]
  rfl

theorem lastN_nil {α : Type} (m : Nat) : lastN m ([] : List α) = [] := by simp [lastN]

/-- One more behind the last m: the last m of all. -/
theorem lastN_snoc {α : Type} (m : Nat) (l : List α) (x : α) : lastN m (lastN m l ++ [x]) = lastN m (l ++ [x]) := by
  unfold lastN
  by_cases h : l.length ≤ m
  · rw [show l.length - m = 0 by omega]; rfl
  · rw [← List.drop_append_of_le_length (show l.length - m ≤ l.length by omega), List.drop_drop]
    congr 1
    simp only [List.length_append, List.length_drop, List.length_cons, List.length_nil]
    omega

theorem lastN_getElem? {α : Type} (m : Nat) (l : List α) (i : Nat) : (lastN m l)[i]? = l[l.length - m + i]? := by
  unfold lastN
  rw [List.getElem?_drop]

/-- The places of a ring hold these things: at most m, the first one at place 'first'. -/
structure RingF (m : Nat) (xs : List Value) (first : Nat) (f : Nat → Value) : Prop where
  most : m ≤ 64
  few : xs.length ≤ m
  first_lt : first < m ∨ (m = 0 ∧ first = 0)
  cm : f 64 = .int .i64 m
  cf : f 65 = .int .i64 first
  cc : f 66 = .int .i64 xs.length
  at' : ∀ i x, xs[i]? = some x → f ((first + i) % m) = x
  one : ∀ i, (f i).oneCell' = true

/-- A ring in memory. -/
def IsRg (T : TypeId) (w : World) (p m : Nat) (xs : List Value) : Prop := ∃ first f, w.rowIs p T 67 f ∧ RingF m xs first f

theorem IsRg.lt {T : TypeId} {w : World} {p m : Nat} {xs : List Value} (h : IsRg T w p m xs) : p < w.heap.size := by
  obtain ⟨_, _, h, _⟩ := h
  exact h.lt

theorem IsRg.of_block {T : TypeId} {w w' : World} {p m : Nat} {xs : List Value} (h : IsRg T w p m xs) (e : w'.heap[p]? = w.heap[p]?) : IsRg T w' p m xs := by
  obtain ⟨a, b, h, k⟩ := h
  exact ⟨a, b, h.of_block e, k⟩

theorem IsRg.kept {T : TypeId} {w w' : World} {S : Nat → Prop} {p m : Nat} {xs : List Value} (h : IsRg T w p m xs) (hk : Kept w w' S) (hS : ¬ S p) : IsRg T w' p m xs :=
  h.of_block (hk.block p h.lt hS)

theorem IsRg.below {T : TypeId} {w w' : World} {B p m : Nat} {xs : List Value} (h : IsRg T w p m xs) (hk : Below B w w') (hB : p < B) : IsRg T w' p m xs :=
  h.of_block (hk.block p hB)

theorem mod_ne {m a b c : Nat} (hb : b < m) (hc : c < m) (h : b ≠ c) : (a + b) % m ≠ (a + c) % m := by
  intro e
  have h1 := Nat.div_add_mod (a + b) m
  have h2 := Nat.div_add_mod (a + c) m
  rw [e] at h1
  generalize (a + b) / m = q1 at *
  generalize (a + c) / m = q2 at *
  rcases Nat.lt_trichotomy q1 q2 with hq | hq | hq
  · obtain ⟨d, rfl⟩ : ∃ d, q2 = q1 + 1 + d := ⟨q2 - q1 - 1, by omega⟩
    have : m * (q1 + 1 + d) = m * q1 + m + m * d := by rw [Nat.mul_add, Nat.mul_add, Nat.mul_one]
    have h0 : 0 ≤ m * d := Nat.zero_le _
    omega
  · subst hq; omega
  · obtain ⟨d, rfl⟩ : ∃ d, q1 = q2 + 1 + d := ⟨q1 - q2 - 1, by omega⟩
    have : m * (q2 + 1 + d) = m * q2 + m + m * d := by rw [Nat.mul_add, Nat.mul_add, Nat.mul_one]
    have h0 : 0 ≤ m * d := Nat.zero_le _
    omega

/-- A Put into a ring that is not full. -/
theorem RingF.put {m : Nat} {xs : List Value} {first : Nat} {f : Nat → Value} (h : RingF m xs first f) (hr : xs.length < m) (x : Value) (hx : x.oneCell' = true) :
    RingF m (xs ++ [x]) first (fun j => if j = 66 then .int .i64 ((xs.length : Int) + 1) else if j = (first + xs.length) % m then x else f j) := by
  obtain ⟨h1, h2, h3, h4, h5, h6, h7, h8⟩ := h
  have hm : ∀ a, a % m < 64 := fun a => by have := Nat.mod_lt a (show m > 0 by omega); omega
  have hmx := hm (first + xs.length)
  refine ⟨h1, by simp; omega, h3, ?_, ?_, ?_, ?_, fun i => ?_⟩
  · rw [if_neg (by omega), if_neg (by omega)]; exact h4
  · rw [if_neg (by omega), if_neg (by omega)]; exact h5
  · rw [if_pos rfl]; simp
  · intro i y hy
    have := hm (first + i)
    rw [if_neg (by omega)]
    by_cases hi : i < xs.length
    · rw [List.getElem?_append_left hi] at hy
      rw [if_neg (mod_ne (by omega) (by omega) (by omega))]
      exact h7 i y hy
    · by_cases he : i = xs.length
      · subst he
        rw [List.getElem?_append_right (Nat.le_refl _)] at hy
        simp at hy
        rw [if_pos rfl, hy]
      · rw [List.getElem?_append_right (by omega), List.getElem?_eq_none (by simp; omega)] at hy
        cases hy
  · by_cases e1 : i = 66
    · rw [if_pos e1]; rfl
    · rw [if_neg e1]
      by_cases e2 : i = (first + xs.length) % m
      · rw [if_pos e2]; exact hx
      · rw [if_neg e2]; exact h8 i

/-- The first of a full ring goes. -/
theorem RingF.shed {m : Nat} {xs : List Value} {first : Nat} {f : Nat → Value} (h : RingF m xs first f) (hm0 : 0 < m) (hr : xs.length = m) :
    RingF m (xs.drop 1) ((first + 1) % m) (fun j => if j = 66 then .int .i64 ((xs.length : Int) - 1) else if j = 65 then .int .i64 (((first + 1) % m : Nat) : Int) else f j) := by
  obtain ⟨h1, h2, h3, h4, h5, h6, h7, h8⟩ := h
  have hm : ∀ a, a % m < 64 := fun a => by have := Nat.mod_lt a (show m > 0 by omega); omega
  refine ⟨h1, by rw [List.length_drop]; omega, .inl (Nat.mod_lt _ hm0), ?_, ?_, ?_, ?_, fun i => ?_⟩
  · rw [if_neg (by omega), if_neg (by omega)]; exact h4
  · rw [if_neg (by omega), if_pos rfl]
  · rw [if_pos rfl, List.length_drop]; congr 1; omega
  · intro i y hy
    have := hm ((first + 1) % m + i)
    rw [if_neg (by omega), if_neg (by omega)]
    rw [List.getElem?_drop] at hy
    have := h7 (1 + i) y hy
    rw [Nat.mod_add_mod, Nat.add_assoc]
    exact this
  · by_cases e1 : i = 66
    · rw [if_pos e1]; rfl
    · rw [if_neg e1]
      by_cases e2 : i = 65
      · rw [if_pos e2]; rfl
      · rw [if_neg e2]; exact h8 i

theorem lastN_full {m : Nat} {xs : List Value} (x : Value) (hm0 : 0 < m) (hr : xs.length = m) : lastN m (xs ++ [x]) = xs.drop 1 ++ [x] := by
  unfold lastN
  simp only [List.length_append, List.length_cons, List.length_nil]
  rw [show xs.length + (0 + 1) - m = 1 by omega, List.drop_append_of_le_length (by omega)]

end Go.Proofs.YtdhnbgeijfgfaaaGreatDoor

/- Zxids: what Compare, Pack, Unpack and Next of package txn, and the document's own, answer. -/
namespace Go.Proofs.YtdhnbgeijfgfaaaGreatDoor
open Go.RowKit
set_option maxRecDepth 8000

/-- Two zxids held against each other: -1, 0 or 1. -/
def zcmp (e n f m : Int) : Int := if e < f ∨ (e = f ∧ n < m) then -1 else if e = f ∧ n = m then 0 else 1

abbrev zx (e n : Int) : Value := .agg #[.int .u32 e, .int .u32 n]

theorem two_alloc (w : World) (o o' : Obj) : Below w.heap.size w ((w.alloc o).alloc o') := ((Below.refl _ _).alloc (Nat.le_refl _) _).alloc (by simp) _
theorem one_alloc (w : World) (o : Obj) : Below w.heap.size w (w.alloc o) := (Below.refl _ _).alloc (Nat.le_refl _) _

/-- A zxid's one number. -/
def zpack (e n : Int) : Int × Int := if 2147483647 < e then (0, 1) else (e * 4294967296 + n, 0)

theorem ofInt_i64z (a : Nat) (ha : a < 9223372036854775808) : (BitVec.ofInt 64 (a : Int)).toNat = a := by
  rw [BitVec.ofInt_natCast, BitVec.toNat_ofNat]; exact Nat.mod_eq_of_lt (by omega)
theorem i64_or63 (a b : Int) (h1 : 0 ≤ a) (h2 : a < 9223372036854775808) (h3 : 0 ≤ b) (h4 : b < 9223372036854775808) : bits .or .i64 a b = ((a.toNat ||| b.toNat : Nat) : Int) := by
  obtain ⟨A, rfl⟩ := Int.eq_ofNat_of_zero_le h1
  obtain ⟨B, rfl⟩ := Int.eq_ofNat_of_zero_le h3
  have hx : A ||| B < 2 ^ 63 := Nat.or_lt_two_pow (by omega) (by omega)
  show IntKind.i64.wrap ((BitVec.ofInt 64 (A : Int) ||| BitVec.ofInt 64 (B : Int)).toNat : Int) = _
  rw [BitVec.toNat_or, ofInt_i64z A (by omega), ofInt_i64z B (by omega)]
  simp only [Int.toNat_natCast]
  simp [IntKind.wrap, IntKind.bits, IntKind.signed]
  omega

theorem zpack_or (e n : Int) (h0 : 0 ≤ e) (h1 : e ≤ 2147483647) (h2 : 0 ≤ n) (h3 : n ≤ 4294967295) : bits .or .i64 (e * 4294967296) n = e * 4294967296 + n := by
  rw [i64_or63 _ _ (by omega) (by omega) (by omega) (by omega), nat_join 32 _ _ (by omega) (by omega)]
  omega

/-- The zxid of a number: its epoch, its counter, the error. -/
def zunpack (n : Int) : Int × Int × Int := if n < 0 then (0, 0, 1) else (n / 4294967296, n % 4294967296, 0)

/-- The next zxid of an epoch: epoch, counter, error. -/
def znext (e n last : Int) : Int × Int × Int := if e = 0 ∨ 2147483647 < e then (0, 0, 1) else if last ≤ n then (0, 0, 2) else (e, n + 1, 0)

end Go.Proofs.YtdhnbgeijfgfaaaGreatDoor

/- A system of servers in memory; what bit, isUpTo, isNone, Size, isServer and Counts answer. -/
namespace Go.Proofs.YtdhnbgeijfgfaaaGreatDoor
open Go.RowKit Go.Shelf
set_option maxRecDepth 8000

/-- The bit of a server. -/
def bq (i : Nat) : Int := ((2 ^ i : Nat) : Int)
theorem and_bq {S i : Nat} (hS : S < 256) (hi : i < 8) : (bits .and .u8 (S : Int) (bq i) != 0) = S.testBit i := by
  have h : ∀ S : Fin 256, ∀ i : Fin 8, (bits .and .u8 ((S : Nat) : Int) (bq i) != 0) = (S : Nat).testBit i := by decide +kernel
  exact h ⟨S, hS⟩ ⟨i, hi⟩
theorem or_bq {S i : Nat} (hS : S < 256) (hi : i < 8) : bits .or .u8 (S : Int) (bq i) = ((S ||| 2 ^ i : Nat) : Int) := by
  have h : ∀ S : Fin 256, ∀ i : Fin 8, bits .or .u8 ((S : Nat) : Int) (bq i) = (((S : Nat) ||| 2 ^ (i : Nat) : Nat) : Int) := by decide +kernel
  exact h ⟨S, hS⟩ ⟨i, hi⟩
theorem del_bq {S i : Nat} (hS : S < 256) (hi : i < 8) : bits .andNot .u8 (S : Int) (bq i) = ((delB S i : Nat) : Int) := by
  have h : ∀ S : Fin 256, ∀ i : Fin 8, bits .andNot .u8 ((S : Nat) : Int) (bq i) = ((delB S i : Nat) : Int) := by decide +kernel
  exact h ⟨S, hS⟩ ⟨i, hi⟩

theorem Tryz.infoI7 : (Tryz.prog.info? 3).map (fun i => (i.zero, i.size, i.bytes)) = some (some (.int .i64 0), 1, 8) := by kernel_rfl

end Go.Proofs.YtdhnbgeijfgfaaaGreatDoor

/- What weigh and Has answer. -/
namespace Go.Proofs.YtdhnbgeijfgfaaaGreatDoor
open Go.RowKit Go.Shelf
set_option maxRecDepth 8000

theorem SyD.part_step (D : SyD) (S : Nat → Bool) (g k : Nat) : D.part S g (k + 1) = D.part S g k + if S k = true ∧ D.gs k = g then D.ws k else 0 := rfl

theorem SyD.cnt_step (D : SyD) (k : Nat) : D.cnt (k + 1) = D.cnt k + if 0 < D.whole k D.n then 1 else 0 := rfl
theorem SyD.held_step (D : SyD) (S : Nat → Bool) (k : Nat) : D.held S (k + 1) = D.held S k + if D.whole k D.n < 2 * D.part S k D.n then 1 else 0 := rfl

end Go.Proofs.YtdhnbgeijfgfaaaGreatDoor

/- What Least answers; New. -/
namespace Go.Proofs.YtdhnbgeijfgfaaaGreatDoor
open Go.RowKit Go.Shelf
set_option maxRecDepth 8000

end Go.Proofs.YtdhnbgeijfgfaaaGreatDoor

/- New, for every two lists. -/
namespace Go.Proofs.YtdhnbgeijfgfaaaGreatDoor
open Go.RowKit Go.Shelf
set_option maxRecDepth 8000

/-- A list of numbers in memory. -/
def SeesQ (w : World) (v : Value) (ks : List Int) : Prop :=
  ∃ (ao : Option Addr) (cap : Nat), v = .slice ao ks.length cap ∧ ks.length ≤ cap ∧ cap ≤ maxLen ∧ (ks = [] ∨ ∃ b off, ao = some ⟨b, off, none⟩ ∧ ∀ (i : Nat) (h : i < ks.length), w.cell? ⟨b, off + i, none⟩ = some (.int .i64 ks[i]))
theorem SeesQ.below {w w' : World} {v : Value} {ks : List Int} (h : SeesQ w v ks) (hk : Below w.heap.size w w') : SeesQ w' v ks := by
  obtain ⟨ao, cap, h1, h2, h3, h4⟩ := h
  refine ⟨ao, cap, h1, h2, h3, h4.imp id ?_⟩
  rintro ⟨b, off, e, hc⟩
  refine ⟨b, off, e, fun i hi => ?_⟩
  have := hc i hi
  rw [← this]
  exact hk.cell (World.block_lt_of_cell? w _ this)

/-- The system that two lists say. -/
def syD (ws gs : List Int) : SyD := ⟨ws.length, fun i => ws.getD i 0, fun i => (gs.getD i 0).toNat⟩
/-- May these two lists be a system's? -/
structure NewOk (ws gs : List Int) : Prop where
  l1 : 1 ≤ ws.length
  l7 : ws.length ≤ 7
  le : gs.length = ws.length
  ok : ∀ i, i < ws.length → (0 ≤ ws.getD i 0 ∧ ws.getD i 0 ≤ 100) ∧ (0 ≤ gs.getD i 0 ∧ gs.getD i 0 ≤ 6)
  one : ∃ i, i < ws.length ∧ 0 < ws.getD i 0
theorem NewOk.good {ws gs : List Int} (h : NewOk ws gs) : (syD ws gs).Good := by
  have hw : ∀ i, 0 ≤ ws.getD i 0 ∧ ws.getD i 0 ≤ 100 := fun i => by
    by_cases e : i < ws.length
    · exact (h.ok i e).1
    · rw [List.getD_eq_getElem?_getD, List.getElem?_eq_none (by omega)]; simp
  have hg : ∀ i, (gs.getD i 0).toNat ≤ 6 := fun i => by
    by_cases e : i < ws.length
    · have := (h.ok i e).2; omega
    · rw [List.getD_eq_getElem?_getD, List.getElem?_eq_none (by have := h.le; omega)]; simp
  exact ⟨h.l1, h.l7, fun i => (hw i).1, fun i => (hw i).2, hg, h.one⟩

/-- The cells of a system under way. -/
def nwI (D : SyD) (k c : Nat) : Int := if c = 0 then D.n else if c < 8 then (if c - 1 < k then D.ws (c - 1) else 0) else if c < 15 then (if c - 8 < k then (D.gs (c - 8) : Int) else 0) else D.whole (c - 15) k
theorem SyD.whole_step (D : SyD) (g k : Nat) : D.whole g (k + 1) = D.whole g k + if D.gs k = g then D.ws k else 0 := rfl

theorem SyD.whole_few {D : SyD} (g k : Nat) (h : ∀ i, i < k → 0 ≤ D.ws i ∧ D.ws i ≤ 100) : 0 ≤ D.whole g k ∧ D.whole g k ≤ k * 100 :=
  ⟨sumQ_nonneg fun i hi => by have := h i hi; split <;> omega, sumQ_most 100 fun i hi => by have := h i hi; split <;> omega⟩

end Go.Proofs.YtdhnbgeijfgfaaaGreatDoor

/- An Acks in memory; isNone, NewAcks. -/
namespace Go.Proofs.YtdhnbgeijfgfaaaGreatDoor
open Go.RowKit Go.Shelf
set_option maxRecDepth 8000

end Go.Proofs.YtdhnbgeijfgfaaaGreatDoor

/- What an Acks' reaches answers. -/
namespace Go.Proofs.YtdhnbgeijfgfaaaGreatDoor
open Go.RowKit Go.Shelf
set_option maxRecDepth 8000

theorem kcell {w w' : World} (h : Below w.heap.size w w') {a : Addr} {v : Value} (hc : w.cell? a = some v) : w'.cell? a = some v := (h.cell (World.block_lt_of_cell? w _ hc)).trans hc

end Go.Proofs.YtdhnbgeijfgfaaaGreatDoor

/- What an Acks' from, Put and Of answer. -/
namespace Go.Proofs.YtdhnbgeijfgfaaaGreatDoor
open Go.RowKit Go.Shelf
set_option maxRecDepth 8000

theorem kept_of_below {w w' : World} {S : Nat → Prop} (h : Below w.heap.size w w') : Kept w w' S :=
  have k := Below.kept h
  ⟨k.os, k.tape, k.output, k.size, fun j hj _ => k.block j hj (by omega)⟩

end Go.Proofs.YtdhnbgeijfgfaaaGreatDoor

/- What an Acks' Of answers. -/
namespace Go.Proofs.YtdhnbgeijfgfaaaGreatDoor
open Go.RowKit Go.Shelf
set_option maxRecDepth 8000

end Go.Proofs.YtdhnbgeijfgfaaaGreatDoor

/- What an Acks' Committed answers. -/
namespace Go.Proofs.YtdhnbgeijfgfaaaGreatDoor
open Go.RowKit Go.Shelf
set_option maxRecDepth 8000

end Go.Proofs.YtdhnbgeijfgfaaaGreatDoor

/- The law's lives of layer 20. -/
namespace Go.Proofs.YtdhnbgeijfgfaaaGreatDoor
open Go.RowKit Go.Shelf
set_option maxRecDepth 8000

/-- Three numbers laid. -/
theorem sees3 (w : World) (x y z : Int) : SeesQ (w.alloc (.cells #[.int .i64 x, .int .i64 y, .int .i64 z] 3)) (.slice (some ⟨w.heap.size, 0, none⟩) 3 3) [x, y, z] := by
  refine ⟨some ⟨w.heap.size, 0, none⟩, 3, rfl, Nat.le_refl _, by unfold maxLen; omega, .inr ⟨w.heap.size, 0, rfl, fun i hi => ?_⟩⟩
  have hr := heap_alloc_new w (.cells #[.int .i64 x, .int .i64 y, .int .i64 z] 3)
  have h3 : i < 3 := hi
  have : i = 0 ∨ i = 1 ∨ i = 2 := by omega
  rcases this with rfl | rfl | rfl <;> exact cell_of_row _ _ _ _ _ _ hr

end Go.Proofs.YtdhnbgeijfgfaaaGreatDoor

/- What the law's long and common answer; what it takes together of two sets. -/
namespace Go.Proofs.YtdhnbgeijfgfaaaGreatDoor
open Go.RowKit Go.Shelf
set_option maxRecDepth 8000

theorem andN {a b : Nat} (ha : a < 256) (hb : b < 256) : bits .and .u8 (a : Int) (b : Int) = ((a &&& b : Nat) : Int) :=
  (bits_nat .u8 8 (Nat.le_refl _) (fun n h0 h1 => by rw [IntKind.wrap_u8]; omega) a b ha hb).1
theorem orN {a b : Nat} (ha : a < 256) (hb : b < 256) : bits .or .u8 (a : Int) (b : Int) = ((a ||| b : Nat) : Int) :=
  (bits_nat .u8 8 (Nat.le_refl _) (fun n h0 h1 => by rw [IntKind.wrap_u8]; omega) a b ha hb).2

theorem shl_bq {k : Nat} (hk : k < 8) : (2 : Int) ^ k % 256 = bq k := by
  have h : ∀ k : Fin 8, (2 : Int) ^ (k : Nat) % 256 = bq k := by decide +kernel
  exact h ⟨k, hk⟩

end Go.Proofs.YtdhnbgeijfgfaaaGreatDoor

/- The document's system in memory: what in, Size, Is, Counts, weight and Has answer. -/
namespace Go.Proofs.YtdhnbgeijfgfaaaGreatDoor
open Go.RowKit Go.Shelf
set_option maxRecDepth 8000

end Go.Proofs.YtdhnbgeijfgfaaaGreatDoor
