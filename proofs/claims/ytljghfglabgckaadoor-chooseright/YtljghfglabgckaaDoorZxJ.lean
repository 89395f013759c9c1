/- A float's bits with one form for what is not a number; what is a number is like itself. -/
import Derived.Test.YtljghfglabgckaaDoorDbl2J
import Derived.Test.YtljghfglabgckaaDoorRawJ
import Derived.Laws.IdiomStrings
import Derived.Laws.Externs
import Derived.WalkLawsBesides
import Derived.Test.YtljghfglabgckaaDoorProg
import Derived.Test.YtljghfglabgckaaDoorRqJ
import Derived.Laws.StructEq
namespace Go.Proofs.YtljghfglabgckaaDoor
open Ieee
set_option maxRecDepth 8000

def bitsOf (x : Nat) : Nat := if 9218868437227405312 < x % 9223372036854775808 then 9221120237041090560 else x

theorem nan_order (x : Nat) (h : 9218868437227405312 < x % 9223372036854775808) : double.order x x = none := by
  have : ∃ s f, double.read x = .nan s f := by
    unfold Format.read
    simp only [dSign, dBin, dInf]
    rw [if_neg (by omega), if_neg (by omega), if_neg (by omega)]
    exact ⟨_, _, rfl⟩
  obtain ⟨s, f, e⟩ := this
  unfold Format.order
  rw [e]
  rfl

theorem num_order (x : Nat) (h : ¬ 9218868437227405312 < x % 9223372036854775808) : double.order x x = some .eq := by
  have hn : ∀ s f, double.read x ≠ .nan s f := by
    intro s f
    unfold Format.read
    simp only [dSign, dBin, dInf]
    by_cases c1 : x % 9223372036854775808 < 4503599627370496
    · rw [if_pos c1]; exact fun e => by cases e
    · rw [if_neg c1]
      by_cases c2 : x % 9223372036854775808 < 9218868437227405312
      · rw [if_pos c2]; exact fun e => by cases e
      · rw [if_neg c2, if_pos (by omega)]; exact fun e => by cases e
  unfold Format.order
  cases e : double.read x with
  | number s m p => simp [Datum.order, compare, compareOfLessAndEq]
  | infinity s => cases s <;> rfl
  | nan s f => exact absurd e (hn s f)

theorem bitsOf_lt (x : Nat) (h : x < 18446744073709551616) : bitsOf x < 18446744073709551616 := by unfold bitsOf; split <;> omega

end Go.Proofs.YtljghfglabgckaaDoor

/- What the rest of the Writer's calls do: Bool, Int8, Float, Text and Buffer. -/
namespace Go.Proofs.YtljghfglabgckaaDoor
open Go.RowKit
set_option maxRecDepth 8000

/-- A truth's byte. -/
def b2i (b : Bool) : Int := if b then 1 else 0

set_option maxHeartbeats 400000 in
theorem wBool_any (g : Nat) (v : Value) (xs : List Int) (b : Bool) (w : World) (h : IsW w g v xs) (hb : xs.length + 1 ≤ 140737488355328) :
    Calls Tryd.prog 55 #[.pointer (some ⟨g, 0, none⟩), .bool b] w fun e w' => e = .returned (.tuple #[]) ∧ Puts w g v (xs ++ [b2i b]) w' := by
  have H : Hid (IsW w g v xs) := h
  clear h
  cases b
  · go_enter Tryd.func55, Tryd.ntmps55
    go_wp2_with fail
    refine (add_any g v _ xs [0] _ (H.out.alloc _) (sees_new _ [0] (by simp) rfl) hb).mono ?_
    rintro e w1 ⟨rfl, hp⟩
    have HP : Hid (Puts w g v (xs ++ [0]) w1) := hp.of_alloc
    clear hp
    go_wp2
    go_end0
    exact ⟨rfl, HP.out⟩
  · go_enter Tryd.func55, Tryd.ntmps55
    go_wp2_with fail
    refine (add_any g v _ xs [1] _ (H.out.alloc _) (sees_new _ [1] (by simp) rfl) hb).mono ?_
    rintro e w1 ⟨rfl, hp⟩
    have HP : Hid (Puts w g v (xs ++ [1]) w1) := hp.of_alloc
    clear hp
    go_wp2
    go_end0
    exact ⟨rfl, HP.out⟩

set_option maxHeartbeats 400000 in
theorem wInt8_any (g : Nat) (v : Value) (xs : List Int) (n : Int) (w : World) (h : IsW w g v xs) (hb : xs.length + 1 ≤ 140737488355328) :
    Calls Tryd.prog 33 #[.pointer (some ⟨g, 0, none⟩), .int .i8 n] w fun e w' => e = .returned (.tuple #[]) ∧ Puts w g v (xs ++ [n % 256]) w' := by
  have H : Hid (IsW w g v xs) := h
  clear h
  go_enter Tryd.func33, Tryd.ntmps33
  go_wp2_with fail
  refine (add_any g v _ xs [n % 256] _ (H.out.alloc _) (sees_new _ [n % 256] (by simp) rfl) hb).mono ?_
  rintro e w1 ⟨rfl, hp⟩
  have HP : Hid (Puts w g v (xs ++ [n % 256]) w1) := hp.of_alloc
  clear hp
  go_wp2
  go_end0
  exact ⟨rfl, HP.out⟩

set_option maxHeartbeats 400000 in
theorem wBuffer_any (g : Nat) (v u : Value) (xs ys : List Int) (w : World) (h : IsW w g v xs) (hu : Sees w u ys) (hap : ∀ k, liveB u = some k → k ≠ g ∧ v.ownBlock ≠ some k) (hl : ys.length ≤ 2147483647) (hb : xs.length + 4 + ys.length ≤ 140737488355328) :
    Calls Tryd.prog 51 #[.pointer (some ⟨g, 0, none⟩), u] w fun e w' => e = .returned (.tuple #[]) ∧ Puts w g v (xs ++ (be4 ys.length ++ ys)) w' := by
  have H : Hid (IsW w g v xs ∧ Sees w u ys ∧ ∀ k, liveB u = some k → k ≠ g ∧ v.ownBlock ≠ some k) := ⟨h, hu, hap⟩
  obtain ⟨ao, cap, rfl, q1, q2, _, _⟩ := hu
  unfold maxLen at q2
  clear h hap
  go_enter Tryd.func51, Tryd.ntmps51
  go_wp2_with fail
  refine (wInt32_any g v xs ys.length _ H.out.1 (by omega)).mono ?_
  rintro e w1 ⟨rfl, hp⟩
  rw [show up32 (ys.length : Int) = ys.length by unfold up32; omega] at hp
  obtain ⟨v1, hW1, hN1, hK1⟩ := hp
  have hs1 : Sees w1 (.slice ao ys.length cap) ys := H.out.2.1.keptL hK1 (fun k hk hs => by
    have := H.out.2.2 k hk
    rcases hs with hs | hs
    · exact this.1 hs
    · exact this.2 hs)
  have HW : Hid (IsW w1 g v1 (xs ++ be4 ys.length) ∧ Sees w1 (.slice ao ys.length cap) ys ∧ NewRow w v v1 ∧ Kept w w1 (fun k => k = g ∨ v.ownBlock = some k)) := ⟨hW1, hs1, hN1, hK1⟩
  clear hW1 hs1 hN1 hK1
  go_wp2_with fail
  refine (wRaw_any g v1 _ _ ys _ HW.out.1 HW.out.2.1 (by simp [be4]; omega)).mono ?_
  rintro e w2 ⟨rfl, hp2⟩
  have hp3 := Puts.next HW.out.2.2.1 HW.out.2.2.2 hp2
  rw [List.append_assoc] at hp3
  have HP : Hid (Puts w g v (xs ++ (be4 ys.length ++ ys)) w2) := hp3
  clear hp2 hp3
  go_wp2
  go_end0
  exact ⟨rfl, HP.out⟩

/-- A text's bytes as numbers. -/
def txt (s : ByteArray) : List Int := s.data.toList.map fun b => (b.toNat : Int)
theorem txt_len (s : ByteArray) : (txt s).length = s.size := by unfold txt; rw [List.length_map, Array.length_toList]; rfl
theorem txt_byts (s : ByteArray) : Byts (txt s) := by
  intro x hx
  simp [txt] at hx
  obtain ⟨b, _, rfl⟩ := hx
  have := b.toNat_lt
  omega

/-- What '[]byte(s)' makes leads to the text's bytes. -/
theorem sees_text (w : World) (s : ByteArray) (hs : s.size ≤ maxLen) (mk : Nat × Nat) :
    Sees (w.drew.alloc (.cells (bytesRow s (grownCap w s.size 0 5)) 5 mk)) (.slice (some ⟨w.heap.size, 0, none⟩) s.size (grownCap w s.size 0 5)) (txt s) := by
  refine ⟨_, _, by rw [txt_len], by rw [txt_len]; exact grownCap_ge _ _ _ _, grownCap_le_maxLen _ _ _ _ hs, fun e => by simp at e, .inr ⟨_, _, rfl, fun i hi => ?_⟩⟩
  rw [txt_len] at hi
  have hi' : i < s.data.size := hi
  rw [Nat.zero_add]
  have := World.cell?_alloc_mark w.drew (bytesRow s (grownCap w s.size 0 5)) 5 mk i
  rw [show w.drew.heap.size = w.heap.size from rfl] at this
  rw [this, bytesRow_at s _ i hi']
  simp only [txt, List.getD_eq_getElem?_getD, List.getElem?_map, Array.getElem?_toList, Array.getElem?_eq_getElem hi', Option.map_some, Option.getD_some]

theorem IsW.drew {w : World} {g : Nat} {v : Value} {xs : List Int} (h : IsW w g v xs) : IsW w.drew g v xs := h.kept ((Kept.refl w (fun _ => False)).drewN 1) (fun h => h) (fun _ _ h => h)

theorem Puts.of_drew {w w' : World} {g : Nat} {v : Value} {xs : List Int} (h : Puts w.drew g v xs w') : Puts w g v xs w' := by
  obtain ⟨v', h1, h2, h3⟩ := h
  exact ⟨v', h1, h2, ⟨h3.os, h3.tape, h3.output, h3.size, h3.block⟩⟩

set_option maxHeartbeats 400000 in
theorem wText_any (g : Nat) (v : Value) (xs : List Int) (s : ByteArray) (w : World) (h : IsW w g v xs) (hl : s.size ≤ 2147483647) (hb : xs.length + 4 + s.size ≤ 140737488355328) :
    Calls Tryd.prog 50 #[.pointer (some ⟨g, 0, none⟩), .string s] w fun e w' => e = .returned (.tuple #[]) ∧ Puts w g v (xs ++ (be4 (txt s).length ++ txt s)) w' := by
  have H : Hid (IsW w g v xs) := h
  have hcv := run_bytes_of_string (P := Tryd.prog) w 9 42 5 s Tryd.underlying9 Tryd.underlying42 Tryd.underlying5
  have hgw : g < w.heap.size := lt_of_block h.1
  clear h
  go_enter Tryd.func50, Tryd.ntmps50
  go_wp2_with fail
  refine (wBuffer_any g v _ xs (txt s) _ (by exact (H.out.drew.alloc _)) (by exact sees_text w s (by unfold maxLen; omega) _) (fun k hk => ?_) (by rw [txt_len]; omega) (by rw [txt_len]; omega)).mono ?_
  · replace hk := live_own hk
    simp [Value.ownBlock] at hk
    subst hk
    refine ⟨by omega, fun e => ?_⟩
    have := (H.out.2.lt _ e).2
    omega
  rintro e w1 ⟨rfl, hp⟩
  have HP : Hid (Puts w g v (xs ++ (be4 (txt s).length ++ txt s)) w1) := hp.of_drew.of_alloc
  clear hp
  go_wp2
  go_end0
  exact ⟨rfl, HP.out⟩

end Go.Proofs.YtljghfglabgckaaDoor

/- Zxids: what Compare, Pack, Unpack and Next of package txn, and the document's own, answer. -/
namespace Go.Proofs.YtljghfglabgckaaDoor
open Go.RowKit
set_option maxRecDepth 8000

/-- Two zxids held against each other: -1, 0 or 1. -/
def zcmp (e n f m : Int) : Int := if e < f ∨ (e = f ∧ n < m) then -1 else if e = f ∧ n = m then 0 else 1

abbrev zx (e n : Int) : Value := .agg #[.int .u32 e, .int .u32 n]

theorem eqZx (e n f m : Int) (w : World) : (binOp .eql 30 (.agg #[.int .u32 e, .int .u32 n]) (.agg #[.int .u32 f, .int .u32 m])).run Tryd.prog w = .ok (.bool (decide (e = f ∧ n = m))) w := by
  have hu : Tryd.prog.underlying 30 = some (.struct (Tryd.prog.fieldsOf 30)) := by kernel_rfl
  have hp : Tryd.prog.stoodInHeld 30 = false := by kernel_rfl
  have u3 := Tryd.underlying28
  have a3 := Tryd.isAgg28
  have z3 := Tryd.sizeOf28
  rw [run_eql_struct, show (10000 : Nat) = 9999 + 1 from rfl, run_equalIn_agg w 9999 _ _ _ hu hp]
  simp only [Program.fieldsOf, Tryd.underlying30]
  go_simp
  by_cases h1 : e = f <;> by_cases h2 : n = m <;> simp [h1, h2]

theorem two_alloc (w : World) (o o' : Obj) : Below w.heap.size w ((w.alloc o).alloc o') := ((Below.refl _ _).alloc (Nat.le_refl _) _).alloc (by simp) _
theorem one_alloc (w : World) (o : Obj) : Below w.heap.size w (w.alloc o) := (Below.refl _ _).alloc (Nat.le_refl _) _

set_option maxHeartbeats 400000 in
theorem compare_any (e n f m : Int) (w : World) :
    Calls Tryd.prog 18 #[zx e n, zx f m] w fun r w' => r = .returned (.int .i64 (zcmp e n f m)) ∧ Below w.heap.size w w' := by
  have hg : Tryd.prog.eqGuardType Tryd.prog.depth 30 = false := by kernel_rfl
  have hB := two_alloc w
  have hq := eqZx e n f m
  go_enter Tryd.func18, Tryd.ntmps18
  go_wp2
  all_goals (go_ret; refine ⟨?_, hB _ _⟩; unfold zcmp; split <;> (try split) <;> first | rfl | omega)

set_option maxHeartbeats 400000 in
theorem refCompare_any (e n f m : Int) (w : World) :
    Calls Tryd.prog 22 #[zx e n, zx f m] w fun r w' => r = .returned (.int .i64 (zcmp e n f m)) ∧ Below w.heap.size w w' := by
  have hg : Tryd.prog.eqGuardType Tryd.prog.depth 30 = false := by kernel_rfl
  have hB := two_alloc w
  have hq := eqZx e n f m
  go_enter Tryd.func22, Tryd.ntmps22
  go_wp2
  all_goals (go_ret; refine ⟨?_, hB _ _⟩; unfold zcmp; split <;> (try split) <;> first | rfl | omega)

theorem isEpoch_any (n : Int) (w : World) (h0 : 0 ≤ n) :
    Calls Tryd.prog 61 #[.int .u32 n] w fun r w' => r = .returned (.bool (decide (1 ≤ n ∧ n ≤ 2147483647))) ∧ w' = w := by
  go_enter Tryd.func61, Tryd.ntmps61
  go_wp2
  all_goals (go_ret; refine ⟨?_, rfl⟩; first | rfl | (congr 2; simp; omega))

/-- A zxid's one number. -/
def zpack (e n : Int) : Int × Int := if 2147483647 < e then (0, 1) else (e * 4294967296 + n, 0)

theorem ofInt_i64z (a : Nat) (ha : a < 9223372036854775808) : (BitVec.ofInt 64 (a : Int)).toNat = a := by
  rw [BitVec.ofInt_natCast, BitVec.toNat_ofNat]; exact Nat.mod_eq_of_lt (by omega)
theorem i64_or63 (a b : Int) (h1 : 0 ≤ a) (h2 : a < 9223372036854775808) (h3 : 0 ≤ b) (h4 : b < 9223372036854775808) : bits .or .i64 a b = ((a.toNat ||| b.toNat : Nat) : Int) := by
  obtain ⟨A, rfl⟩ := Int.eq_ofNat_of_zero_le h1
  obtain ⟨B, rfl⟩ := Int.eq_ofNat_of_zero_le h3
  have hx : A ||| B < 2 ^ 63 := Nat.or_lt_two_pow (by omega) (by omega)
  show IntKind.i64.wrap ((BitVec.ofInt 64 (A : Int) ||| BitVec.ofInt 64 (B : Int)).toNat : Int) = _
  rw [BitVec.toNat_or, ofInt_i64z A (by omega), ofInt_i64z B (by omega)]
  simp only [Int.toNat_natCast]
  simp [IntKind.wrap, IntKind.bits, IntKind.signed]
  omega

theorem zpack_or (e n : Int) (h0 : 0 ≤ e) (h1 : e ≤ 2147483647) (h2 : 0 ≤ n) (h3 : n ≤ 4294967295) : bits .or .i64 (e * 4294967296) n = e * 4294967296 + n := by
  rw [i64_or63 _ _ (by omega) (by omega) (by omega) (by omega), nat_join 32 _ _ (by omega) (by omega)]
  omega

/-- The zxid of a number: its epoch, its counter, the error. -/
def zunpack (n : Int) : Int × Int × Int := if n < 0 then (0, 0, 1) else (n / 4294967296, n % 4294967296, 0)

/-- The next zxid of an epoch: epoch, counter, error. -/
def znext (e n last : Int) : Int × Int × Int := if e = 0 ∨ 2147483647 < e then (0, 0, 1) else if last ≤ n then (0, 0, 2) else (e, n + 1, 0)

end Go.Proofs.YtljghfglabgckaaDoor
