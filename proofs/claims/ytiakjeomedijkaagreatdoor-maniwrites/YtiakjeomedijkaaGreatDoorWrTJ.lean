/- What the Reader's Float, Buffer and Text do. -/
import Derived.Test.YtiakjeomedijkaaGreatDoorFr2J
import Derived.Laws.BytesArg
import Derived.Test.YtiakjeomedijkaaGreatDoorWriterJ
import Derived.Test.YtiakjeomedijkaaGreatDoorReaderJ
import Derived.Test.YtiakjeomedijkaaGreatDoorDbl3J
import Derived.Laws.IdiomStrings
import Derived.Laws.Externs
import Derived.WalkLawsBesides
import Derived.Test.YtiakjeomedijkaaGreatDoorProg
import Derived.Laws.StructEq
import Derived.Lib.LaidTab
import Derived.Deep.RegionHeld
import Derived.BigQuiet
import Derived.Defers
import Derived.Recover
namespace Go.Proofs.YtiakjeomedijkaaGreatDoor
open Go.RowKit
set_option maxRecDepth 8000

/-- A float: by the document: its word. -/
def rdFloat (xs : List Int) (f : Int) : Rd :=
  if f ≠ 0 then ⟨0, xs, f⟩ else if xs.length < 8 then ⟨0, xs, 10⟩
  else if 9218868437227405312 < (num (xs.take 8)).toNat % 9223372036854775808 ∧ num (xs.take 8) ≠ 9221120237041090560 then ⟨0, xs, 12⟩ else ⟨num (xs.take 8), xs.drop 8, 0⟩

section
variable (g : Nat) (v : Value) (xs : List Int) (f : Int) (w : World)

theorem run_text (w : World) (u : Value) (ys : List Int) (h : Sees w u ys) : (convert 26 9 u).run Tryz.prog w = .ok (.string (strOfNums ys)) w := by
  obtain ⟨ao, cap, rfl, _, _, _, h3⟩ := h
  rcases h3 with rfl | ⟨b, off, rfl, h3⟩
  · cases ao with
    | none => exact run_convert_bytes_nil w 26 5 Tryz.underlying26 Tryz.underlying5 _ _ _ Tryz.underlying9
    | some a =>
      rw [run_convert_bytes_string w 26 9 5 _ _ _ Tryz.underlying26 Tryz.underlying5 Tryz.underlying9]
      have hl : (loadCells a 0).run Tryz.prog w = .ok #[] w := by simp [loadCells, loadCellsFrom]
      simp [Conv.bytesToString, strOfNums, hl]
      rfl
  · exact run_convert_bytes_arg w 26 5 Tryz.underlying26 Tryz.underlying5 b off ys.length cap ys rfl h3 _ Tryz.underlying9

end
end Go.Proofs.YtiakjeomedijkaaGreatDoor
/- Requests and transactions as data, and what it means that they lie in memory; no Go function is walked here. -/
namespace Go.Proofs.YtiakjeomedijkaaGreatDoor
open Go.RowKit
set_option maxRecDepth 8000

structure IdD where
  scheme : ByteArray
  name : ByteArray

structure EnD where
  perms : Int
  id : IdD

def IdD.cells (x : IdD) : List Value := [.string x.scheme, .string x.name]
def EnD.cells (x : EnD) : List Value := [.int .i8 x.perms, .string x.id.scheme, .string x.id.name]

/-- A request's fields, its Ops aside. -/
structure RqF where
  kind : Int
  path : ByteArray
  data : List Int
  acl : List EnD
  ver : Int
  eph : Bool
  seq : Bool
  ses : Int
  tmo : Int
  who : List IdD

inductive Rq where
  | mk (f : RqF) (n : Nat) (ops : Fin n → Rq) : Rq

def Rq.f : Rq → RqF
  | .mk f _ _ => f

/-- So many parts its own lists have. -/
def RqF.parts (f : RqF) : Nat := 1 + f.data.length + f.acl.length + f.who.length

def Rq.parts : Rq → Nat
  | .mk f n ops => f.parts + (List.ofFn fun i : Fin n => (ops i).parts).sum

/-- The parts of the first k inner requests. -/
def partsTo {n : Nat} (ops : Fin n → Rq) (k : Nat) : Nat := ((List.ofFn fun i : Fin n => (ops i).parts).take k).sum

theorem partsTo_zero {n : Nat} (ops : Fin n → Rq) : partsTo ops 0 = 0 := by simp [partsTo]
theorem partsTo_next {n : Nat} (ops : Fin n → Rq) (k : Nat) (h : k < n) : partsTo ops (k + 1) = partsTo ops k + (ops ⟨k, h⟩).parts := by
  unfold partsTo
  rw [List.take_succ_eq_append_getElem (by simpa using h)]
  simp
theorem partsTo_all {n : Nat} (ops : Fin n → Rq) : partsTo ops n = (List.ofFn fun i : Fin n => (ops i).parts).sum := by
  unfold partsTo
  rw [List.take_of_length_le (by simp)]
theorem Rq.parts_eq (f : RqF) (n : Nat) (ops : Fin n → Rq) : (Rq.mk f n ops).parts = f.parts + partsTo ops n := by
  rw [partsTo_all]; rfl
theorem parts_pos (r : Rq) : 0 < r.parts := by
  cases r with
  | mk f n ops => rw [Rq.parts_eq]; unfold RqF.parts; omega
theorem partsTo_le {n : Nat} (ops : Fin n → Rq) : ∀ k, k ≤ n → k ≤ partsTo ops k
  | 0, _ => Nat.zero_le _
  | k + 1, h => by
    have := partsTo_le ops k (by omega)
    have h1 := parts_pos (ops ⟨k, by omega⟩)
    rw [partsTo_next ops k (by omega)]
    omega
theorem partsTo_mono {n : Nat} (ops : Fin n → Rq) (k m : Nat) (h : k ≤ m) (hm : m ≤ n) : partsTo ops k ≤ partsTo ops m := by
  induction m with
  | zero => cases k with
    | zero => exact Nat.le_refl _
    | succ k => omega
  | succ m ih =>
    by_cases e : k = m + 1
    · subst e; exact Nat.le_refl _
    · have := ih (by omega) (by omega)
      rw [partsTo_next ops m (by omega)]
      omega
theorem part_le {n : Nat} (ops : Fin n → Rq) (i : Fin n) : (ops i).parts ≤ partsTo ops n := by
  have h1 := partsTo_next ops i.1 i.2
  have h2 := partsTo_mono ops (i.1 + 1) n (by omega) (Nat.le_refl _)
  have e : ops ⟨i.1, i.2⟩ = ops i := rfl
  rw [e] at h1
  omega

/-- What numbers and texts can be. -/
structure RqF.good (f : RqF) : Prop where
  k0 : -128 ≤ f.kind
  k1 : f.kind ≤ 127
  v0 : -2147483648 ≤ f.ver
  v1 : f.ver ≤ 2147483647
  s0 : -9223372036854775808 ≤ f.ses
  s1 : f.ses ≤ 9223372036854775807
  t0 : -2147483648 ≤ f.tmo
  t1 : f.tmo ≤ 2147483647
  byts : Byts f.data
  pl : f.path.size ≤ 140737488355328
  dl : f.data.length ≤ 140737488355328
  al : f.acl.length ≤ 140737488355328
  wl : f.who.length ≤ 140737488355328
  ae : ∀ x ∈ f.acl, -128 ≤ x.perms ∧ x.perms ≤ 127 ∧ x.id.scheme.size ≤ 140737488355328 ∧ x.id.name.size ≤ 140737488355328
  we : ∀ x ∈ f.who, x.scheme.size ≤ 140737488355328 ∧ x.name.size ≤ 140737488355328

def Rq.good : Rq → Prop
  | .mk f n ops => f.good ∧ n ≤ 140737488355328 ∧ ∀ i : Fin n, (ops i).good

/-- The slice value v leads to elements of z cells each: the cells of each. -/
def SeesR (w : World) (v : Value) (z : Nat) (cs : List (List Value)) : Prop :=
  ∃ (ao : Option Addr) (cap : Nat), v = .slice ao cs.length cap ∧ cs.length ≤ cap ∧ cap ≤ maxLen ∧ (ao = none → cap = 0) ∧
    (cs = [] ∨ ∃ b off, ao = some ⟨b, off, none⟩ ∧ ∀ i (hi : i < cs.length) j, j < z → w.cell? ⟨b, off + i * z + j, none⟩ = some (cs[i].getD j (.bool false)))

theorem SeesR.nil (w : World) (z : Nat) : SeesR w (.slice none 0 0) z [] := ⟨none, 0, rfl, Nat.le_refl _, by unfold maxLen; omega, fun _ => rfl, .inl rfl⟩

theorem SeesR.below {B : Nat} {w w' : World} {v : Value} {z : Nat} {cs : List (List Value)} (h : SeesR w v z cs) (hb : Below B w w') (hB : w.heap.size ≤ B) : SeesR w' v z cs := by
  obtain ⟨ao, cap, rfl, h1, h2, h0, h3⟩ := h
  refine ⟨ao, cap, rfl, h1, h2, h0, ?_⟩
  rcases h3 with h3 | ⟨b, off, rfl, h3⟩
  · exact .inl h3
  · exact .inr ⟨b, off, rfl, fun i hi j hj => cell_later (h3 i hi j hj) hb hB⟩

/-- A request's cells. -/
def rqCells (f : RqF) (dv av wv ov : Value) : List Value :=
  [.int .i8 f.kind, .string f.path, dv, av, .int .i32 f.ver, .bool f.eph, .bool f.seq, .int .i64 f.ses, .int .i32 f.tmo, wv, ov]

/-- The cells cs are those of the request r. -/
inductive SeesRq (w : World) : List Value → Rq → Prop where
  | mk (f : RqF) (n : Nat) (ops : Fin n → Rq) (dv av wv ov : Value) (oc : Fin n → List Value)
      (hd : Sees w dv f.data) (ha : SeesR w av 3 (f.acl.map EnD.cells)) (hw : SeesR w wv 2 (f.who.map IdD.cells)) (ho : SeesR w ov 11 (List.ofFn oc))
      (hs : ∀ i : Fin n, SeesRq w (oc i) (ops i)) : SeesRq w (rqCells f dv av wv ov) (.mk f n ops)

theorem SeesRq.len {w : World} {cs : List Value} {r : Rq} (h : SeesRq w cs r) : cs.length = 11 := by
  cases h; rfl

theorem SeesRq.later {B : Nat} {w w' : World} (hb : Below B w w') (hB : w.heap.size ≤ B) {cs : List Value} {r : Rq} (h : SeesRq w cs r) : SeesRq w' cs r := by
  induction h with
  | mk f n ops dv av wv ov oc hd ha hw ho _ ih => exact .mk f n ops dv av wv ov oc (hd.below hb hB) (ha.below hb hB) (hw.below hb hB) (ho.below hb hB) ih

/-- A transaction. -/
structure TxD where
  ep : Int
  n : Int
  srv : Int
  boot : Int
  num : Int
  rq : Rq

structure TxD.good (t : TxD) : Prop where
  e0 : 0 ≤ t.ep
  e1 : t.ep ≤ 4294967295
  n0 : 0 ≤ t.n
  n1 : t.n ≤ 4294967295
  s0 : -128 ≤ t.srv
  s1 : t.srv ≤ 127
  b0 : 0 ≤ t.boot
  b1 : t.boot ≤ 4294967295
  m0 : -9223372036854775808 ≤ t.num
  m1 : t.num ≤ 9223372036854775807
  rq : t.rq.good

def txHead (t : TxD) : List Value := [.int .u32 t.ep, .int .u32 t.n, .int .i8 t.srv, .int .u32 t.boot, .int .i64 t.num]

/-- The cells cs are those of the transaction t. -/
def SeesTx (w : World) (cs : List Value) (t : TxD) : Prop := ∃ rc, cs = txHead t ++ rc ∧ SeesRq w rc t.rq

theorem SeesTx.len {w : World} {cs : List Value} {t : TxD} (h : SeesTx w cs t) : cs.length = 16 := by
  obtain ⟨rc, rfl, h⟩ := h
  have := h.len
  simp [txHead, this]

theorem SeesTx.below {B : Nat} {w w' : World} (hb : Below B w w') (hB : w.heap.size ≤ B) {cs : List Value} {t : TxD} (h : SeesTx w cs t) : SeesTx w' cs t := by
  obtain ⟨rc, rfl, h⟩ := h
  exact ⟨rc, rfl, h.later hb hB⟩

/-- The slice value v leads to the transactions l. -/
def SeesTxs (w : World) (v : Value) (l : List TxD) : Prop :=
  ∃ cs : List (List Value), SeesR w v 16 cs ∧ cs.length = l.length ∧ ∀ i (h : i < cs.length) (k : i < l.length), SeesTx w cs[i] l[i]

theorem SeesTxs.below {B : Nat} {w w' : World} (hb : Below B w w') (hB : w.heap.size ≤ B) {v : Value} {l : List TxD} (h : SeesTxs w v l) : SeesTxs w' v l := by
  obtain ⟨cs, h1, h2, h3⟩ := h
  exact ⟨cs, h1.below hb hB, h2, fun i h k => (h3 i h k).below hb hB⟩

end Go.Proofs.YtiakjeomedijkaaGreatDoor

/- What the Writer's Int64 does, and put64 behind it: eight bytes, the highest first. -/
namespace Go.Proofs.YtiakjeomedijkaaGreatDoor
open Go.RowKit
set_option maxRecDepth 8000

set_option maxHeartbeats 400000 in
theorem wPut64_any (g : Nat) (v : Value) (xs : List Int) (n : Int) (w : World) (h : IsW w g v xs) (hn : 0 ≤ n) (hn' : n ≤ 18446744073709551615) (hb : xs.length + 8 ≤ 140737488355328) :
    Calls Tryz.prog 109 #[.pointer (some ⟨g, 0, none⟩), .int .u64 n] w fun e w' => e = .returned (.tuple #[]) ∧ Puts w g v (xs ++ be8 n) w' := by
  have H : Hid (IsW w g v xs) := h
  clear h
  have hq : n / 4294967296 ≤ 4294967295 := by omega
  go_enter Tryz.func109, Tryz.ntmps109
  go_wp2_with fail
  refine (wUint32_any g v xs (n / 4294967296) _ H.out (by omega) (by omega) (by omega)).mono ?_
  rintro e w1 ⟨rfl, hp⟩
  obtain ⟨v1, hw1, hn1, hk1⟩ := hp
  have HW1 : Hid (IsW w1 g v1 (xs ++ be4 (n / 4294967296)) ∧ NewRow w v v1 ∧ Kept w w1 (fun k => k = g ∨ v.ownBlock = some k)) := ⟨hw1, hn1, hk1⟩
  clear hw1 hn1 hk1
  go_wp2_with fail
  refine (wUint32_any g v1 _ (n % 4294967296) _ HW1.out.1 (by omega) (by omega) (by simp [be4]; omega)).mono ?_
  rintro e w2 ⟨rfl, hp2⟩
  have hp3 := Puts.next HW1.out.2.1 HW1.out.2.2 hp2
  rw [List.append_assoc] at hp3
  have HP : Hid (Puts w g v (xs ++ be8 n) w2) := hp3
  clear hp2 hp3
  go_wp2
  go_end0
  exact ⟨rfl, HP.out⟩

set_option maxHeartbeats 400000 in
theorem wInt64_any (g : Nat) (v : Value) (xs : List Int) (n : Int) (w : World) (h : IsW w g v xs) (hb : xs.length + 8 ≤ 140737488355328) :
    Calls Tryz.prog 56 #[.pointer (some ⟨g, 0, none⟩), .int .i64 n] w fun e w' => e = .returned (.tuple #[]) ∧ Puts w g v (xs ++ be8 (up64 n)) w' := by
  have H : Hid (IsW w g v xs) := h
  clear h
  go_enter Tryz.func56, Tryz.ntmps56
  go_wp2_with fail
  refine (wPut64_any g v xs (up64 n) _ H.out (up64_bd n).1 (up64_bd n).2 hb).mono ?_
  rintro e w1 ⟨rfl, hp⟩
  have HP : Hid (Puts w g v (xs ++ be8 (up64 n)) w1) := hp
  clear hp
  go_wp2
  go_end0
  exact ⟨rfl, HP.out⟩

end Go.Proofs.YtiakjeomedijkaaGreatDoor

/- What the Writer's Raw does: it puts the bytes behind those that the Writer has. -/
namespace Go.Proofs.YtiakjeomedijkaaGreatDoor
open Go.RowKit
set_option maxRecDepth 8000

end Go.Proofs.YtiakjeomedijkaaGreatDoor

/- What the rest of the Writer's calls do: Bool, Int8, Float, Text and Buffer. -/
namespace Go.Proofs.YtiakjeomedijkaaGreatDoor
open Go.RowKit
set_option maxRecDepth 8000

/-- A truth's byte. -/
def b2i (b : Bool) : Int := if b then 1 else 0

set_option maxHeartbeats 400000 in
theorem wInt8_any (g : Nat) (v : Value) (xs : List Int) (n : Int) (w : World) (h : IsW w g v xs) (hb : xs.length + 1 ≤ 140737488355328) :
    Calls Tryz.prog 52 #[.pointer (some ⟨g, 0, none⟩), .int .i8 n] w fun e w' => e = .returned (.tuple #[]) ∧ Puts w g v (xs ++ [n % 256]) w' := by
  have H : Hid (IsW w g v xs) := h
  clear h
  go_enter Tryz.func52, Tryz.ntmps52
  go_wp2_with fail
  refine (add_any g v _ xs [n % 256] _ (H.out.alloc _) (sees_new _ [n % 256] (by simp) rfl) hb).mono ?_
  rintro e w1 ⟨rfl, hp⟩
  have HP : Hid (Puts w g v (xs ++ [n % 256]) w1) := hp.of_alloc
  clear hp
  go_wp2
  go_end0
  exact ⟨rfl, HP.out⟩

/-- A text's bytes as numbers. -/
def txt (s : ByteArray) : List Int := s.data.toList.map fun b => (b.toNat : Int)
theorem txt_len (s : ByteArray) : (txt s).length = s.size := by unfold txt; rw [List.length_map, Array.length_toList]; rfl
theorem txt_byts (s : ByteArray) : Byts (txt s) := by
  intro x hx
  simp [txt] at hx
  obtain ⟨b, _, rfl⟩ := hx
  have := b.toNat_lt
  omega

/-- What '[]byte(s)' makes leads to the text's bytes. -/
theorem sees_text (w : World) (s : ByteArray) (hs : s.size ≤ maxLen) (mk : Nat × Nat) :
    Sees (w.drew.alloc (.cells (bytesRow s (grownCap w s.size 0 5)) 5 mk)) (.slice (some ⟨w.heap.size, 0, none⟩) s.size (grownCap w s.size 0 5)) (txt s) := by
  refine ⟨_, _, by rw [txt_len], by rw [txt_len]; exact grownCap_ge _ _ _ _, grownCap_le_maxLen _ _ _ _ hs, fun e => by simp at e, .inr ⟨_, _, rfl, fun i hi => ?_⟩⟩
  rw [txt_len] at hi
  have hi' : i < s.data.size := hi
  rw [Nat.zero_add]
  have := World.cell?_alloc_mark w.drew (bytesRow s (grownCap w s.size 0 5)) 5 mk i
  rw [show w.drew.heap.size = w.heap.size from rfl] at this
  rw [this, bytesRow_at s _ i hi']
  simp only [txt, List.getD_eq_getElem?_getD, List.getElem?_map, Array.getElem?_toList, Array.getElem?_eq_getElem hi', Option.map_some, Option.getD_some]

theorem IsW.drew {w : World} {g : Nat} {v : Value} {xs : List Int} (h : IsW w g v xs) : IsW w.drew g v xs := h.kept ((Kept.refl w (fun _ => False)).drewN 1) (fun h => h) (fun _ _ h => h)

theorem Puts.of_drew {w w' : World} {g : Nat} {v : Value} {xs : List Int} (h : Puts w.drew g v xs w') : Puts w g v xs w' := by
  obtain ⟨v', h1, h2, h3⟩ := h
  exact ⟨v', h1, h2, ⟨h3.os, h3.tape, h3.output, h3.size, h3.block⟩⟩

end Go.Proofs.YtiakjeomedijkaaGreatDoor

/- Zxids: what Compare, Pack, Unpack and Next of package txn, and the document's own, answer. -/
namespace Go.Proofs.YtiakjeomedijkaaGreatDoor
open Go.RowKit
set_option maxRecDepth 8000

/-- Two zxids held against each other: -1, 0 or 1. -/
def zcmp (e n f m : Int) : Int := if e < f ∨ (e = f ∧ n < m) then -1 else if e = f ∧ n = m then 0 else 1

abbrev zx (e n : Int) : Value := .agg #[.int .u32 e, .int .u32 n]

theorem eqZx (e n f m : Int) (w : World) : (binOp .eql 140 (.agg #[.int .u32 e, .int .u32 n]) (.agg #[.int .u32 f, .int .u32 m])).run Tryz.prog w = .ok (.bool (decide (e = f ∧ n = m))) w := by
  have hu : Tryz.prog.underlying 140 = some (.struct (Tryz.prog.fieldsOf 140)) := by kernel_rfl
  have hp : Tryz.prog.stoodInHeld 140 = false := by kernel_rfl
  have u3 := Tryz.underlying22
  have a3 := Tryz.isAgg22
  have z3 := Tryz.sizeOf22
  rw [run_eql_struct, show (10000 : Nat) = 9999 + 1 from rfl, run_equalIn_agg w 9999 _ _ _ hu hp]
  simp only [Program.fieldsOf, Tryz.underlying140]
  go_simp
  by_cases h1 : e = f <;> by_cases h2 : n = m <;> simp [h1, h2]

theorem two_alloc (w : World) (o o' : Obj) : Below w.heap.size w ((w.alloc o).alloc o') := ((Below.refl _ _).alloc (Nat.le_refl _) _).alloc (by simp) _
theorem one_alloc (w : World) (o : Obj) : Below w.heap.size w (w.alloc o) := (Below.refl _ _).alloc (Nat.le_refl _) _

/-- A zxid's one number. -/
def zpack (e n : Int) : Int × Int := if 2147483647 < e then (0, 1) else (e * 4294967296 + n, 0)

theorem ofInt_i64z (a : Nat) (ha : a < 9223372036854775808) : (BitVec.ofInt 64 (a : Int)).toNat = a := by
  rw [BitVec.ofInt_natCast, BitVec.toNat_ofNat]; exact Nat.mod_eq_of_lt (by omega)
theorem i64_or63 (a b : Int) (h1 : 0 ≤ a) (h2 : a < 9223372036854775808) (h3 : 0 ≤ b) (h4 : b < 9223372036854775808) : bits .or .i64 a b = ((a.toNat ||| b.toNat : Nat) : Int) := by
  obtain ⟨A, rfl⟩ := Int.eq_ofNat_of_zero_le h1
  obtain ⟨B, rfl⟩ := Int.eq_ofNat_of_zero_le h3
  have hx : A ||| B < 2 ^ 63 := Nat.or_lt_two_pow (by omega) (by omega)
  show IntKind.i64.wrap ((BitVec.ofInt 64 (A : Int) ||| BitVec.ofInt 64 (B : Int)).toNat : Int) = _
  rw [BitVec.toNat_or, ofInt_i64z A (by omega), ofInt_i64z B (by omega)]
  simp only [Int.toNat_natCast]
  simp [IntKind.wrap, IntKind.bits, IntKind.signed]
  omega

theorem zpack_or (e n : Int) (h0 : 0 ≤ e) (h1 : e ≤ 2147483647) (h2 : 0 ≤ n) (h3 : n ≤ 4294967295) : bits .or .i64 (e * 4294967296) n = e * 4294967296 + n := by
  rw [i64_or63 _ _ (by omega) (by omega) (by omega) (by omega), nat_join 32 _ _ (by omega) (by omega)]
  omega

/-- The zxid of a number: its epoch, its counter, the error. -/
def zunpack (n : Int) : Int × Int × Int := if n < 0 then (0, 0, 1) else (n / 4294967296, n % 4294967296, 0)

/-- The next zxid of an epoch: epoch, counter, error. -/
def znext (e n last : Int) : Int × Int × Int := if e = 0 ∨ 2147483647 < e then (0, 0, 1) else if last ≤ n then (0, 0, 2) else (e, n + 1, 0)

end Go.Proofs.YtiakjeomedijkaaGreatDoor

/- What the small parts of txn.Check answer: isZxid, isOrigin, the layouts, names, bit, filled, needed. -/
namespace Go.Proofs.YtiakjeomedijkaaGreatDoor
open Go.RowKit
set_option maxRecDepth 8000

def zxOk (e n : Int) : Bool := decide ((e = 0 ∧ n = 0) ∨ (1 ≤ e ∧ e ≤ 2147483647 ∧ 1 ≤ n))

abbrev orig (s b m : Int) : Value := .agg #[.int .i8 s, .int .u32 b, .int .i64 m]
def origOk (s m : Int) : Bool := decide (0 ≤ s ∧ s < 7 ∧ 0 ≤ m)

abbrev lay (last wo : Int) : Value := .agg #[.int .i8 last, .int .u16 wo]

/-- A field's bit, where it is on. -/
def bz (n : Int) (b : Bool) : Int := if b then n else 0

def need (k : Int) : Int := if k = 6 then 512 else if k = 7 then 128 else if k = 8 then 64 else 0

def tabN (k : Int) : Int := ([0, 375, 329, 331, 333, 329, 832, 128, 64, 321, 321, 321, 321] : List Int).getD k.toNat 0

/-- What a kind names there. -/
def nms (last wo k : Int) : Int := if k < 1 ∨ last < k then 0 else bits .andNot .u16 (tabN k) wo

/-- What of a request is not zero, as bits. -/
def fillz (p d a v e s z t o q : Bool) : Int :=
  bits .or .u16 (bits .or .u16 (bits .or .u16 (bits .or .u16 (bits .or .u16 (bits .or .u16 (bits .or .u16 (bits .or .u16 (bits .or .u16 (bz 1 p) (bz 2 d)) (bz 4 a)) (bz 8 v)) (bz 16 e)) (bz 32 s)) (bz 64 z)) (bz 128 t)) (bz 256 o)) (bz 512 q)

/-- An id that may be. -/
def idOk (x : IdD) : Bool := decide (x.scheme.size ≤ 24 ∧ x.name.size ≤ 24)

end Go.Proofs.YtiakjeomedijkaaGreatDoor
/- What putId, and PutList of ids with it, put behind a Writer's bytes. -/
namespace Go.Proofs.YtiakjeomedijkaaGreatDoor
open Go.RowKit
set_option maxRecDepth 8000

/-- A text's bytes, its length ahead. -/
def txtB (s : ByteArray) : List Int := be4 (txt s).length ++ txt s
def idB (x : IdD) : List Int := txtB x.scheme ++ txtB x.name

theorem txtB_len (s : ByteArray) : (txtB s).length = 4 + s.size := by simp [txtB, be4, txt_len]; omega

theorem Puts.later {w w1 w2 : World} {g : Nat} {v : Value} {xs : List Int} (h : Puts w g v xs w1) (hb : Below w1.heap.size w1 w2) : Puts w g v xs w2 := by
  obtain ⟨v', h1, h2, h3⟩ := h
  refine ⟨v', h1.kept (Below.kept hb) ?_ ?_, h2, h3.trans (Below.kept hb) ?_⟩
  · have := lt_of_block h1.1; omega
  · intro k hk; have := (h1.2.lt k hk).2; omega
  · intro k hk h; have := h3.size; omega

/-- A cell that is no Writer's. -/
theorem Puts.cell {w w1 : World} {g : Nat} {v : Value} {xs : List Int} (h : Puts w g v xs w1) {p : Addr} {u : Value} (hc : w.cell? p = some u) (hg : p.block ≠ g) (hv : v.ownBlock ≠ some p.block) : w1.cell? p = some u := by
  obtain ⟨v', h1, h2, h3⟩ := h
  exact h3.cell hc (fun e => by
    rcases e with e | e
    · exact hg e
    · exact hv e)

theorem Puts.size {w w1 : World} {g : Nat} {v : Value} {xs : List Int} (h : Puts w g v xs w1) : w.heap.size ≤ w1.heap.size := by
  obtain ⟨v', h1, h2, h3⟩ := h
  exact h3.size

theorem IsW.lt {w : World} {g : Nat} {v : Value} {xs : List Int} (h : IsW w g v xs) : g < w.heap.size ∧ ∀ k, v.ownBlock = some k → k < w.heap.size :=
  ⟨lt_of_block h.1, fun k hk => (h.2.lt k hk).2⟩

def idsB (l : List IdD) : List Int := l.flatMap idB
theorem idsB_next (l : List IdD) (k : Nat) (h : k < l.length) : idsB (l.take (k + 1)) = idsB (l.take k) ++ idB l[k] := by
  rw [List.take_succ_eq_append_getElem h]; simp only [idsB, List.flatMap_append, List.flatMap_cons, List.flatMap_nil, List.append_nil]

theorem idsB_len (l : List IdD) (h : ∀ x ∈ l, x.scheme.size ≤ 2147483647 ∧ x.name.size ≤ 2147483647) : (idsB l).length ≤ 4294967310 * l.length := by
  induction l with
  | nil => simp [idsB]
  | cons x l ih =>
    have e : idsB (x :: l) = idB x ++ idsB l := by simp [idsB]
    have h1 := h x (by simp)
    have h2 := ih (fun y hy => h y (by simp [hy]))
    rw [e, List.length_append, idB, List.length_append, txtB_len, txtB_len, List.length_cons]
    omega

end Go.Proofs.YtiakjeomedijkaaGreatDoor
