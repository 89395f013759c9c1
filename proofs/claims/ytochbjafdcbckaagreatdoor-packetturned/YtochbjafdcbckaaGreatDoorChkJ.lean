/- Zxids: what Compare, Pack, Unpack and Next of package txn, and the document's own, answer. -/
import Derived.Test.YtochbjafdcbckaaGreatDoorProg
import Derived.Test.YtochbjafdcbckaaGreatDoorMemJ
import Derived.Laws.StructEq
import Derived.Lib.LaidTab
import Derived.Deep.RegionHeld
import Derived.BigQuiet
namespace Go.Proofs.YtochbjafdcbckaaGreatDoor
open Go.RowKit
set_option maxRecDepth 8000

/-- Two zxids held against each other: -1, 0 or 1. -/
def zcmp (e n f m : Int) : Int := if e < f ∨ (e = f ∧ n < m) then -1 else if e = f ∧ n = m then 0 else 1

abbrev zx (e n : Int) : Value := .agg #[.int .u32 e, .int .u32 n]

theorem eqZx (e n f m : Int) (w : World) : (binOp .eql 27 (.agg #[.int .u32 e, .int .u32 n]) (.agg #[.int .u32 f, .int .u32 m])).run Tryz.prog w = .ok (.bool (decide (e = f ∧ n = m))) w := by
  have hu : Tryz.prog.underlying 27 = some (.struct (Tryz.prog.fieldsOf 27)) := by kernel_rfl
  have hp : Tryz.prog.stoodInHeld 27 = false := by kernel_rfl
  have u3 := Tryz.underlying23
  have a3 := Tryz.isAgg23
  have z3 := Tryz.sizeOf23
  rw [run_eql_struct, show (10000 : Nat) = 9999 + 1 from rfl, run_equalIn_agg w 9999 _ _ _ hu hp]
  simp only [Program.fieldsOf, Tryz.underlying27]
  go_simp
  by_cases h1 : e = f <;> by_cases h2 : n = m <;> simp [h1, h2]

theorem two_alloc (w : World) (o o' : Obj) : Below w.heap.size w ((w.alloc o).alloc o') := ((Below.refl _ _).alloc (Nat.le_refl _) _).alloc (by simp) _
theorem one_alloc (w : World) (o : Obj) : Below w.heap.size w (w.alloc o) := (Below.refl _ _).alloc (Nat.le_refl _) _

set_option maxHeartbeats 400000 in
theorem compare_any (e n f m : Int) (w : World) :
    Calls Tryz.prog 117 #[zx e n, zx f m] w fun r w' => r = .returned (.int .i64 (zcmp e n f m)) ∧ Below w.heap.size w w' := by
  have hg : Tryz.prog.eqGuardType Tryz.prog.depth 27 = false := by kernel_rfl
  have hB := two_alloc w
  have hq := eqZx e n f m
  go_enter Tryz.func117, Tryz.ntmps117
  go_wp2
  all_goals (go_ret; refine ⟨?_, hB _ _⟩; unfold zcmp; split <;> (try split) <;> first | rfl | omega)

set_option maxHeartbeats 400000 in
theorem refCompare_any (e n f m : Int) (w : World) :
    Calls Tryz.prog 26 #[zx e n, zx f m] w fun r w' => r = .returned (.int .i64 (zcmp e n f m)) ∧ Below w.heap.size w w' := by
  have hg : Tryz.prog.eqGuardType Tryz.prog.depth 27 = false := by kernel_rfl
  have hB := two_alloc w
  have hq := eqZx e n f m
  go_enter Tryz.func26, Tryz.ntmps26
  go_wp2
  all_goals (go_ret; refine ⟨?_, hB _ _⟩; unfold zcmp; split <;> (try split) <;> first | rfl | omega)

theorem isEpoch_any (n : Int) (w : World) (h0 : 0 ≤ n) :
    Calls Tryz.prog 130 #[.int .u32 n] w fun r w' => r = .returned (.bool (decide (1 ≤ n ∧ n ≤ 2147483647))) ∧ w' = w := by
  go_enter Tryz.func130, Tryz.ntmps130
  go_wp2
  all_goals (go_ret; refine ⟨?_, rfl⟩; first | rfl | (congr 2; simp; omega))

/-- A zxid's one number. -/
def zpack (e n : Int) : Int × Int := if 2147483647 < e then (0, 1) else (e * 4294967296 + n, 0)

theorem ofInt_i64z (a : Nat) (ha : a < 9223372036854775808) : (BitVec.ofInt 64 (a : Int)).toNat = a := by
  rw [BitVec.ofInt_natCast, BitVec.toNat_ofNat]; exact Nat.mod_eq_of_lt (by omega)
theorem i64_or63 (a b : Int) (h1 : 0 ≤ a) (h2 : a < 9223372036854775808) (h3 : 0 ≤ b) (h4 : b < 9223372036854775808) : bits .or .i64 a b = ((a.toNat ||| b.toNat : Nat) : Int) := by
  obtain ⟨A, rfl⟩ := Int.eq_ofNat_of_zero_le h1
  obtain ⟨B, rfl⟩ := Int.eq_ofNat_of_zero_le h3
  have hx : A ||| B < 2 ^ 63 := Nat.or_lt_two_pow (by omega) (by omega)
  show IntKind.i64.wrap ((BitVec.ofInt 64 (A : Int) ||| BitVec.ofInt 64 (B : Int)).toNat : Int) = _
  rw [BitVec.toNat_or, ofInt_i64z A (by omega), ofInt_i64z B (by omega)]
  simp only [Int.toNat_natCast]
  simp [IntKind.wrap, IntKind.bits, IntKind.signed]
  omega

theorem zpack_or (e n : Int) (h0 : 0 ≤ e) (h1 : e ≤ 2147483647) (h2 : 0 ≤ n) (h3 : n ≤ 4294967295) : bits .or .i64 (e * 4294967296) n = e * 4294967296 + n := by
  rw [i64_or63 _ _ (by omega) (by omega) (by omega) (by omega), nat_join 32 _ _ (by omega) (by omega)]
  omega

/-- The zxid of a number: its epoch, its counter, the error. -/
def zunpack (n : Int) : Int × Int × Int := if n < 0 then (0, 0, 1) else (n / 4294967296, n % 4294967296, 0)

/-- The next zxid of an epoch: epoch, counter, error. -/
def znext (e n last : Int) : Int × Int × Int := if e = 0 ∨ 2147483647 < e then (0, 0, 1) else if last ≤ n then (0, 0, 2) else (e, n + 1, 0)

end Go.Proofs.YtochbjafdcbckaaGreatDoor

/- Requests and transactions as data, and what it means that they lie in memory; no Go function is walked here. -/
namespace Go.Proofs.YtochbjafdcbckaaGreatDoor
open Go.RowKit
set_option maxRecDepth 8000

structure IdD where
  scheme : ByteArray
  name : ByteArray

structure EnD where
  perms : Int
  id : IdD

def IdD.cells (x : IdD) : List Value := [.string x.scheme, .string x.name]
def EnD.cells (x : EnD) : List Value := [.int .i8 x.perms, .string x.id.scheme, .string x.id.name]

/-- A request's fields, its Ops aside. -/
structure RqF where
  kind : Int
  path : ByteArray
  data : List Int
  acl : List EnD
  ver : Int
  eph : Bool
  seq : Bool
  ses : Int
  tmo : Int
  who : List IdD

inductive Rq where
  | mk (f : RqF) (n : Nat) (ops : Fin n → Rq) : Rq

def Rq.f : Rq → RqF
  | .mk f _ _ => f

/-- So many parts its own lists have. -/
def RqF.parts (f : RqF) : Nat := 1 + f.data.length + f.acl.length + f.who.length

def Rq.parts : Rq → Nat
  | .mk f n ops => f.parts + (List.ofFn fun i : Fin n => (ops i).parts).sum

/-- The parts of the first k inner requests. -/
def partsTo {n : Nat} (ops : Fin n → Rq) (k : Nat) : Nat := ((List.ofFn fun i : Fin n => (ops i).parts).take k).sum

theorem partsTo_zero {n : Nat} (ops : Fin n → Rq) : partsTo ops 0 = 0 := by simp [partsTo]
theorem partsTo_next {n : Nat} (ops : Fin n → Rq) (k : Nat) (h : k < n) : partsTo ops (k + 1) = partsTo ops k + (ops ⟨k, h⟩).parts := by
  unfold partsTo
  rw [List.take_succ_eq_append_getElem (by simpa using h)]
  simp
theorem partsTo_all {n : Nat} (ops : Fin n → Rq) : partsTo ops n = (List.ofFn fun i : Fin n => (ops i).parts).sum := by
  unfold partsTo
  rw [List.take_of_length_le (by simp)]
theorem Rq.parts_eq (f : RqF) (n : Nat) (ops : Fin n → Rq) : (Rq.mk f n ops).parts = f.parts + partsTo ops n := by
  rw [partsTo_all]; rfl
theorem parts_pos (r : Rq) : 0 < r.parts := by
  cases r with
  | mk f n ops => rw [Rq.parts_eq]; unfold RqF.parts; omega
theorem partsTo_le {n : Nat} (ops : Fin n → Rq) : ∀ k, k ≤ n → k ≤ partsTo ops k
  | 0, _ => Nat.zero_le _
  | k + 1, h => by
    have := partsTo_le ops k (by omega)
    have h1 := parts_pos (ops ⟨k, by omega⟩)
    rw [partsTo_next ops k (by omega)]
    omega
theorem partsTo_mono {n : Nat} (ops : Fin n → Rq) (k m : Nat) (h : k ≤ m) (hm : m ≤ n) : partsTo ops k ≤ partsTo ops m := by
  induction m with
  | zero => cases k with
    | zero => exact Nat.le_refl _
    | succ k => omega
  | succ m ih =>
    by_cases e : k = m + 1
    · subst e; exact Nat.le_refl _
    · have := ih (by omega) (by omega)
      rw [partsTo_next ops m (by omega)]
      omega
theorem part_le {n : Nat} (ops : Fin n → Rq) (i : Fin n) : (ops i).parts ≤ partsTo ops n := by
  have h1 := partsTo_next ops i.1 i.2
  have h2 := partsTo_mono ops (i.1 + 1) n (by omega) (Nat.le_refl _)
  have e : ops ⟨i.1, i.2⟩ = ops i := rfl
  rw [e] at h1
  omega

/-- What numbers and texts can be. -/
structure RqF.good (f : RqF) : Prop where
  k0 : -128 ≤ f.kind
  k1 : f.kind ≤ 127
  v0 : -2147483648 ≤ f.ver
  v1 : f.ver ≤ 2147483647
  s0 : -9223372036854775808 ≤ f.ses
  s1 : f.ses ≤ 9223372036854775807
  t0 : -2147483648 ≤ f.tmo
  t1 : f.tmo ≤ 2147483647
  byts : Byts f.data
  pl : f.path.size ≤ 140737488355328
  dl : f.data.length ≤ 140737488355328
  al : f.acl.length ≤ 140737488355328
  wl : f.who.length ≤ 140737488355328
  ae : ∀ x ∈ f.acl, -128 ≤ x.perms ∧ x.perms ≤ 127 ∧ x.id.scheme.size ≤ 140737488355328 ∧ x.id.name.size ≤ 140737488355328
  we : ∀ x ∈ f.who, x.scheme.size ≤ 140737488355328 ∧ x.name.size ≤ 140737488355328

def Rq.good : Rq → Prop
  | .mk f n ops => f.good ∧ n ≤ 140737488355328 ∧ ∀ i : Fin n, (ops i).good

/-- The slice value v leads to elements of z cells each: the cells of each. -/
def SeesR (w : World) (v : Value) (z : Nat) (cs : List (List Value)) : Prop :=
  ∃ (ao : Option Addr) (cap : Nat), v = .slice ao cs.length cap ∧ cs.length ≤ cap ∧ cap ≤ maxLen ∧ (ao = none → cap = 0) ∧
    (cs = [] ∨ ∃ b off, ao = some ⟨b, off, none⟩ ∧ ∀ i (hi : i < cs.length) j, j < z → w.cell? ⟨b, off + i * z + j, none⟩ = some (cs[i].getD j (.bool false)))

theorem SeesR.nil (w : World) (z : Nat) : SeesR w (.slice none 0 0) z [] := ⟨none, 0, rfl, Nat.le_refl _, by unfold maxLen; omega, fun _ => rfl, .inl rfl⟩

theorem SeesR.below {B : Nat} {w w' : World} {v : Value} {z : Nat} {cs : List (List Value)} (h : SeesR w v z cs) (hb : Below B w w') (hB : w.heap.size ≤ B) : SeesR w' v z cs := by
  obtain ⟨ao, cap, rfl, h1, h2, h0, h3⟩ := h
  refine ⟨ao, cap, rfl, h1, h2, h0, ?_⟩
  rcases h3 with h3 | ⟨b, off, rfl, h3⟩
  · exact .inl h3
  · exact .inr ⟨b, off, rfl, fun i hi j hj => cell_later (h3 i hi j hj) hb hB⟩

/-- A request's cells. -/
def rqCells (f : RqF) (dv av wv ov : Value) : List Value :=
  [.int .i8 f.kind, .string f.path, dv, av, .int .i32 f.ver, .bool f.eph, .bool f.seq, .int .i64 f.ses, .int .i32 f.tmo, wv, ov]

/-- The cells cs are those of the request r. -/
inductive SeesRq (w : World) : List Value → Rq → Prop where
  | mk (f : RqF) (n : Nat) (ops : Fin n → Rq) (dv av wv ov : Value) (oc : Fin n → List Value)
      (hd : Sees w dv f.data) (ha : SeesR w av 3 (f.acl.map EnD.cells)) (hw : SeesR w wv 2 (f.who.map IdD.cells)) (ho : SeesR w ov 11 (List.ofFn oc))
      (hs : ∀ i : Fin n, SeesRq w (oc i) (ops i)) : SeesRq w (rqCells f dv av wv ov) (.mk f n ops)

theorem SeesRq.len {w : World} {cs : List Value} {r : Rq} (h : SeesRq w cs r) : cs.length = 11 := by
  cases h; rfl

theorem SeesRq.later {B : Nat} {w w' : World} (hb : Below B w w') (hB : w.heap.size ≤ B) {cs : List Value} {r : Rq} (h : SeesRq w cs r) : SeesRq w' cs r := by
  induction h with
  | mk f n ops dv av wv ov oc hd ha hw ho _ ih => exact .mk f n ops dv av wv ov oc (hd.below hb hB) (ha.below hb hB) (hw.below hb hB) (ho.below hb hB) ih

/-- A transaction. -/
structure TxD where
  ep : Int
  n : Int
  srv : Int
  boot : Int
  num : Int
  rq : Rq

structure TxD.good (t : TxD) : Prop where
  e0 : 0 ≤ t.ep
  e1 : t.ep ≤ 4294967295
  n0 : 0 ≤ t.n
  n1 : t.n ≤ 4294967295
  s0 : -128 ≤ t.srv
  s1 : t.srv ≤ 127
  b0 : 0 ≤ t.boot
  b1 : t.boot ≤ 4294967295
  m0 : -9223372036854775808 ≤ t.num
  m1 : t.num ≤ 9223372036854775807
  rq : t.rq.good

def txHead (t : TxD) : List Value := [.int .u32 t.ep, .int .u32 t.n, .int .i8 t.srv, .int .u32 t.boot, .int .i64 t.num]

/-- The cells cs are those of the transaction t. -/
def SeesTx (w : World) (cs : List Value) (t : TxD) : Prop := ∃ rc, cs = txHead t ++ rc ∧ SeesRq w rc t.rq

theorem SeesTx.len {w : World} {cs : List Value} {t : TxD} (h : SeesTx w cs t) : cs.length = 16 := by
  obtain ⟨rc, rfl, h⟩ := h
  have := h.len
  simp [txHead, this]

theorem SeesTx.below {B : Nat} {w w' : World} (hb : Below B w w') (hB : w.heap.size ≤ B) {cs : List Value} {t : TxD} (h : SeesTx w cs t) : SeesTx w' cs t := by
  obtain ⟨rc, rfl, h⟩ := h
  exact ⟨rc, rfl, h.later hb hB⟩

/-- The slice value v leads to the transactions l. -/
def SeesTxs (w : World) (v : Value) (l : List TxD) : Prop :=
  ∃ cs : List (List Value), SeesR w v 16 cs ∧ cs.length = l.length ∧ ∀ i (h : i < cs.length) (k : i < l.length), SeesTx w cs[i] l[i]

theorem SeesTxs.below {B : Nat} {w w' : World} (hb : Below B w w') (hB : w.heap.size ≤ B) {v : Value} {l : List TxD} (h : SeesTxs w v l) : SeesTxs w' v l := by
  obtain ⟨cs, h1, h2, h3⟩ := h
  exact ⟨cs, h1.below hb hB, h2, fun i h k => (h3 i h k).below hb hB⟩

end Go.Proofs.YtochbjafdcbckaaGreatDoor

/- What the small parts of txn.Check answer: isZxid, isOrigin, the layouts, names, bit, filled, needed. -/
namespace Go.Proofs.YtochbjafdcbckaaGreatDoor
open Go.RowKit
set_option maxRecDepth 8000

def zxOk (e n : Int) : Bool := decide ((e = 0 ∧ n = 0) ∨ (1 ≤ e ∧ e ≤ 2147483647 ∧ 1 ≤ n))

set_option maxHeartbeats 400000 in
theorem isZxid_any (e n : Int) (w : World) (h0 : 0 ≤ e) (h2 : 0 ≤ n) :
    Calls Tryz.prog 123 #[zx e n] w fun r w' => r = .returned (.bool (zxOk e n)) ∧ Below w.heap.size w w' := by
  have hg : Tryz.prog.eqGuardType Tryz.prog.depth 27 = false := by kernel_rfl
  have hB := one_alloc w
  have hq := eqZx e n 0 0
  by_cases hz : e = 0 ∧ n = 0
  · rw [decide_eq_true hz] at hq
    have hr : zxOk e n = true := by unfold zxOk; simp [hz]
    obtain ⟨rfl, rfl⟩ := hz
    rw [hr]
    clear h0 h2 hr
    go_enter Tryz.func123, Tryz.ntmps123
    go_wp2
    go_ret
    exact ⟨rfl, hB _⟩
  · rw [decide_eq_false hz] at hq
    have hr : zxOk e n = decide (1 ≤ e ∧ e ≤ 2147483647 ∧ 1 ≤ n) := by
      unfold zxOk; congr 1; simp; exact fun h1 h2 => absurd ⟨h1, h2⟩ hz
    rw [hr]
    have HZ : Hid (¬ (e = 0 ∧ n = 0)) := hz
    clear hz hr
    go_enter Tryz.func123, Tryz.ntmps123
    go_wp2_with fail
    refine (isEpoch_any e _ h0).mono ?_
    rintro r w1 ⟨rfl, rfl⟩
    by_cases he : 1 ≤ e ∧ e ≤ 2147483647
    · rw [decide_eq_true he]
      go_wp2
      go_ret
      refine ⟨?_, hB _⟩
      simp [he]
    · rw [decide_eq_false he]
      go_wp2
      go_ret
      refine ⟨?_, hB _⟩
      have hf : decide (1 ≤ e ∧ e ≤ 2147483647 ∧ 1 ≤ n) = false := by simp; omega
      rw [hf]
      rfl

abbrev orig (s b m : Int) : Value := .agg #[.int .i8 s, .int .u32 b, .int .i64 m]
def origOk (s m : Int) : Bool := decide (0 ≤ s ∧ s < 7 ∧ 0 ≤ m)

set_option maxHeartbeats 400000 in
theorem isOrigin_any (s b m : Int) (w : World) :
    Calls Tryz.prog 124 #[orig s b m] w fun r w' => r = .returned (.bool (origOk s m)) ∧ Below w.heap.size w w' := by
  have hB := one_alloc w
  go_enter Tryz.func124, Tryz.ntmps124
  go_wp2
  all_goals (go_ret; refine ⟨?_, hB _⟩; unfold origOk; simp [*]; try omega)

abbrev lay (last wo : Int) : Value := .agg #[.int .i8 last, .int .u16 wo]

theorem proposed_any (w : World) : Calls Tryz.prog 125 #[] w fun r w' => r = .returned (lay 8 0) ∧ Below w.heap.size w w' := by
  have hB := one_alloc w
  go_enter Tryz.func125, Tryz.ntmps125
  go_wp2
  exact bodyPost_ret (v := lay 8 0) (by simp [results, Tryz.results125, go_sem]) rfl ⟨rfl, hB _⟩

theorem within_any (w : World) : Calls Tryz.prog 141 #[] w fun r w' => r = .returned (lay 5 320) ∧ Below w.heap.size w w' := by
  have hB := one_alloc w
  go_enter Tryz.func141, Tryz.ntmps141
  go_wp2
  exact bodyPost_ret (v := lay 5 320) (by simp [results, Tryz.results141, go_sem]) rfl ⟨rfl, hB _⟩

/-- A field's bit, where it is on. -/
def bz (n : Int) (b : Bool) : Int := if b then n else 0

theorem bit_any (n : Int) (b : Bool) (w : World) :
    Calls Tryz.prog 151 #[.int .u16 n, .bool b] w fun r w' => r = .returned (.int .u16 (bz n b)) ∧ w' = w := by
  go_enter Tryz.func151, Tryz.ntmps151
  cases b <;> go_wp2 <;> (go_ret; exact ⟨rfl, rfl⟩)

def need (k : Int) : Int := if k = 6 then 512 else if k = 7 then 128 else if k = 8 then 64 else 0

theorem needed_any (k : Int) (w : World) :
    Calls Tryz.prog 133 #[.int .i8 k] w fun r w' => r = .returned (.int .u16 (need k)) ∧ w' = w := by
  go_enter Tryz.func133, Tryz.ntmps133
  go_wp2
  all_goals (go_ret; refine ⟨?_, rfl⟩; unfold need; simp at *; simp [*])

/-- The table of what each kind names stands. -/
def Nam (w : World) : Prop := Lib.TabIs Tryz.prog w "lagoon/txn.named" .u16 [0, 375, 329, 331, 333, 329, 832, 128, 64, 321, 321, 321, 321]
theorem nam_global : Tryz.prog.globalNamed "lagoon/txn.named" = some 1 := by kernel_rfl
theorem Nam.below {B : Nat} {w w' : World} (h : Nam w) (hb : Below B w w') (hB : 1 < B) : Nam w' := var?_below hb nam_global hB h
theorem Nam.lt {w : World} (h : Nam w) : 1 < w.heap.size := by
  have := World.block_lt_of_cell? w _ (Lib.TabIs.cell h nam_global 0 (by decide)); simpa using this

def tabN (k : Int) : Int := ([0, 375, 329, 331, 333, 329, 832, 128, 64, 321, 321, 321, 321] : List Int).getD k.toNat 0

/-- What a kind names there. -/
def nms (last wo k : Int) : Int := if k < 1 ∨ last < k then 0 else bits .andNot .u16 (tabN k) wo

set_option maxHeartbeats 400000 in
theorem names_any (last wo k : Int) (w : World) (hn : Nam w) (hl : last ≤ 12) :
    Calls Tryz.prog 131 #[lay last wo, .int .i8 k] w fun r w' => r = .returned (.int .u16 (nms last wo k)) ∧ Below w.heap.size w w' := by
  have hB := one_alloc w
  by_cases hk : k < 1 ∨ last < k
  · have hr : nms last wo k = 0 := by unfold nms; rw [if_pos hk]
    rw [hr]
    clear hr hn
    go_enter Tryz.func131, Tryz.ntmps131
    go_wp2
    all_goals first | (go_ret; exact ⟨rfl, hB _⟩) | (exfalso; omega)
  · have hr : nms last wo k = bits .andNot .u16 (tabN k) wo := by unfold nms; rw [if_neg hk]
    rw [hr]
    have hc : w.cell? ⟨1, k.toNat, none⟩ = some (.int .u16 (tabN k)) := by
      have := Lib.TabIs.cell hn nam_global k.toNat (by simp; omega)
      rw [this]
      unfold tabN
      rfl
    have hlt := hn.lt
    have h1 : 1 ≤ k := by omega
    have h2 : k ≤ last := by omega
    clear hr hk hn
    generalize tabN k = t at *
    have hc1 : (w.alloc (.cells #[.int .i8 last, .int .u16 wo] 133)).cell? ⟨1, k.toNat, none⟩ = some (.int .u16 t) := by
      rw [World.cell?_alloc_lt _ _ _ hlt]; exact hc
    have hk0 : 0 ≤ k := by omega
    have hk13 : k < 13 := by omega
    clear hc
    go_enter Tryz.func131, Tryz.ntmps131
    go_wp2
    go_quiet (fail)
    go_wp2
    go_ret
    exact ⟨rfl, below_drewN (hB _) _⟩

/-- What of a request is not zero, as bits. -/
def fillz (p d a v e s z t o q : Bool) : Int :=
  bits .or .u16 (bits .or .u16 (bits .or .u16 (bits .or .u16 (bits .or .u16 (bits .or .u16 (bits .or .u16 (bits .or .u16 (bits .or .u16 (bz 1 p) (bz 2 d)) (bz 4 a)) (bz 8 v)) (bz 16 e)) (bz 32 s)) (bz 64 z)) (bz 128 t)) (bz 256 o)) (bz 512 q)

set_option maxHeartbeats 1000000 in
theorem filled_any (k : Int) (s : ByteArray) (da aa wa oa : Option Addr) (dl dc al ac wl wc ol oc : Nat) (ver : Int) (eph seq : Bool) (ses tmo : Int) (w : World) :
    Calls Tryz.prog 132 #[.agg #[.int .i8 k, .string s, .slice da dl dc, .slice aa al ac, .int .i32 ver, .bool eph, .bool seq, .int .i64 ses, .int .i32 tmo, .slice wa wl wc, .slice oa ol oc]] w
      fun r w' => r = .returned (.int .u16 (fillz (!s.toList.isEmpty) (decide (0 < dl)) (decide (0 < al)) (ver != 0) eph seq (ses != 0) (tmo != 0) (decide (0 < wl)) (decide (0 < ol)))) ∧ Below w.heap.size w w' := by
  have hB := one_alloc w
  go_enter Tryz.func132, Tryz.ntmps132
  go_wp2
  go_quiet ((go_at_call 151; exact Calls.quiet_of_same (bit_any _ _ _)))
  go_wp2
  go_ret
  refine ⟨?_, below_drewN (hB _) _⟩
  rfl

/-- An id that may be. -/
def idOk (x : IdD) : Bool := decide (x.scheme.size ≤ 24 ∧ x.name.size ≤ 24)

set_option maxHeartbeats 400000 in
theorem isId_any (x : IdD) (w : World) :
    Calls Tryz.prog 155 #[.agg #[.string x.scheme, .string x.name]] w fun r w' => r = .returned (.bool (idOk x)) ∧ Below w.heap.size w w' := by
  have hB := one_alloc w
  go_enter Tryz.func155, Tryz.ntmps155
  go_wp2
  all_goals (go_ret; refine ⟨?_, hB _⟩; unfold idOk; simp; first | omega | (rw [decide_eq_true (show x.scheme.size ≤ 24 by omega)]; simp; omega))

set_option maxHeartbeats 400000 in
theorem isEntry_any (x : EnD) (w : World) :
    Calls Tryz.prog 153 #[.agg #[.int .i8 x.perms, .string x.id.scheme, .string x.id.name]] w fun r w' => r = .returned (.bool (idOk x.id)) ∧ Below w.heap.size w w' := by
  have hB := one_alloc w
  go_enter Tryz.func153, Tryz.ntmps153
  go_wp2_with fail
  refine (isId_any x.id _).mono ?_
  rintro r w1 ⟨rfl, b1⟩
  have HB : Hid (Below w.heap.size w w1) := (hB _).trans (b1.mono (by simp))
  clear b1
  go_wp2
  go_ret
  exact ⟨rfl, HB.out⟩
end Go.Proofs.YtochbjafdcbckaaGreatDoor
