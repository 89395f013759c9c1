import Derived.Test.YtgeoocchdpehdaaGreatDoorProg
import Derived.Test.YtgeoocchdpehdaaGreatDoorMemJ
import Derived.Laws.StructEq
import Derived.Lib.LaidTab
import Derived.Deep.RegionHeld
import Derived.BigQuiet
namespace Go.Proofs.YtgeoocchdpehdaaGreatDoor
open Go.RowKit
set_option maxRecDepth 8000

def zcmp (e n f m : Int) : Int := if e < f ∨ (e = f ∧ n < m) then -1 else if e = f ∧ n = m then 0 else 1

abbrev zx (e n : Int) : Value := .agg #[.int .u32 e, .int .u32 n]

theorem eqZx (e n f m : Int) (w : World) : (binOp .eql 27 (.agg #[.int .u32 e, .int .u32 n]) (.agg #[.int .u32 f, .int .u32 m])).run Tryz.prog w = .ok (.bool (decide (e = f ∧ n = m))) w := by
  have hu : Tryz.prog.underlying 27 = some (.struct (Tryz.prog.fieldsOf 27)) := by kernel_rfl
  have hp : Tryz.prog.stoodInHeld 27 = false := by kernel_rfl
  have u3 := Tryz.underlying23
  have a3 := Tryz.isAgg23
  have z3 := Tryz.sizeOf23
  rw [run_eql_struct, show (10000 : Nat) = 9999 + 1 from rfl, run_equalIn_agg w 9999 _ _ _ hu hp]
  simp only [Program.fieldsOf, Tryz.underlying27]
  go_simp
  by_cases h1 : e = f <;> by_cases h2 : n = m <;> simp [h1, h2]

theorem two_alloc (w : World) (o o' : Obj) : Below w.heap.size w ((w.alloc o).alloc o') := ((Below.refl _ _).alloc (Nat.le_refl _) _).alloc (by simp) _
theorem one_alloc (w : World) (o : Obj) : Below w.heap.size w (w.alloc o) := (Below.refl _ _).alloc (Nat.le_refl _) _

set_option maxHeartbeats 400000 in
theorem compare_any (e n f m : Int) (w : World) :
    Calls Tryz.prog 116 #[zx e n, zx f m] w fun r w' => r = .returned (.int .i64 (zcmp e n f m)) ∧ Below w.heap.size w w' := by
  have hg : Tryz.prog.eqGuardType Tryz.prog.depth 27 = false := by kernel_rfl
  have hB := two_alloc w
  have hq := eqZx e n f m
  go_enter Tryz.func116, Tryz.ntmps116
  go_wp2
  all_goals (go_ret; refine ⟨?_, hB _ _⟩; unfold zcmp; split <;> (try split) <;> first | rfl | omega)

set_option maxHeartbeats 400000 in
theorem refCompare_any (e n f m : Int) (w : World) :
    Calls Tryz.prog 25 #[zx e n, zx f m] w fun r w' => r = .returned (.int .i64 (zcmp e n f m)) ∧ Below w.heap.size w w' := by
  have hg : Tryz.prog.eqGuardType Tryz.prog.depth 27 = false := by kernel_rfl
  have hB := two_alloc w
  have hq := eqZx e n f m
  go_enter Tryz.func25, Tryz.ntmps25
  go_wp2
  all_goals (go_ret; refine ⟨?_, hB _ _⟩; unfold zcmp; split <;> (try split) <;> first | rfl | omega)

theorem isEpoch_any (n : Int) (w : World) (h0 : 0 ≤ n) :
    Calls Tryz.prog 129 #[.int .u32 n] w fun r w' => r = .returned (.bool (decide (1 ≤ n ∧ n ≤ 2147483647))) ∧ w' = w := by
  go_enter Tryz.func129, Tryz.ntmps129
  go_wp2
  all_goals (go_ret; refine ⟨?_, rfl⟩; first | rfl | (congr 2; simp; omega))

end Go.Proofs.YtgeoocchdpehdaaGreatDoor

namespace Go.Proofs.YtgeoocchdpehdaaGreatDoor
open Go.RowKit
set_option maxRecDepth 8000

structure IdD where
  scheme : ByteArray
  name : ByteArray

structure EnD where
  perms : Int
  id : IdD

def IdD.cells (x : IdD) : List Value := [.string x.scheme, .string x.name]
def EnD.cells (x : EnD) : List Value := [.int .i8 x.perms, .string x.id.scheme, .string x.id.name]

structure RqF where
  kind : Int
  path : ByteArray
  data : List Int
  acl : List EnD
  ver : Int
  eph : Bool
  seq : Bool
  ses : Int
  tmo : Int
  who : List IdD

inductive Rq where
  | mk (f : RqF) (n : Nat) (ops : Fin n → Rq) : Rq

def Rq.f : Rq → RqF
  | .mk f _ _ => f

def RqF.parts (f : RqF) : Nat := 1 + f.data.length + f.acl.length + f.who.length

def Rq.parts : Rq → Nat
  | .mk f n ops => f.parts + (List.ofFn fun i : Fin n => (ops i).parts).sum

def partsTo {n : Nat} (ops : Fin n → Rq) (k : Nat) : Nat := ((List.ofFn fun i : Fin n => (ops i).parts).take k).sum

theorem partsTo_zero {n : Nat} (ops : Fin n → Rq) : partsTo ops 0 = 0 := by simp [partsTo]
theorem partsTo_next {n : Nat} (ops : Fin n → Rq) (k : Nat) (h : k < n) : partsTo ops (k + 1) = partsTo ops k + (ops ⟨k, h⟩).parts := by
  unfold partsTo
  rw [List.take_succ_eq_append_getElem (by simpa using h)]
  simp
theorem partsTo_all {n : Nat} (ops : Fin n → Rq) : partsTo ops n = (List.ofFn fun i : Fin n => (ops i).parts).sum := by
  unfold partsTo
  rw [List.take_of_length_le (by simp)]
theorem Rq.parts_eq (f : RqF) (n : Nat) (ops : Fin n → Rq) : (Rq.mk f n ops).parts = f.parts + partsTo ops n := by
  rw [partsTo_all]; rfl
structure RqF.good (f : RqF) : Prop where
  k0 : -128 ≤ f.kind
  k1 : f.kind ≤ 127
  v0 : -2147483648 ≤ f.ver
  v1 : f.ver ≤ 2147483647
  s0 : -9223372036854775808 ≤ f.ses
  s1 : f.ses ≤ 9223372036854775807
  t0 : -2147483648 ≤ f.tmo
  t1 : f.tmo ≤ 2147483647
  byts : Byts f.data
  pl : f.path.size ≤ 140737488355328
  dl : f.data.length ≤ 140737488355328
  al : f.acl.length ≤ 140737488355328
  wl : f.who.length ≤ 140737488355328
  ae : ∀ x ∈ f.acl, -128 ≤ x.perms ∧ x.perms ≤ 127 ∧ x.id.scheme.size ≤ 140737488355328 ∧ x.id.name.size ≤ 140737488355328
  we : ∀ x ∈ f.who, x.scheme.size ≤ 140737488355328 ∧ x.name.size ≤ 140737488355328

def Rq.good : Rq → Prop
  | .mk f n ops => f.good ∧ n ≤ 140737488355328 ∧ ∀ i : Fin n, (ops i).good

def SeesR (w : World) (v : Value) (z : Nat) (cs : List (List Value)) : Prop :=
  ∃ (ao : Option Addr) (cap : Nat), v = .slice ao cs.length cap ∧ cs.length ≤ cap ∧ cap ≤ maxLen ∧ (ao = none → cap = 0) ∧
    (cs = [] ∨ ∃ b off, ao = some ⟨b, off, none⟩ ∧ ∀ i (hi : i < cs.length) j, j < z → w.cell? ⟨b, off + i * z + j, none⟩ = some (cs[i].getD j (.bool false)))

theorem SeesR.nil (w : World) (z : Nat) : SeesR w (.slice none 0 0) z [] := ⟨none, 0, rfl, Nat.le_refl _, by unfold maxLen; omega, fun _ => rfl, .inl rfl⟩

theorem SeesR.below {B : Nat} {w w' : World} {v : Value} {z : Nat} {cs : List (List Value)} (h : SeesR w v z cs) (hb : Below B w w') (hB : w.heap.size ≤ B) : SeesR w' v z cs := by
  obtain ⟨ao, cap, rfl, h1, h2, h0, h3⟩ := h
  refine ⟨ao, cap, rfl, h1, h2, h0, ?_⟩
  rcases h3 with h3 | ⟨b, off, rfl, h3⟩
  · exact .inl h3
  · exact .inr ⟨b, off, rfl, fun i hi j hj => cell_later (h3 i hi j hj) hb hB⟩

def rqCells (f : RqF) (dv av wv ov : Value) : List Value :=
  [.int .i8 f.kind, .string f.path, dv, av, .int .i32 f.ver, .bool f.eph, .bool f.seq, .int .i64 f.ses, .int .i32 f.tmo, wv, ov]

inductive SeesRq (w : World) : List Value → Rq → Prop where
  | mk (f : RqF) (n : Nat) (ops : Fin n → Rq) (dv av wv ov : Value) (oc : Fin n → List Value)
      (hd : Sees w dv f.data) (ha : SeesR w av 3 (f.acl.map EnD.cells)) (hw : SeesR w wv 2 (f.who.map IdD.cells)) (ho : SeesR w ov 11 (List.ofFn oc))
      (hs : ∀ i : Fin n, SeesRq w (oc i) (ops i)) : SeesRq w (rqCells f dv av wv ov) (.mk f n ops)

theorem SeesRq.len {w : World} {cs : List Value} {r : Rq} (h : SeesRq w cs r) : cs.length = 11 := by
  cases h; rfl

theorem SeesRq.later {B : Nat} {w w' : World} (hb : Below B w w') (hB : w.heap.size ≤ B) {cs : List Value} {r : Rq} (h : SeesRq w cs r) : SeesRq w' cs r := by
  induction h with
  | mk f n ops dv av wv ov oc hd ha hw ho _ ih => exact .mk f n ops dv av wv ov oc (hd.below hb hB) (ha.below hb hB) (hw.below hb hB) (ho.below hb hB) ih

structure TxD where
  ep : Int
  n : Int
  srv : Int
  boot : Int
  num : Int
  rq : Rq

structure TxD.good (t : TxD) : Prop where
  e0 : 0 ≤ t.ep
  e1 : t.ep ≤ 4294967295
  n0 : 0 ≤ t.n
  n1 : t.n ≤ 4294967295
  s0 : -128 ≤ t.srv
  s1 : t.srv ≤ 127
  b0 : 0 ≤ t.boot
  b1 : t.boot ≤ 4294967295
  m0 : -9223372036854775808 ≤ t.num
  m1 : t.num ≤ 9223372036854775807
  rq : t.rq.good

def txHead (t : TxD) : List Value := [.int .u32 t.ep, .int .u32 t.n, .int .i8 t.srv, .int .u32 t.boot, .int .i64 t.num]

def SeesTx (w : World) (cs : List Value) (t : TxD) : Prop := ∃ rc, cs = txHead t ++ rc ∧ SeesRq w rc t.rq

theorem SeesTx.len {w : World} {cs : List Value} {t : TxD} (h : SeesTx w cs t) : cs.length = 16 := by
  obtain ⟨rc, rfl, h⟩ := h
  have := h.len
  simp [txHead, this]

theorem SeesTx.below {B : Nat} {w w' : World} (hb : Below B w w') (hB : w.heap.size ≤ B) {cs : List Value} {t : TxD} (h : SeesTx w cs t) : SeesTx w' cs t := by
  obtain ⟨rc, rfl, h⟩ := h
  exact ⟨rc, rfl, h.later hb hB⟩

end Go.Proofs.YtgeoocchdpehdaaGreatDoor

namespace Go.Proofs.YtgeoocchdpehdaaGreatDoor
open Go.RowKit
set_option maxRecDepth 8000

def zxOk (e n : Int) : Bool := decide ((e = 0 ∧ n = 0) ∨ (1 ≤ e ∧ e ≤ 2147483647 ∧ 1 ≤ n))

set_option maxHeartbeats 400000 in
theorem isZxid_any (e n : Int) (w : World) (h0 : 0 ≤ e) (h2 : 0 ≤ n) :
    Calls Tryz.prog 122 #[zx e n] w fun r w' => r = .returned (.bool (zxOk e n)) ∧ Below w.heap.size w w' := by
  have hg : Tryz.prog.eqGuardType Tryz.prog.depth 27 = false := by kernel_rfl
  have hB := one_alloc w
  have hq := eqZx e n 0 0
  by_cases hz : e = 0 ∧ n = 0
  · rw [decide_eq_true hz] at hq
    have hr : zxOk e n = true := by unfold zxOk; simp [hz]
    obtain ⟨rfl, rfl⟩ := hz
    rw [hr]
    clear h0 h2 hr
    go_enter Tryz.func122, Tryz.ntmps122
    go_wp2
    go_ret
    exact ⟨rfl, hB _⟩
  · rw [decide_eq_false hz] at hq
    have hr : zxOk e n = decide (1 ≤ e ∧ e ≤ 2147483647 ∧ 1 ≤ n) := by
      unfold zxOk; congr 1; simp; exact fun h1 h2 => absurd ⟨h1, h2⟩ hz
    rw [hr]
    have HZ : Hid (¬ (e = 0 ∧ n = 0)) := hz
    clear hz hr
    go_enter Tryz.func122, Tryz.ntmps122
    go_wp2_with fail
    refine (isEpoch_any e _ h0).mono ?_
    rintro r w1 ⟨rfl, rfl⟩
    by_cases he : 1 ≤ e ∧ e ≤ 2147483647
    · rw [decide_eq_true he]
      go_wp2
      go_ret
      refine ⟨?_, hB _⟩
      simp [he]
    · rw [decide_eq_false he]
      go_wp2
      go_ret
      refine ⟨?_, hB _⟩
      have hf : decide (1 ≤ e ∧ e ≤ 2147483647 ∧ 1 ≤ n) = false := by simp; omega
      rw [hf]
      rfl

abbrev orig (s b m : Int) : Value := .agg #[.int .i8 s, .int .u32 b, .int .i64 m]
def origOk (s m : Int) : Bool := decide (0 ≤ s ∧ s < 7 ∧ 0 ≤ m)

set_option maxHeartbeats 400000 in
theorem isOrigin_any (s b m : Int) (w : World) :
    Calls Tryz.prog 123 #[orig s b m] w fun r w' => r = .returned (.bool (origOk s m)) ∧ Below w.heap.size w w' := by
  have hB := one_alloc w
  go_enter Tryz.func123, Tryz.ntmps123
  go_wp2
  all_goals (go_ret; refine ⟨?_, hB _⟩; unfold origOk; simp [*]; try omega)

abbrev lay (last wo : Int) : Value := .agg #[.int .i8 last, .int .u16 wo]

theorem proposed_any (w : World) : Calls Tryz.prog 124 #[] w fun r w' => r = .returned (lay 8 0) ∧ Below w.heap.size w w' := by
  have hB := one_alloc w
  go_enter Tryz.func124, Tryz.ntmps124
  go_wp2
  exact bodyPost_ret (v := lay 8 0) (by simp [results, Tryz.results124, go_sem]) rfl ⟨rfl, hB _⟩

theorem within_any (w : World) : Calls Tryz.prog 140 #[] w fun r w' => r = .returned (lay 5 320) ∧ Below w.heap.size w w' := by
  have hB := one_alloc w
  go_enter Tryz.func140, Tryz.ntmps140
  go_wp2
  exact bodyPost_ret (v := lay 5 320) (by simp [results, Tryz.results140, go_sem]) rfl ⟨rfl, hB _⟩

def bz (n : Int) (b : Bool) : Int := if b then n else 0

theorem bit_any (n : Int) (b : Bool) (w : World) :
    Calls Tryz.prog 150 #[.int .u16 n, .bool b] w fun r w' => r = .returned (.int .u16 (bz n b)) ∧ w' = w := by
  go_enter Tryz.func150, Tryz.ntmps150
  cases b <;> go_wp2 <;> (go_ret; exact ⟨rfl, rfl⟩)

def need (k : Int) : Int := if k = 6 then 512 else if k = 7 then 128 else if k = 8 then 64 else 0

theorem needed_any (k : Int) (w : World) :
    Calls Tryz.prog 132 #[.int .i8 k] w fun r w' => r = .returned (.int .u16 (need k)) ∧ w' = w := by
  go_enter Tryz.func132, Tryz.ntmps132
  go_wp2
  all_goals (go_ret; refine ⟨?_, rfl⟩; unfold need; simp at *; simp [*])

def Nam (w : World) : Prop := Lib.TabIs Tryz.prog w "lagoon/txn.named" .u16 [0, 375, 329, 331, 333, 329, 832, 128, 64, 321, 321, 321, 321]
theorem nam_global : Tryz.prog.globalNamed "lagoon/txn.named" = some 1 := by kernel_rfl
theorem Nam.below {B : Nat} {w w' : World} (h : Nam w) (hb : Below B w w') (hB : 1 < B) : Nam w' := var?_below hb nam_global hB h
theorem Nam.lt {w : World} (h : Nam w) : 1 < w.heap.size := by
  have := World.block_lt_of_cell? w _ (Lib.TabIs.cell h nam_global 0 (by decide)); simpa using this

def tabN (k : Int) : Int := ([0, 375, 329, 331, 333, 329, 832, 128, 64, 321, 321, 321, 321] : List Int).getD k.toNat 0

def nms (last wo k : Int) : Int := if k < 1 ∨ last < k then 0 else bits .andNot .u16 (tabN k) wo

set_option maxHeartbeats 400000 in
theorem names_any (last wo k : Int) (w : World) (hn : Nam w) (hl : last ≤ 12) :
    Calls Tryz.prog 130 #[lay last wo, .int .i8 k] w fun r w' => r = .returned (.int .u16 (nms last wo k)) ∧ Below w.heap.size w w' := by
  have hB := one_alloc w
  by_cases hk : k < 1 ∨ last < k
  · have hr : nms last wo k = 0 := by unfold nms; rw [if_pos hk]
    rw [hr]
    clear hr hn
    go_enter Tryz.func130, Tryz.ntmps130
    go_wp2
    all_goals first | (go_ret; exact ⟨rfl, hB _⟩) | (exfalso; omega)
  · have hr : nms last wo k = bits .andNot .u16 (tabN k) wo := by unfold nms; rw [if_neg hk]
    rw [hr]
    have hc : w.cell? ⟨1, k.toNat, none⟩ = some (.int .u16 (tabN k)) := by
      have := Lib.TabIs.cell hn nam_global k.toNat (by simp; omega)
      rw [this]
      unfold tabN
      rfl
    have hlt := hn.lt
    have h1 : 1 ≤ k := by omega
    have h2 : k ≤ last := by omega
    clear hr hk hn
    generalize tabN k = t at *
    have hc1 : (w.alloc (.cells #[.int .i8 last, .int .u16 wo] 132)).cell? ⟨1, k.toNat, none⟩ = some (.int .u16 t) := by
      rw [World.cell?_alloc_lt _ _ _ hlt]; exact hc
    have hk0 : 0 ≤ k := by omega
    have hk13 : k < 13 := by omega
    clear hc
    go_enter Tryz.func130, Tryz.ntmps130
    go_wp2
    go_quiet (fail)
    go_wp2
    go_ret
    exact ⟨rfl, below_drewN (hB _) _⟩

def fillz (p d a v e s z t o q : Bool) : Int :=
  bits .or .u16 (bits .or .u16 (bits .or .u16 (bits .or .u16 (bits .or .u16 (bits .or .u16 (bits .or .u16 (bits .or .u16 (bits .or .u16 (bz 1 p) (bz 2 d)) (bz 4 a)) (bz 8 v)) (bz 16 e)) (bz 32 s)) (bz 64 z)) (bz 128 t)) (bz 256 o)) (bz 512 q)

set_option maxHeartbeats 1000000 in
theorem filled_any (k : Int) (s : ByteArray) (da aa wa oa : Option Addr) (dl dc al ac wl wc ol oc : Nat) (ver : Int) (eph seq : Bool) (ses tmo : Int) (w : World) :
    Calls Tryz.prog 131 #[.agg #[.int .i8 k, .string s, .slice da dl dc, .slice aa al ac, .int .i32 ver, .bool eph, .bool seq, .int .i64 ses, .int .i32 tmo, .slice wa wl wc, .slice oa ol oc]] w
      fun r w' => r = .returned (.int .u16 (fillz (!s.toList.isEmpty) (decide (0 < dl)) (decide (0 < al)) (ver != 0) eph seq (ses != 0) (tmo != 0) (decide (0 < wl)) (decide (0 < ol)))) ∧ Below w.heap.size w w' := by
  have hB := one_alloc w
  go_enter Tryz.func131, Tryz.ntmps131
  go_wp2
  go_quiet ((go_at_call 150; exact Calls.quiet_of_same (bit_any _ _ _)))
  go_wp2
  go_ret
  refine ⟨?_, below_drewN (hB _) _⟩
  rfl

def idOk (x : IdD) : Bool := decide (x.scheme.size ≤ 24 ∧ x.name.size ≤ 24)

set_option maxHeartbeats 400000 in
theorem isId_any (x : IdD) (w : World) :
    Calls Tryz.prog 154 #[.agg #[.string x.scheme, .string x.name]] w fun r w' => r = .returned (.bool (idOk x)) ∧ Below w.heap.size w w' := by
  have hB := one_alloc w
  go_enter Tryz.func154, Tryz.ntmps154
  go_wp2
  all_goals (go_ret; refine ⟨?_, hB _⟩; unfold idOk; simp; first | omega | (rw [decide_eq_true (show x.scheme.size ≤ 24 by omega)]; simp; omega))

set_option maxHeartbeats 400000 in
theorem isEntry_any (x : EnD) (w : World) :
    Calls Tryz.prog 152 #[.agg #[.int .i8 x.perms, .string x.id.scheme, .string x.id.name]] w fun r w' => r = .returned (.bool (idOk x.id)) ∧ Below w.heap.size w w' := by
  have hB := one_alloc w
  go_enter Tryz.func152, Tryz.ntmps152
  go_wp2_with fail
  refine (isId_any x.id _).mono ?_
  rintro r w1 ⟨rfl, b1⟩
  have HB : Hid (Below w.heap.size w w1) := (hB _).trans (b1.mono (by simp))
  clear b1
  go_wp2
  go_ret
  exact ⟨rfl, HB.out⟩
end Go.Proofs.YtgeoocchdpehdaaGreatDoor

namespace Go.Proofs.YtgeoocchdpehdaaGreatDoor
open Go.RowKit
set_option maxRecDepth 8000

theorem all_take_next {α : Type} (p : α → Bool) (l : List α) (k : Nat) (h : k < l.length) : (l.take (k + 1)).all p = ((l.take k).all p && p l[k]) := by
  rw [List.take_succ_eq_append_getElem h, List.all_append]; simp

theorem all_bad {α : Type} (p : α → Bool) (l : List α) (k : Nat) (h : k < l.length) (hp : p l[k] = false) : l.all p = false := by
  by_cases ha : l.all p = true
  · rw [List.all_eq_true] at ha
    rw [ha _ (List.getElem_mem h)] at hp
    cases hp
  · simpa using ha

set_option maxHeartbeats 400000 in
theorem isListE_any (v : Value) (l : List EnD) (most : Int) (w : World) (h : SeesR w v 3 (l.map EnD.cells)) :
    Calls Tryz.prog 151 #[v, .int .i64 most, .func (.func 152) #[] #[]] w fun r w' => r = .returned (.bool (decide ((l.length : Int) ≤ most) && l.all (fun x => idOk x.id))) ∧ Below w.heap.size w w' := by
  obtain ⟨ao, cap, rfl, hlc, hcm, _, h3⟩ := h
  unfold maxLen at hcm
  rw [List.length_map] at hlc ⊢
  by_cases hm : (l.length : Int) ≤ most
  · rw [decide_eq_true hm]
    go_enter Tryz.func151, Tryz.ntmps151
    go_wp2
    go_loopw [15] (fun i wr => ∃ k : Nat, k ≤ l.length ∧ i = .int .i64 k ∧ (l.take k).all (fun x => idOk x.id) = true ∧ Below w.heap.size w wr) (fun i _ => l.length - (intOf i).toNat)
    case atStart => exact ⟨0, Nat.zero_le _, rfl, by simp, Below.refl _ _⟩
    case round =>
      obtain ⟨k, hk, rfl, hal, hbel⟩ := hrel
      by_cases hlt : k < l.length
      · rcases h3 with h3 | ⟨b, off, rfl, h3⟩
        · have : l.length = 0 := by simpa using congrArg List.length h3
          omega
        · have c0 := cell_later (h3 k (by simpa using hlt) 0 (by omega)) hbel (Nat.le_refl _)
          have c1 := cell_later (h3 k (by simpa using hlt) 1 (by omega)) hbel (Nat.le_refl _)
          have c2 := cell_later (h3 k (by simpa using hlt) 2 (by omega)) hbel (Nat.le_refl _)
          simp [EnD.cells] at c0 c1 c2
          have HN : Hid _ := all_take_next (fun x : EnD => idOk x.id) l k hlt
          have HA : Hid _ := hal
          have HF : Hid (idOk l[k].id = false → l.all (fun x => idOk x.id) = false) := all_bad (fun x : EnD => idOk x.id) l k hlt
          have HB : Hid (Below w.heap.size w wr) := hbel
          clear h3 hal hbel
          generalize l[k] = x at *
          go_wp2_with fail
          refine (isEntry_any x _).mono ?_
          rintro r w1 ⟨rfl, b1⟩
          have HB1 : Hid (Below w.heap.size w w1) := (HB.out.alloc HB.out.size _).trans (b1.mono (by have := HB.out.size; simp; omega))
          clear b1
          by_cases hx : idOk x.id = true
          · rw [hx]
            go_wp2
            go_roundw
            case rel => exact ⟨k + 1, by omega, by go_num, by rw [HN.out, HA.out]; simp [hx], HB1.out⟩
            case measure => simp [intOf]; omega
          · have hx' : idOk x.id = false := by simpa using hx
            rw [hx']
            go_wp2
            go_ret
            exact ⟨by rw [HF.out hx']; rfl, HB1.out⟩
      · obtain rfl : k = l.length := by omega
        rw [List.take_length] at hal
        have HB : Hid (Below w.heap.size w wr) := hbel
        have HA : Hid _ := hal
        clear hal hbel
        go_wp2
        go_ret
        exact ⟨by rw [HA.out]; rfl, HB.out⟩
  · rw [decide_eq_false hm]
    go_enter Tryz.func151, Tryz.ntmps151
    go_wp2
    go_ret
    exact ⟨rfl, Below.refl _ _⟩
set_option maxHeartbeats 400000 in
theorem isListI_any (v : Value) (l : List IdD) (most : Int) (w : World) (h : SeesR w v 2 (l.map IdD.cells)) :
    Calls Tryz.prog 153 #[v, .int .i64 most, .func (.func 154) #[] #[]] w fun r w' => r = .returned (.bool (decide ((l.length : Int) ≤ most) && l.all (fun x => idOk x))) ∧ Below w.heap.size w w' := by
  obtain ⟨ao, cap, rfl, hlc, hcm, _, h3⟩ := h
  unfold maxLen at hcm
  rw [List.length_map] at hlc ⊢
  by_cases hm : (l.length : Int) ≤ most
  · rw [decide_eq_true hm]
    go_enter Tryz.func153, Tryz.ntmps153
    go_wp2
    go_loopw [15] (fun i wr => ∃ k : Nat, k ≤ l.length ∧ i = .int .i64 k ∧ (l.take k).all (fun x => idOk x) = true ∧ Below w.heap.size w wr) (fun i _ => l.length - (intOf i).toNat)
    case atStart => exact ⟨0, Nat.zero_le _, rfl, by simp, Below.refl _ _⟩
    case round =>
      obtain ⟨k, hk, rfl, hal, hbel⟩ := hrel
      by_cases hlt : k < l.length
      · rcases h3 with h3 | ⟨b, off, rfl, h3⟩
        · have : l.length = 0 := by simpa using congrArg List.length h3
          omega
        · have c0 := cell_later (h3 k (by simpa using hlt) 0 (by omega)) hbel (Nat.le_refl _)
          have c1 := cell_later (h3 k (by simpa using hlt) 1 (by omega)) hbel (Nat.le_refl _)
          simp [IdD.cells] at c0 c1
          have HN : Hid _ := all_take_next (fun x : IdD => idOk x) l k hlt
          have HA : Hid _ := hal
          have HF : Hid (idOk l[k] = false → l.all (fun x => idOk x) = false) := all_bad (fun x : IdD => idOk x) l k hlt
          have HB : Hid (Below w.heap.size w wr) := hbel
          clear h3 hal hbel
          generalize l[k] = x at *
          go_wp2_with fail
          refine (isId_any x _).mono ?_
          rintro r w1 ⟨rfl, b1⟩
          have HB1 : Hid (Below w.heap.size w w1) := (HB.out.alloc HB.out.size _).trans (b1.mono (by have := HB.out.size; simp; omega))
          clear b1
          by_cases hx : idOk x = true
          · rw [hx]
            go_wp2
            go_roundw
            case rel => exact ⟨k + 1, by omega, by go_num, by rw [HN.out, HA.out]; simp [hx], HB1.out⟩
            case measure => simp [intOf]; omega
          · have hx' : idOk x = false := by simpa using hx
            rw [hx']
            go_wp2
            go_ret
            exact ⟨by rw [HF.out hx']; rfl, HB1.out⟩
      · obtain rfl : k = l.length := by omega
        rw [List.take_length] at hal
        have HB : Hid (Below w.heap.size w wr) := hbel
        have HA : Hid _ := hal
        clear hal hbel
        go_wp2
        go_ret
        exact ⟨by rw [HA.out]; rfl, HB.out⟩
  · rw [decide_eq_false hm]
    go_enter Tryz.func153, Tryz.ntmps153
    go_wp2
    go_ret
    exact ⟨rfl, Below.refl _ _⟩

theorem all_fn_next {n : Nat} (p : Fin n → Bool) (k : Nat) (h : k < n) : ((List.ofFn p).take (k + 1)).all id = (((List.ofFn p).take k).all id && p ⟨k, h⟩) := by
  rw [all_take_next id (List.ofFn p) k (by simpa using h)]; simp
theorem all_fn_bad {n : Nat} (p : Fin n → Bool) (k : Nat) (h : k < n) (hp : p ⟨k, h⟩ = false) : (List.ofFn p).all id = false :=
  all_bad id (List.ofFn p) k (by simpa using h) (by simpa using hp)

theorem seesR_form {w : World} {v : Value} {z : Nat} {cs : List (List Value)} (h : SeesR w v z cs) : ∃ a n c, v = .slice a n c := by
  obtain ⟨ao, cap, rfl, _⟩ := h; exact ⟨_, _, _, rfl⟩
theorem sees_form {w : World} {v : Value} {xs : List Int} (h : Sees w v xs) : ∃ a n c, v = .slice a n c := by
  obtain ⟨ao, cap, rfl, _⟩ := h; exact ⟨_, _, _, rfl⟩

theorem rq_forms {w : World} {cs : List Value} {r : Rq} (h : SeesRq w cs r) : ∃ (k : Int) (s : ByteArray) (da : Option Addr) (dl dc : Nat) (aa : Option Addr) (al ac : Nat) (v : Int) (e q : Bool) (z t : Int) (wa : Option Addr) (wl wc : Nat) (oa : Option Addr) (ol oc : Nat),
    cs = [.int .i8 k, .string s, .slice da dl dc, .slice aa al ac, .int .i32 v, .bool e, .bool q, .int .i64 z, .int .i32 t, .slice wa wl wc, .slice oa ol oc] := by
  cases h with
  | mk f n ops dv av wv ov oc hd ha hw ho hs =>
    obtain ⟨a1, n1, c1, rfl⟩ := sees_form hd
    obtain ⟨a2, n2, c2, rfl⟩ := seesR_form ha
    obtain ⟨a3, n3, c3, rfl⟩ := seesR_form hw
    obtain ⟨a4, n4, c4, rfl⟩ := seesR_form ho
    exact ⟨_, _, _, _, _, _, _, _, _, _, _, _, _, _, _, _, _, _, _, rfl⟩

set_option maxHeartbeats 1000000 in
theorem isListR_any (v : Value) (n : Nat) (oc : Fin n → List Value) (ops : Fin n → Rq) (p : Fin n → Bool) (most : Int) (w : World) (h : SeesR w v 11 (List.ofFn oc)) (hs : ∀ i, SeesRq w (oc i) (ops i)) (hl : n ≤ 140737488355328)
    (hc : ∀ i (W : World), Below w.heap.size w W → Calls Tryz.prog 125 #[lay 5 320, .agg (oc i).toArray] W fun r W' => r = .returned (.bool (p i)) ∧ Below W.heap.size W W') :
    Calls Tryz.prog 155 #[v, .int .i64 most, .func (.func 125) #[lay 5 320] #[]] w fun r w' => r = .returned (.bool (decide ((n : Int) ≤ most) && (List.ofFn p).all id)) ∧ Below w.heap.size w w' := by
  obtain ⟨ao, cap, rfl, hlc, hcm, _, h3⟩ := h
  unfold maxLen at hcm
  rw [List.length_ofFn] at hlc ⊢
  have HC : Hid _ := hc
  have HS : Hid _ := hs
  clear hc hs
  by_cases hm : (n : Int) ≤ most
  · rw [decide_eq_true hm]
    go_enter Tryz.func155, Tryz.ntmps155
    go_wp2
    go_loopw [15] (fun i wr => ∃ k : Nat, k ≤ n ∧ i = .int .i64 k ∧ ((List.ofFn p).take k).all id = true ∧ Below w.heap.size w wr) (fun i _ => n - (intOf i).toNat)
    case atStart => exact ⟨0, Nat.zero_le _, rfl, by simp, Below.refl _ _⟩
    case round =>
      obtain ⟨k, hk, rfl, hal, hbel⟩ := hrel
      by_cases hlt : k < n
      · rcases h3 with h3 | ⟨b, off, rfl, h3⟩
        · have : n = 0 := by simpa using congrArg List.length h3
          omega
        · obtain ⟨q0, q1, d0, d1, d2, a0, a1, a2, q4, q5, q6, q7, q8, e0, e1, e2, o0, o1, o2, hcs⟩ := rq_forms (HS.out ⟨k, hlt⟩)
          have hat : ∀ j, j < 11 → wr.cell? ⟨b, off + k * 11 + j, none⟩ = some ((oc ⟨k, hlt⟩).getD j (.bool false)) := fun j hj => by
            have := cell_later (h3 k (by simpa using hlt) j hj) hbel (Nat.le_refl _)
            simpa using this
          rw [hcs] at hat
          have g0 : wr.cell? ⟨b, off + k * 11, none⟩ = some (.int .i8 q0) := hat 0 (by omega)
          have g1 : wr.cell? ⟨b, off + k * 11 + 1, none⟩ = some (.string q1) := hat 1 (by omega)
          have g2 : wr.cell? ⟨b, off + k * 11 + 2, none⟩ = some (.slice d0 d1 d2) := hat 2 (by omega)
          have g3 : wr.cell? ⟨b, off + k * 11 + 3, none⟩ = some (.slice a0 a1 a2) := hat 3 (by omega)
          have g4 : wr.cell? ⟨b, off + k * 11 + 4, none⟩ = some (.int .i32 q4) := hat 4 (by omega)
          have g5 : wr.cell? ⟨b, off + k * 11 + 5, none⟩ = some (.bool q5) := hat 5 (by omega)
          have g6 : wr.cell? ⟨b, off + k * 11 + 6, none⟩ = some (.bool q6) := hat 6 (by omega)
          have g7 : wr.cell? ⟨b, off + k * 11 + 7, none⟩ = some (.int .i64 q7) := hat 7 (by omega)
          have g8 : wr.cell? ⟨b, off + k * 11 + 8, none⟩ = some (.int .i32 q8) := hat 8 (by omega)
          have g9 : wr.cell? ⟨b, off + k * 11 + 9, none⟩ = some (.slice e0 e1 e2) := hat 9 (by omega)
          have g10 : wr.cell? ⟨b, off + k * 11 + 10, none⟩ = some (.slice o0 o1 o2) := hat 10 (by omega)
          have HX := HC.out ⟨k, hlt⟩
          rw [hcs] at HX
          have HX : Hid _ := HX
          have HN : Hid _ := all_fn_next p k hlt
          have HF : Hid _ := all_fn_bad p k hlt
          have HA : Hid _ := hal
          have HB : Hid (Below w.heap.size w wr) := hbel
          clear h3 hal hbel hat hcs
          generalize p ⟨k, hlt⟩ = pb at *
          go_wp2_with fail
          refine (HX.out _ (HB.out.alloc HB.out.size _)).mono ?_
          rintro r w1 ⟨rfl, b1⟩
          have HB1 : Hid (Below w.heap.size w w1) := (HB.out.alloc HB.out.size _).trans (b1.mono (by have := HB.out.size; simp; omega))
          clear b1
          by_cases hx : pb = true
          · rw [hx]
            go_wp2
            go_roundw
            case rel => exact ⟨k + 1, by omega, by go_num, by rw [HN.out, HA.out]; simp [hx], HB1.out⟩
            case measure => simp [intOf]; omega
          · have hx' : pb = false := by simpa using hx
            rw [hx']
            go_wp2
            go_ret
            exact ⟨by rw [HF.out hx']; rfl, HB1.out⟩
      · obtain rfl : k = n := by omega
        have e : ((List.ofFn p).take k) = List.ofFn p := List.take_of_length_le (by simp)
        rw [e] at hal
        have HB : Hid (Below w.heap.size w wr) := hbel
        have HA : Hid _ := hal
        clear hal hbel e
        go_wp2
        go_ret
        exact ⟨by rw [HA.out]; rfl, HB.out⟩
  · rw [decide_eq_false hm]
    go_enter Tryz.func155, Tryz.ntmps155
    go_wp2
    go_ret
    exact ⟨rfl, Below.refl _ _⟩
end Go.Proofs.YtgeoocchdpehdaaGreatDoor

namespace Go.Proofs.YtgeoocchdpehdaaGreatDoor
open Go.RowKit
set_option maxRecDepth 8000

def aclOk (l : List EnD) : Bool := decide ((l.length : Int) ≤ 4) && l.all (fun x => idOk x.id)
def whoOk (l : List IdD) : Bool := decide ((l.length : Int) ≤ 4) && l.all idOk

theorem keep7 {W W' : World} {N : Nat} {v1 v2 v3 v7 v8 v9 v10 : Value} (hb : Below W.heap.size W W') (h : W.cell? ⟨N, 1, none⟩ = some v1 ∧ W.cell? ⟨N, 2, none⟩ = some v2 ∧ W.cell? ⟨N, 3, none⟩ = some v3 ∧ W.cell? ⟨N, 7, none⟩ = some v7 ∧ W.cell? ⟨N, 8, none⟩ = some v8 ∧ W.cell? ⟨N, 9, none⟩ = some v9 ∧ W.cell? ⟨N, 10, none⟩ = some v10) :
    W'.cell? ⟨N, 1, none⟩ = some v1 ∧ W'.cell? ⟨N, 2, none⟩ = some v2 ∧ W'.cell? ⟨N, 3, none⟩ = some v3 ∧ W'.cell? ⟨N, 7, none⟩ = some v7 ∧ W'.cell? ⟨N, 8, none⟩ = some v8 ∧ W'.cell? ⟨N, 9, none⟩ = some v9 ∧ W'.cell? ⟨N, 10, none⟩ = some v10 :=
  ⟨cell_later h.1 hb (Nat.le_refl _), cell_later h.2.1 hb (Nat.le_refl _), cell_later h.2.2.1 hb (Nat.le_refl _), cell_later h.2.2.2.1 hb (Nat.le_refl _), cell_later h.2.2.2.2.1 hb (Nat.le_refl _), cell_later h.2.2.2.2.2.1 hb (Nat.le_refl _), cell_later h.2.2.2.2.2.2 hb (Nat.le_refl _)⟩

set_option maxHeartbeats 2000000 in
theorem isBounded_true (f : RqF) (n : Nat) (ops : Fin n → Rq) (dv av wv ov : Value) (oc : Fin n → List Value) (p : Fin n → Bool) (w : World)
    (hd : Sees w dv f.data) (ha : SeesR w av 3 (f.acl.map EnD.cells)) (hw : SeesR w wv 2 (f.who.map IdD.cells)) (ho : SeesR w ov 11 (List.ofFn oc)) (hs : ∀ i : Fin n, SeesRq w (oc i) (ops i)) (hn : n ≤ 140737488355328)
    (hc : ∀ i (W : World), Below w.heap.size w W → Calls Tryz.prog 125 #[lay 5 320, .agg (oc i).toArray] W fun r W' => r = .returned (.bool (p i)) ∧ Below W.heap.size W W')
    (b1 : f.path.size ≤ 64) (b2 : f.data.length ≤ 96) (b3 : aclOk f.acl = true) (b4 : 0 ≤ f.ses) (b5 : 0 ≤ f.tmo) (b6 : f.tmo ≤ 1000) (b7 : whoOk f.who = true) :
    Calls Tryz.prog 133 #[.agg (rqCells f dv av wv ov).toArray] w fun r w' => r = .returned (.bool (decide ((n : Int) ≤ 8) && (List.ofFn p).all id)) ∧ Below w.heap.size w w' := by
  obtain ⟨kind, path, data, acl, ver, eph, seq, ses, tmo, who⟩ := f
  simp only at hd ha hw b1 b2 b3 b4 b5 b6 b7
  obtain ⟨da, dc, rfl, _⟩ := id hd
  obtain ⟨aa, ac, ea, _⟩ := id ha
  obtain ⟨wa, wc, ew, _⟩ := id hw
  obtain ⟨oa, occ, eo, _⟩ := id ho
  rw [List.length_map] at ea ew
  rw [List.length_ofFn] at eo
  have HA : Hid (∀ W : World, Below w.heap.size w W → Calls Tryz.prog 151 #[av, .int .i64 4, .func (.func 152) #[] #[]] W fun r w' => r = .returned (.bool true) ∧ Below W.heap.size W w') := fun W hW => by
    have := isListE_any av acl 4 W (ha.below hW (Nat.le_refl _))
    rw [show (decide ((acl.length : Int) ≤ 4) && acl.all (fun x => idOk x.id)) = true from b3] at this
    exact this
  have HW : Hid (∀ W : World, Below w.heap.size w W → Calls Tryz.prog 153 #[wv, .int .i64 4, .func (.func 154) #[] #[]] W fun r w' => r = .returned (.bool true) ∧ Below W.heap.size W w') := fun W hW => by
    have := isListI_any wv who 4 W (hw.below hW (Nat.le_refl _))
    rw [show (decide ((who.length : Int) ≤ 4) && who.all (fun x => idOk x)) = true from b7] at this
    exact this
  have HO : Hid (∀ W : World, Below w.heap.size w W → Calls Tryz.prog 155 #[ov, .int .i64 8, .func (.func 125) #[lay 5 320] #[]] W fun r w' => r = .returned (.bool (decide ((n : Int) ≤ 8) && (List.ofFn p).all id)) ∧ Below W.heap.size W w') := fun W hW =>
    isListR_any ov n oc ops p 8 W (ho.below hW (Nat.le_refl _)) (fun i => (hs i).later hW (Nat.le_refl _)) hn (fun i V hV => hc i V (hW.trans (hV.mono hW.size)))
  subst ea ew eo
  clear ha hw ho hs hc hd b3 b7
  simp only [rqCells]
  generalize acl.length = al at *
  generalize who.length = wl at *
  have HB0 : Hid (∀ o : Obj, Below w.heap.size w (w.alloc o).drew) := fun o => below_drewN (one_alloc w o) 1
  go_enter Tryz.func133, Tryz.ntmps133
  go_wp2_with fail
  generalize eW0 : (w.alloc (.cells #[.int .i8 kind, .string path, .slice da data.length dc, .slice aa al ac, .int .i32 ver, .bool eph, .bool seq, .int .i64 ses, .int .i32 tmo, .slice wa wl wc, .slice oa n occ] 35)) = W0
  have k0 : W0.drew.cell? ⟨w.heap.size, 1, none⟩ = some (.string path) ∧ W0.drew.cell? ⟨w.heap.size, 2, none⟩ = some (.slice da data.length dc) ∧ W0.drew.cell? ⟨w.heap.size, 3, none⟩ = some (.slice aa al ac) ∧ W0.drew.cell? ⟨w.heap.size, 7, none⟩ = some (.int .i64 ses) ∧ W0.drew.cell? ⟨w.heap.size, 8, none⟩ = some (.int .i32 tmo) ∧ W0.drew.cell? ⟨w.heap.size, 9, none⟩ = some (.slice wa wl wc) ∧ W0.drew.cell? ⟨w.heap.size, 10, none⟩ = some (.slice oa n occ) := by
    subst eW0
    refine ⟨?_, ?_, ?_, ?_, ?_, ?_, ?_⟩ <;> (show World.cell? (w.alloc _) _ = _; rw [cell_of_row _ _ _ _ _ _ (heap_alloc_new _ _)]; rfl)
  have g0 : Below w.heap.size w W0.drew := by subst eW0; exact HB0.out _
  have HK0 : Hid (W0.drew.cell? ⟨w.heap.size, 1, none⟩ = some (.string path)) := k0.1
  have e1 : decide ((path.size : Int) ≤ 64) = true := by simp; omega
  have e2 : decide ((data.length : Int) ≤ 96) = true := by simp; omega
  have e4 : decide (0 ≤ ses) = true := by simpa using b4
  have e5 : decide (0 ≤ tmo) = true := by simpa using b5
  have e6 : decide (tmo ≤ 1000) = true := by simpa using b6
  clear HB0 eW0
  go_region_held (fun w' => w'.cell? ⟨w.heap.size, 1, none⟩ = some (.string path) ∧ w'.cell? ⟨w.heap.size, 2, none⟩ = some (.slice da data.length dc) ∧ w'.cell? ⟨w.heap.size, 3, none⟩ = some (.slice aa al ac) ∧ w'.cell? ⟨w.heap.size, 7, none⟩ = some (.int .i64 ses) ∧ w'.cell? ⟨w.heap.size, 8, none⟩ = some (.int .i32 tmo) ∧ w'.cell? ⟨w.heap.size, 9, none⟩ = some (.slice wa wl wc) ∧ w'.cell? ⟨w.heap.size, 10, none⟩ = some (.slice oa n occ)) (first | exact k0 | exact k1 | exact k2 | exact k3 | exact k4)
    (first
    | (go_at_call 151; refine (HA.out _ g0).mono ?_; rintro r w1 ⟨rfl, g1⟩; have g1' : Below w.heap.size w w1 := (g0.trans (g1.mono g0.size)); have k1 := keep7 g1 k0; clear k0 g0 g1)
    | (go_at_call 153; refine (HW.out _ g1').mono ?_; rintro r w2 ⟨rfl, g2⟩; have g2' : Below w.heap.size w w2 := (g1'.trans (g2.mono g1'.size)); have k2 := keep7 g2 k1; clear k1 g1' g2)
    | (go_at_call 140; refine (within_any _).mono ?_; rintro r w3 ⟨rfl, g3⟩; have g3' : Below w.heap.size w w3 := (g2'.trans (g3.mono g2'.size)); have k3 := keep7 g3 k2; clear k2 g2' g3)
    | (go_at_call 155; refine (HO.out _ g3').mono ?_; rintro r w4 ⟨rfl, g4⟩; have g4' : Below w.heap.size w w4 := (g3'.trans (g4.mono g3'.size)); have k4 := keep7 g4 k3; clear k3 g3' g4))
  have HG : Hid (Below w.heap.size w w4) := g4'
  clear g4' k4
  go_wp2
  go_ret
  exact ⟨rfl, HG.out⟩

end Go.Proofs.YtgeoocchdpehdaaGreatDoor
