/- The statements' Bag with one list of lists of bytes, and its lists: they are apart. -/
import Derived.Test.YtbdokdhconhifaaGreatDoorBag2J
import Derived.Test.YtbdokdhconhifaaGreatDoorProg
import Derived.Test.YtbdokdhconhifaaGreatDoorMemJ
import Derived.Laws.StructEq
namespace Go.Proofs.YtbdokdhconhifaaGreatDoor
open Go.RowKit
set_option maxRecDepth 8000

theorem bag_cells {w : World} {g : Nat} {bv pv : Value} (h : w.heap[g]? = some (.cells (bagCells bv pv) 55 (0, 0))) : ∀ j, j < 21 → w.cell? ⟨g, j, none⟩ = (bagCells bv pv)[j]? := fun j _ => cell_of_row w g j _ _ _ h

set_option maxRecDepth 8000 in
set_option maxHeartbeats 2000000 in
theorem bagApart_one (g B : Nat) (bv pv : Value) (ps : List Pc) (p : Pc) (w : World) (h : BagIs w g bv pv ps [p] B) (hl : ∀ q ∈ ps, Lies w 5 q) (hap : ApartPcs ps) (hn : ps.length ≤ 600) (hb : ∀ q ∈ ps, q.n ≤ 70000000000000) (hlp : Lies w 58 p) (hbp : p.n ≤ 1000000000)
    (ht : Tab w) (hg0 : 1 < B) (hBw : B ≤ w.heap.size) (hfB : ∀ k x, feet ps k x → B ≤ k) (hpB : ∀ k x, p.foot k x → B ≤ k) :
    Calls Tryz.prog 15 #[.pointer (some ⟨g, 0, none⟩)] w fun e w' => e = .returned (.bool true) ∧ Below B w w' := by
  have cs := bag_cells h.row
  have H : Hid (BagIs w g bv pv ps [p] B ∧ (∀ q ∈ ps, Lies w 5 q) ∧ ApartPcs ps ∧ (∀ q ∈ ps, q.n ≤ 70000000000000) ∧ Lies w 58 p ∧ Tab w ∧ (∀ k x, feet ps k x → B ≤ k) ∧ (∀ k x, p.foot k x → B ≤ k)) := ⟨h, hl, hap, hb, hlp, ht, hfB, hpB⟩
  have c0 : w.cell? ⟨g, 0, none⟩ = some bv := cs 0 (by omega)
  clear h hl hap hb hlp ht hfB hpB cs
  go_enter Tryz.func15, Tryz.ntmps15
  go_wp2_with fail
  refine (apartBytes_any bv ps _ (sees_own H.out.1.bs) H.out.2.1 H.out.2.2.1 hn H.out.2.2.2.1).mono ?_
  rintro e w1 ⟨rfl, hT1⟩
  have hrow1 : w1.heap[g]? = some (.cells (bagCells bv pv) 55 (0, 0)) := by
    rw [hT1.same g (lt_of_block H.out.1.row) (fun x hs => ?_)]
    · exact H.out.1.row
    · obtain ⟨q, hq, hf⟩ := hs
      obtain ⟨_, cs2, hr2⟩ := (H.out.2.1 q hq).foot_lt hf
      rw [H.out.1.row] at hr2
      simp at hr2
  have hsp : SeesPcs w1 33 pv [p] := (sees_own (ps := [p]) H.out.1.pc).turned hT1 (fun _ _ h => h) H.out.2.1 (by decide)
  have H1 : Hid (w1.heap[g]? = some (.cells (bagCells bv pv) 55 (0, 0)) ∧ SeesPcs w1 33 pv [p] ∧ Lies w1 58 p ∧ Tab w1 ∧ Below B w w1) :=
    ⟨hrow1, hsp, H.out.2.2.2.2.1.turned hT1, Tab.same H.out.2.2.2.2.2.1 (hT1.same _ (by omega) (fun x hs => by have := H.out.2.2.2.2.2.2.1 _ _ hs; omega)), hT1.below hBw H.out.2.2.2.2.2.2.1⟩
  have cs := bag_cells hrow1
  have c1 : w1.cell? ⟨g, 1, none⟩ = some nilS := cs 1 (by omega)
  have c2 : w1.cell? ⟨g, 2, none⟩ = some nilS := cs 2 (by omega)
  have c3 : w1.cell? ⟨g, 3, none⟩ = some pv := cs 3 (by omega)
  have hz1 := hT1.size
  clear hT1 hrow1 hsp cs c0
  go_wp2_with fail
  refine (apartInts_nil _).mono ?_
  rintro e w2 ⟨rfl, rfl⟩
  go_wp2_with fail
  refine (apartTexts_nil _).mono ?_
  rintro e w2 ⟨rfl, rfl⟩
  go_wp2_with fail
  refine (apartPieces_one pv p _ H1.out.2.1 H1.out.2.2.1 hbp H1.out.2.2.2.1 (by omega) (fun x hs => by have := H.out.2.2.2.2.2.2.2 _ _ hs; omega)).mono ?_
  rintro e w3 ⟨rfl, hT3⟩
  have hrow3 : w3.heap[g]? = some (.cells (bagCells bv pv) 55 (0, 0)) := by
    rw [hT3.same g (lt_of_block H1.out.1) (fun x hs => ?_)]
    · exact H1.out.1
    · obtain ⟨_, cs2, hr2⟩ := H1.out.2.2.1.foot_lt hs
      rw [H1.out.1] at hr2
      simp at hr2
  have HE : Hid (Below B w w3) := H1.out.2.2.2.2.trans (hT3.below (by omega) H.out.2.2.2.2.2.2.2)
  have cs := bag_cells hrow3
  have c4 : w3.cell? ⟨g, 4, none⟩ = some nilS := cs 4 (by omega)
  have c5 : w3.cell? ⟨g, 5, none⟩ = some nilS := cs 5 (by omega)
  have c6 : w3.cell? ⟨g, 6, none⟩ = some nilS := cs 6 (by omega)
  have c7 : w3.cell? ⟨g, 7, none⟩ = some nilS := cs 7 (by omega)
  have c8 : w3.cell? ⟨g, 8, none⟩ = some nilS := cs 8 (by omega)
  have c9 : w3.cell? ⟨g, 9, none⟩ = some nilS := cs 9 (by omega)
  have c10 : w3.cell? ⟨g, 10, none⟩ = some nilS := cs 10 (by omega)
  have c11 : w3.cell? ⟨g, 11, none⟩ = some nilS := cs 11 (by omega)
  have c12 : w3.cell? ⟨g, 12, none⟩ = some nilS := cs 12 (by omega)
  have c13 : w3.cell? ⟨g, 13, none⟩ = some nilS := cs 13 (by omega)
  have c14 : w3.cell? ⟨g, 14, none⟩ = some nilS := cs 14 (by omega)
  have c15 : w3.cell? ⟨g, 15, none⟩ = some nilS := cs 15 (by omega)
  have c16 : w3.cell? ⟨g, 16, none⟩ = some nilS := cs 16 (by omega)
  have c17 : w3.cell? ⟨g, 17, none⟩ = some nilS := cs 17 (by omega)
  have c18 : w3.cell? ⟨g, 18, none⟩ = some nilS := cs 18 (by omega)
  have c19 : w3.cell? ⟨g, 19, none⟩ = some nilS := cs 19 (by omega)
  have c20 : w3.cell? ⟨g, 20, none⟩ = some nilS := cs 20 (by omega)
  clear hT3 hrow3 cs c1 c2 c3
  go_wp2_with fail
  refine (apartIds_nil _).mono ?_
  rintro e w4 ⟨rfl, rfl⟩
  go_wp2_with fail
  refine (apartAcl_nil _).mono ?_
  rintro e w4 ⟨rfl, rfl⟩
  go_wp2_with fail
  refine (apartRequests_nil _).mono ?_
  rintro e w4 ⟨rfl, rfl⟩
  go_wp2_with fail
  refine (apartTxns_nil _).mono ?_
  rintro e w4 ⟨rfl, rfl⟩
  go_wp2_with fail
  refine (apartResults_nil _).mono ?_
  rintro e w4 ⟨rfl, rfl⟩
  go_wp2_with fail
  refine (apartNodes_nil _).mono ?_
  rintro e w4 ⟨rfl, rfl⟩
  go_wp2_with fail
  refine (apartSessions_nil _).mono ?_
  rintro e w4 ⟨rfl, rfl⟩
  go_wp2_with fail
  refine (apartChanges_nil _).mono ?_
  rintro e w4 ⟨rfl, rfl⟩
  go_wp2_with fail
  refine (apartFiles_nil _).mono ?_
  rintro e w4 ⟨rfl, rfl⟩
  go_wp2_with fail
  refine (apartPackets_nil _).mono ?_
  rintro e w4 ⟨rfl, rfl⟩
  go_wp2_with fail
  refine (apartMessages_nil _).mono ?_
  rintro e w4 ⟨rfl, rfl⟩
  go_wp2_with fail
  refine (apartWatches_nil _).mono ?_
  rintro e w4 ⟨rfl, rfl⟩
  go_wp2_with fail
  refine (apartFired_nil _).mono ?_
  rintro e w4 ⟨rfl, rfl⟩
  go_wp2_with fail
  refine (apartFacts_nil _).mono ?_
  rintro e w4 ⟨rfl, rfl⟩
  go_wp2_with fail
  refine (apartSends_nil _).mono ?_
  rintro e w4 ⟨rfl, rfl⟩
  go_wp2_with fail
  refine (apartEvents_nil _).mono ?_
  rintro e w4 ⟨rfl, rfl⟩
  go_wp2_with fail
  refine (apartFactss_nil _).mono ?_
  rintro e w4 ⟨rfl, rfl⟩
  go_wp2
  go_ret
  exact ⟨rfl, HE.out⟩

end Go.Proofs.YtbdokdhconhifaaGreatDoor

/- What pack.Sum and EqBytes of lagoonref00 answer: the Adler-32 sum of the bytes that are given; whether two lists of bytes are the same. -/
namespace Go.Proofs.YtbdokdhconhifaaGreatDoor
open Go.RowKit
set_option maxRecDepth 8000

set_option maxHeartbeats 400000 in
theorem eqBytes_any (v u : Value) (xs ys : List Int) (w : World) (h : Sees w v xs) (g : Sees w u ys) :
    Calls Tryz.prog 17 #[v, u] w fun e w' => e = .returned (.bool (decide (xs = ys))) ∧ ∃ n, w' = w.drewN n := by
  obtain ⟨ao, cap, rfl, hlc, hcm, _, h3⟩ := h
  obtain ⟨bo, cbp, rfl, glc, gcm, _, g3⟩ := g
  unfold maxLen at hcm gcm
  by_cases hl : xs.length = ys.length
  · have hl1 : xs.length ≤ ys.length := by omega
    have hl2 : ys.length ≤ xs.length := by omega
    have hn0 : ((xs.length : Int) != (ys.length : Int)) = false := by simp; omega
    clear hl
    go_enter Tryz.func17, Tryz.ntmps17
    go_wp2
    go_loopw [5] (fun i wr => ∃ k m : Nat, k ≤ xs.length ∧ i = .int .i64 k ∧ xs.take k = ys.take k ∧ wr = w.drewN m) (fun i _ => xs.length - (intOf i).toNat)
    case atStart => exact ⟨0, 0, Nat.zero_le _, rfl, rfl, rfl⟩
    case round =>
      obtain ⟨k, m, hk, rfl, heq, rfl⟩ := hrel
      have HE : Hid _ := heq
      clear heq
      by_cases hlt : k < xs.length
      · rcases h3 with h3 | ⟨b, off, rfl, h3⟩
        · subst h3; simp at hlt
        · rcases g3 with g3 | ⟨b', off', rfl, g3⟩
          · have : ys.length = 0 := by rw [g3]; rfl
            omega
          · have hlt' : k < ys.length := by omega
            have hc := h3 k hlt
            have gc := g3 k hlt'
            have HN : Hid _ := take_next_eq hlt hlt' HE.out
            have HD : Hid _ := ne_of_nth (xs := xs) (ys := ys) k
            clear h3 g3
            generalize xs.getD k 0 = x at *
            generalize ys.getD k 0 = y at *
            by_cases hxy : x = y
            · subst hxy
              go_wp2
              go_region
              all_goals go_wp2
              all_goals go_roundw
              case rel => exact ⟨k + 1, _, by omega, by go_num, HN.out trivial, rfl⟩
              case measure => simp [intOf]; omega
            · have hne : (x != y) = true := by simp [hxy]
              clear hxy
              go_wp2
              go_region
              all_goals go_wp2
              all_goals go_ret
              have hxy : x ≠ y := by simpa using hne
              exact ⟨by rw [decide_eq_false (HD.out hxy)]; rfl, _, rfl⟩
      · have he : xs = ys := by
          have := HE.out
          rw [List.take_of_length_le (by omega), List.take_of_length_le (by omega)] at this
          exact this
        subst he
        go_wp2
        go_ret
        exact ⟨by simp, _, rfl⟩
  · have hn : ((xs.length : Int) != (ys.length : Int)) = true := by simp; omega
    have hq : xs ≠ ys := fun e => hl (by rw [e])
    have HQ : Hid _ := hq
    clear hl hq
    go_enter Tryz.func17, Tryz.ntmps17
    go_wp2
    go_ret
    exact ⟨by rw [decide_eq_false HQ.out]; rfl, 0, rfl⟩

end Go.Proofs.YtbdokdhconhifaaGreatDoor

/- Zxids: what Compare, Pack, Unpack and Next of package txn, and the document's own, answer. -/
namespace Go.Proofs.YtbdokdhconhifaaGreatDoor
open Go.RowKit
set_option maxRecDepth 8000

/-- Two zxids held against each other: -1, 0 or 1. -/
def zcmp (e n f m : Int) : Int := if e < f ∨ (e = f ∧ n < m) then -1 else if e = f ∧ n = m then 0 else 1

abbrev zx (e n : Int) : Value := .agg #[.int .u32 e, .int .u32 n]

theorem eqZx (e n f m : Int) (w : World) : (binOp .eql 151 (.agg #[.int .u32 e, .int .u32 n]) (.agg #[.int .u32 f, .int .u32 m])).run Tryz.prog w = .ok (.bool (decide (e = f ∧ n = m))) w := by
  have hu : Tryz.prog.underlying 151 = some (.struct (Tryz.prog.fieldsOf 151)) := by kernel_rfl
  have hp : Tryz.prog.stoodInHeld 151 = false := by kernel_rfl
  have u3 := Tryz.underlying147
  have a3 := Tryz.isAgg147
  have z3 := Tryz.sizeOf147
  rw [run_eql_struct, show (10000 : Nat) = 9999 + 1 from rfl, run_equalIn_agg w 9999 _ _ _ hu hp]
  simp only [Program.fieldsOf, Tryz.underlying151]
  go_simp
  by_cases h1 : e = f <;> by_cases h2 : n = m <;> simp [h1, h2]

theorem two_alloc (w : World) (o o' : Obj) : Below w.heap.size w ((w.alloc o).alloc o') := ((Below.refl _ _).alloc (Nat.le_refl _) _).alloc (by simp) _
theorem one_alloc (w : World) (o : Obj) : Below w.heap.size w (w.alloc o) := (Below.refl _ _).alloc (Nat.le_refl _) _

/-- A zxid's one number. -/
def zpack (e n : Int) : Int × Int := if 2147483647 < e then (0, 1) else (e * 4294967296 + n, 0)

theorem ofInt_i64z (a : Nat) (ha : a < 9223372036854775808) : (BitVec.ofInt 64 (a : Int)).toNat = a := by
  rw [BitVec.ofInt_natCast, BitVec.toNat_ofNat]; exact Nat.mod_eq_of_lt (by omega)
theorem i64_or63 (a b : Int) (h1 : 0 ≤ a) (h2 : a < 9223372036854775808) (h3 : 0 ≤ b) (h4 : b < 9223372036854775808) : bits .or .i64 a b = ((a.toNat ||| b.toNat : Nat) : Int) := by
  obtain ⟨A, rfl⟩ := Int.eq_ofNat_of_zero_le h1
  obtain ⟨B, rfl⟩ := Int.eq_ofNat_of_zero_le h3
  have hx : A ||| B < 2 ^ 63 := Nat.or_lt_two_pow (by omega) (by omega)
  show IntKind.i64.wrap ((BitVec.ofInt 64 (A : Int) ||| BitVec.ofInt 64 (B : Int)).toNat : Int) = _
  rw [BitVec.toNat_or, ofInt_i64z A (by omega), ofInt_i64z B (by omega)]
  simp only [Int.toNat_natCast]
  simp [IntKind.wrap, IntKind.bits, IntKind.signed]
  omega

theorem zpack_or (e n : Int) (h0 : 0 ≤ e) (h1 : e ≤ 2147483647) (h2 : 0 ≤ n) (h3 : n ≤ 4294967295) : bits .or .i64 (e * 4294967296) n = e * 4294967296 + n := by
  rw [i64_or63 _ _ (by omega) (by omega) (by omega) (by omega), nat_join 32 _ _ (by omega) (by omega)]
  omega

/-- The zxid of a number: its epoch, its counter, the error. -/
def zunpack (n : Int) : Int × Int × Int := if n < 0 then (0, 0, 1) else (n / 4294967296, n % 4294967296, 0)

/-- The next zxid of an epoch: epoch, counter, error. -/
def znext (e n last : Int) : Int × Int × Int := if e = 0 ∨ 2147483647 < e then (0, 0, 1) else if last ≤ n then (0, 0, 2) else (e, n + 1, 0)

end Go.Proofs.YtbdokdhconhifaaGreatDoor

/- Requests and transactions as data, and what it means that they lie in memory; no Go function is walked here. -/
namespace Go.Proofs.YtbdokdhconhifaaGreatDoor
open Go.RowKit
set_option maxRecDepth 8000

structure IdD where
  scheme : ByteArray
  name : ByteArray

structure EnD where
  perms : Int
  id : IdD

def IdD.cells (x : IdD) : List Value := [.string x.scheme, .string x.name]
def EnD.cells (x : EnD) : List Value := [.int .i8 x.perms, .string x.id.scheme, .string x.id.name]

/-- A request's fields, its Ops aside. -/
structure RqF where
  kind : Int
  path : ByteArray
  data : List Int
  acl : List EnD
  ver : Int
  eph : Bool
  seq : Bool
  ses : Int
  tmo : Int
  who : List IdD

inductive Rq where
  | mk (f : RqF) (n : Nat) (ops : Fin n → Rq) : Rq

def Rq.f : Rq → RqF
  | .mk f _ _ => f

/-- So many parts its own lists have. -/
def RqF.parts (f : RqF) : Nat := 1 + f.data.length + f.acl.length + f.who.length

def Rq.parts : Rq → Nat
  | .mk f n ops => f.parts + (List.ofFn fun i : Fin n => (ops i).parts).sum

/-- The parts of the first k inner requests. -/
def partsTo {n : Nat} (ops : Fin n → Rq) (k : Nat) : Nat := ((List.ofFn fun i : Fin n => (ops i).parts).take k).sum

theorem partsTo_zero {n : Nat} (ops : Fin n → Rq) : partsTo ops 0 = 0 := by simp [partsTo]
theorem partsTo_next {n : Nat} (ops : Fin n → Rq) (k : Nat) (h : k < n) : partsTo ops (k + 1) = partsTo ops k + (ops ⟨k, h⟩).parts := by
  unfold partsTo
  rw [List.take_succ_eq_append_getElem (by simpa using h)]
  simp
theorem partsTo_all {n : Nat} (ops : Fin n → Rq) : partsTo ops n = (List.ofFn fun i : Fin n => (ops i).parts).sum := by
  unfold partsTo
  rw [List.take_of_length_le (by simp)]
theorem Rq.parts_eq (f : RqF) (n : Nat) (ops : Fin n → Rq) : (Rq.mk f n ops).parts = f.parts + partsTo ops n := by
  rw [partsTo_all]; rfl
theorem parts_pos (r : Rq) : 0 < r.parts := by
  cases r with
  | mk f n ops => rw [Rq.parts_eq]; unfold RqF.parts; omega
theorem partsTo_le {n : Nat} (ops : Fin n → Rq) : ∀ k, k ≤ n → k ≤ partsTo ops k
  | 0, _ => Nat.zero_le _
  | k + 1, h => by
    have := partsTo_le ops k (by omega)
    have h1 := parts_pos (ops ⟨k, by omega⟩)
    rw [partsTo_next ops k (by omega)]
    omega
theorem partsTo_mono {n : Nat} (ops : Fin n → Rq) (k m : Nat) (h : k ≤ m) (hm : m ≤ n) : partsTo ops k ≤ partsTo ops m := by
  induction m with
  | zero => cases k with
    | zero => exact Nat.le_refl _
    | succ k => omega
  | succ m ih =>
    by_cases e : k = m + 1
    · subst e; exact Nat.le_refl _
    · have := ih (by omega) (by omega)
      rw [partsTo_next ops m (by omega)]
      omega
theorem part_le {n : Nat} (ops : Fin n → Rq) (i : Fin n) : (ops i).parts ≤ partsTo ops n := by
  have h1 := partsTo_next ops i.1 i.2
  have h2 := partsTo_mono ops (i.1 + 1) n (by omega) (Nat.le_refl _)
  have e : ops ⟨i.1, i.2⟩ = ops i := rfl
  rw [e] at h1
  omega

/-- What numbers and texts can be. -/
structure RqF.good (f : RqF) : Prop where
  k0 : -128 ≤ f.kind
  k1 : f.kind ≤ 127
  v0 : -2147483648 ≤ f.ver
  v1 : f.ver ≤ 2147483647
  s0 : -9223372036854775808 ≤ f.ses
  s1 : f.ses ≤ 9223372036854775807
  t0 : -2147483648 ≤ f.tmo
  t1 : f.tmo ≤ 2147483647
  byts : Byts f.data
  pl : f.path.size ≤ 140737488355328
  dl : f.data.length ≤ 140737488355328
  al : f.acl.length ≤ 140737488355328
  wl : f.who.length ≤ 140737488355328
  ae : ∀ x ∈ f.acl, -128 ≤ x.perms ∧ x.perms ≤ 127 ∧ x.id.scheme.size ≤ 140737488355328 ∧ x.id.name.size ≤ 140737488355328
  we : ∀ x ∈ f.who, x.scheme.size ≤ 140737488355328 ∧ x.name.size ≤ 140737488355328

def Rq.good : Rq → Prop
  | .mk f n ops => f.good ∧ n ≤ 140737488355328 ∧ ∀ i : Fin n, (ops i).good

/-- The slice value v leads to elements of z cells each: the cells of each. -/
def SeesR (w : World) (v : Value) (z : Nat) (cs : List (List Value)) : Prop :=
  ∃ (ao : Option Addr) (cap : Nat), v = .slice ao cs.length cap ∧ cs.length ≤ cap ∧ cap ≤ maxLen ∧ (ao = none → cap = 0) ∧
    (cs = [] ∨ ∃ b off, ao = some ⟨b, off, none⟩ ∧ ∀ i (hi : i < cs.length) j, j < z → w.cell? ⟨b, off + i * z + j, none⟩ = some (cs[i].getD j (.bool false)))

theorem SeesR.nil (w : World) (z : Nat) : SeesR w (.slice none 0 0) z [] := ⟨none, 0, rfl, Nat.le_refl _, by unfold maxLen; omega, fun _ => rfl, .inl rfl⟩

theorem SeesR.below {B : Nat} {w w' : World} {v : Value} {z : Nat} {cs : List (List Value)} (h : SeesR w v z cs) (hb : Below B w w') (hB : w.heap.size ≤ B) : SeesR w' v z cs := by
  obtain ⟨ao, cap, rfl, h1, h2, h0, h3⟩ := h
  refine ⟨ao, cap, rfl, h1, h2, h0, ?_⟩
  rcases h3 with h3 | ⟨b, off, rfl, h3⟩
  · exact .inl h3
  · exact .inr ⟨b, off, rfl, fun i hi j hj => cell_later (h3 i hi j hj) hb hB⟩

/-- A request's cells. -/
def rqCells (f : RqF) (dv av wv ov : Value) : List Value :=
  [.int .i8 f.kind, .string f.path, dv, av, .int .i32 f.ver, .bool f.eph, .bool f.seq, .int .i64 f.ses, .int .i32 f.tmo, wv, ov]

/-- The cells cs are those of the request r. -/
inductive SeesRq (w : World) : List Value → Rq → Prop where
  | mk (f : RqF) (n : Nat) (ops : Fin n → Rq) (dv av wv ov : Value) (oc : Fin n → List Value)
      (hd : Sees w dv f.data) (ha : SeesR w av 3 (f.acl.map EnD.cells)) (hw : SeesR w wv 2 (f.who.map IdD.cells)) (ho : SeesR w ov 11 (List.ofFn oc))
      (hs : ∀ i : Fin n, SeesRq w (oc i) (ops i)) : SeesRq w (rqCells f dv av wv ov) (.mk f n ops)

theorem SeesRq.len {w : World} {cs : List Value} {r : Rq} (h : SeesRq w cs r) : cs.length = 11 := by
  cases h; rfl

theorem SeesRq.later {B : Nat} {w w' : World} (hb : Below B w w') (hB : w.heap.size ≤ B) {cs : List Value} {r : Rq} (h : SeesRq w cs r) : SeesRq w' cs r := by
  induction h with
  | mk f n ops dv av wv ov oc hd ha hw ho _ ih => exact .mk f n ops dv av wv ov oc (hd.below hb hB) (ha.below hb hB) (hw.below hb hB) (ho.below hb hB) ih

/-- A transaction. -/
structure TxD where
  ep : Int
  n : Int
  srv : Int
  boot : Int
  num : Int
  rq : Rq

structure TxD.good (t : TxD) : Prop where
  e0 : 0 ≤ t.ep
  e1 : t.ep ≤ 4294967295
  n0 : 0 ≤ t.n
  n1 : t.n ≤ 4294967295
  s0 : -128 ≤ t.srv
  s1 : t.srv ≤ 127
  b0 : 0 ≤ t.boot
  b1 : t.boot ≤ 4294967295
  m0 : -9223372036854775808 ≤ t.num
  m1 : t.num ≤ 9223372036854775807
  rq : t.rq.good

def txHead (t : TxD) : List Value := [.int .u32 t.ep, .int .u32 t.n, .int .i8 t.srv, .int .u32 t.boot, .int .i64 t.num]

/-- The cells cs are those of the transaction t. -/
def SeesTx (w : World) (cs : List Value) (t : TxD) : Prop := ∃ rc, cs = txHead t ++ rc ∧ SeesRq w rc t.rq

theorem SeesTx.len {w : World} {cs : List Value} {t : TxD} (h : SeesTx w cs t) : cs.length = 16 := by
  obtain ⟨rc, rfl, h⟩ := h
  have := h.len
  simp [txHead, this]

theorem SeesTx.below {B : Nat} {w w' : World} (hb : Below B w w') (hB : w.heap.size ≤ B) {cs : List Value} {t : TxD} (h : SeesTx w cs t) : SeesTx w' cs t := by
  obtain ⟨rc, rfl, h⟩ := h
  exact ⟨rc, rfl, h.later hb hB⟩

/-- The slice value v leads to the transactions l. -/
def SeesTxs (w : World) (v : Value) (l : List TxD) : Prop :=
  ∃ cs : List (List Value), SeesR w v 16 cs ∧ cs.length = l.length ∧ ∀ i (h : i < cs.length) (k : i < l.length), SeesTx w cs[i] l[i]

theorem SeesTxs.below {B : Nat} {w w' : World} (hb : Below B w w') (hB : w.heap.size ≤ B) {v : Value} {l : List TxD} (h : SeesTxs w v l) : SeesTxs w' v l := by
  obtain ⟨cs, h1, h2, h3⟩ := h
  exact ⟨cs, h1.below hb hB, h2, fun i h k => (h3 i h k).below hb hB⟩

end Go.Proofs.YtbdokdhconhifaaGreatDoor
