/- A packet as data, and what the tests of package packet's rows answer: isConn, isZxid, isEpochRight, isZxidRight, isTxnRight and the short ones. -/
import Derived.Test.YtgjjcmhlmdfccaaGreatDoorChkTJ
import Derived.Deep.CutRange
import Derived.Deep.DeepCutAuto
namespace Go.Proofs.YtgjjcmhlmdfccaaGreatDoor
open Go.RowKit
set_option maxRecDepth 8000

/-- A packet as data. -/
structure PkD where
  kind : Int
  cb : Int
  ct : Int
  lb : Int
  lt : Int
  place : Int
  ep : Int
  cur : Int
  ze : Int
  zn : Int
  pe : Int
  pn : Int
  cnt : Bool
  fin : Bool
  tx : TxD
  bys : List Int
  ses : Int

structure PkD.good (p : PkD) : Prop where
  k0 : -128 ≤ p.kind
  k1 : p.kind ≤ 127
  cb0 : 0 ≤ p.cb
  cb1 : p.cb ≤ 4294967295
  ct0 : 0 ≤ p.ct
  ct1 : p.ct ≤ 4294967295
  lb0 : 0 ≤ p.lb
  lb1 : p.lb ≤ 4294967295
  lt0 : 0 ≤ p.lt
  lt1 : p.lt ≤ 4294967295
  pl0 : -9223372036854775808 ≤ p.place
  pl1 : p.place ≤ 9223372036854775807
  ep0 : 0 ≤ p.ep
  ep1 : p.ep ≤ 4294967295
  cu0 : 0 ≤ p.cur
  cu1 : p.cur ≤ 4294967295
  ze0 : 0 ≤ p.ze
  ze1 : p.ze ≤ 4294967295
  zn0 : 0 ≤ p.zn
  zn1 : p.zn ≤ 4294967295
  pe0 : 0 ≤ p.pe
  pe1 : p.pe ≤ 4294967295
  pn0 : 0 ≤ p.pn
  pn1 : p.pn ≤ 4294967295
  tx : p.tx.good
  se0 : -9223372036854775808 ≤ p.ses
  se1 : p.ses ≤ 9223372036854775807

/-- A packet's cells. -/
def pkL (p : PkD) (tc : List Value) (bv : Value) : List Value :=
  .int .i8 p.kind :: .int .u32 p.cb :: .int .u32 p.ct :: .int .u32 p.lb :: .int .u32 p.lt :: .int .i64 p.place :: .int .u32 p.ep :: .int .u32 p.cur :: .int .u32 p.ze :: .int .u32 p.zn :: .int .u32 p.pe :: .int .u32 p.pn :: .bool p.cnt :: .bool p.fin :: (tc ++ [bv, .int .i64 p.ses])

/-- A packet's cells and its lists, in memory. -/
structure SeesPk (w : World) (tc : List Value) (bv : Value) (p : PkD) : Prop where
  tx : SeesTx w tc p.tx
  bys : Sees w bv p.bys
  byt : Byts p.bys

theorem SeesPk.below {B : Nat} {w w' : World} {tc : List Value} {bv : Value} {p : PkD} (h : SeesPk w tc bv p) (hb : Below B w w') (hB : w.heap.size ≤ B) : SeesPk w' tc bv p :=
  ⟨h.tx.below hb hB, h.bys.below hb hB, h.byt⟩

theorem pk_at {W : World} {b i : Nat} {cs : Array Value} {t : TypeId} {v : Value} (h : W.heap[b]? = some (.cells cs t (0, 0))) (hv : cs[i]? = some v) : W.cell? ⟨b, i, none⟩ = some v := by rw [cell_of_row _ _ _ _ _ _ h]; exact hv

/-- A packet in a block of its own. -/
def PkAt (W : World) (g : Nat) (p : PkD) (tc : List Value) (bv : Value) : Prop := W.heap[g]? = some (.cells (pkL p tc bv).toArray 39 (0, 0))

theorem PkAt.tail {W : World} {g : Nat} {p : PkD} {tc : List Value} {bv : Value} (h : PkAt W g p tc bv) (hl : tc.length = 16) : W.rangeAt g 14 tc ∧ W.cell? ⟨g, 30, none⟩ = some bv ∧ W.cell? ⟨g, 31, none⟩ = some (.int .i64 p.ses) := by
  refine ⟨fun j v hj => ?_, pk_at h ?_, pk_at h ?_⟩
  · rw [cell_of_row _ _ _ _ _ _ h, List.getElem?_toArray, show 14 + j = j + 14 by omega]
    show (tc ++ [bv, .int .i64 p.ses])[j]? = some v
    rw [List.getElem?_append_left (by have := List.getElem?_eq_some_iff.1 hj; exact this.1)]
    exact hj
  · rw [List.getElem?_toArray]
    show (tc ++ [bv, .int .i64 p.ses])[16]? = some bv
    rw [List.getElem?_append_right (by omega), hl]; rfl
  · rw [List.getElem?_toArray]
    show (tc ++ [bv, .int .i64 p.ses])[17]? = some (.int .i64 p.ses)
    rw [List.getElem?_append_right (by omega), hl]; rfl

theorem PkAt.later {W W' : World} {g : Nat} {p : PkD} {tc : List Value} {bv : Value} (h : PkAt W g p tc bv) {B : Nat} (hb : Below B W W') (hB : g < B) : PkAt W' g p tc bv := (Below.kept hb).heap h (by omega)
theorem PkAt.lt {W : World} {g : Nat} {p : PkD} {tc : List Value} {bv : Value} (h : PkAt W g p tc bv) : g < W.heap.size := lt_of_block h

/-- A packet that is handed over is put into a box. -/
theorem pk_box (p : PkD) (tc : List Value) (bv : Value) (w : World) : ∃ W, Hid (W = w.alloc (.cells (pkL p tc bv).toArray 39)) ∧ Hid (Below w.heap.size w W ∧ PkAt W w.heap.size p tc bv) :=
  ⟨_, rfl, one_alloc _ _, heap_alloc_new _ _⟩

def connB (b t : Int) : Bool := decide (1 ≤ b ∧ 1 ≤ t)

theorem isConn_any (b t : Int) (w : World) : Calls Tryz.prog 55 #[.agg #[.int .u32 b, .int .u32 t]] w fun r w' => r = .returned (.bool (connB b t)) ∧ Below w.heap.size w w' := by
  have hB := one_alloc w
  go_enter Tryz.func55, Tryz.ntmps55
  go_wp2
  all_goals (go_ret; refine ⟨?_, hB _⟩; unfold connB; simp [*]; try omega)

set_option maxHeartbeats 400000 in
theorem isZxidP_any (e n : Int) (w : World) (h0 : 0 ≤ e) (h2 : 0 ≤ n) :
    Calls Tryz.prog 80 #[zx e n] w fun r w' => r = .returned (.bool (zxOk e n)) ∧ Below w.heap.size w w' := by
  have hg : Tryz.prog.eqGuardType Tryz.prog.depth 27 = false := by kernel_rfl
  have hB := one_alloc w
  have hq := eqZx e n 0 0
  by_cases hz : e = 0 ∧ n = 0
  · rw [decide_eq_true hz] at hq
    have hr : zxOk e n = true := by unfold zxOk; simp [hz]
    obtain ⟨rfl, rfl⟩ := hz
    rw [hr]
    clear h0 h2 hr
    go_enter Tryz.func80, Tryz.ntmps80
    go_wp2
    go_ret
    exact ⟨rfl, hB _⟩
  · rw [decide_eq_false hz] at hq
    have hr : zxOk e n = decide (1 ≤ e ∧ e ≤ 2147483647 ∧ 1 ≤ n) := by
      unfold zxOk; congr 1; simp; exact fun h1 h2 => absurd ⟨h1, h2⟩ hz
    rw [hr]
    have HZ : Hid (¬ (e = 0 ∧ n = 0)) := hz
    clear hz hr
    go_enter Tryz.func80, Tryz.ntmps80
    go_wp2
    all_goals (go_ret; refine ⟨?_, hB _⟩; simp [*]; try omega)

section
variable (p : PkD) (tc : List Value) (bv : Value) (w : World)

theorem rtConn : Calls Tryz.prog 54 #[.agg (pkL p tc bv).toArray] w fun r w' => r = .returned (.bool (connB p.cb p.ct)) ∧ Below w.heap.size w w' := by
  obtain ⟨W, HE, HW⟩ := pk_box p tc bv w
  have c1 : W.cell? ⟨w.heap.size, 1, none⟩ = some (.int .u32 p.cb) := pk_at HW.out.2 rfl
  have c2 : W.cell? ⟨w.heap.size, 2, none⟩ = some (.int .u32 p.ct) := pk_at HW.out.2 rfl
  go_enter Tryz.func54, Tryz.ntmps54
  go_upto_region 1 with fail
  rw [← HE.out]
  clear HE
  go_wp2_with fail
  refine (isConn_any _ _ _).mono ?_
  rintro _ w1 ⟨rfl, b1⟩
  have HB : Hid (Below w.heap.size w w1) := HW.out.1.trans (b1.mono HW.out.1.size)
  clear b1 c1 c2
  go_wp2_with fail
  go_ret
  exact ⟨rfl, HB.out⟩

theorem rtLead : Calls Tryz.prog 60 #[.agg (pkL p tc bv).toArray] w fun r w' => r = .returned (.bool (connB p.lb p.lt)) ∧ Below w.heap.size w w' := by
  obtain ⟨W, HE, HW⟩ := pk_box p tc bv w
  have c3 : W.cell? ⟨w.heap.size, 3, none⟩ = some (.int .u32 p.lb) := pk_at HW.out.2 rfl
  have c4 : W.cell? ⟨w.heap.size, 4, none⟩ = some (.int .u32 p.lt) := pk_at HW.out.2 rfl
  go_enter Tryz.func60, Tryz.ntmps60
  go_upto_region 1 with fail
  rw [← HE.out]
  clear HE
  go_wp2_with fail
  refine (isConn_any _ _ _).mono ?_
  rintro _ w1 ⟨rfl, b1⟩
  have HB : Hid (Below w.heap.size w w1) := HW.out.1.trans (b1.mono HW.out.1.size)
  clear b1 c3 c4
  go_wp2_with fail
  go_ret
  exact ⟨rfl, HB.out⟩

theorem rtPlace : Calls Tryz.prog 63 #[.agg (pkL p tc bv).toArray] w fun r w' => r = .returned (.bool (decide (0 ≤ p.place))) ∧ Below w.heap.size w w' := by
  obtain ⟨W, HE, HW⟩ := pk_box p tc bv w
  have c5 : W.cell? ⟨w.heap.size, 5, none⟩ = some (.int .i64 p.place) := pk_at HW.out.2 rfl
  go_enter Tryz.func63, Tryz.ntmps63
  go_upto_region 1 with fail
  rw [← HE.out]
  clear HE
  go_wp2_with fail
  all_goals (go_ret; exact ⟨rfl, HW.out.1⟩)

def epB (p : PkD) : Bool := decide (p.ep ≤ 2147483647 ∧ (1 ≤ p.ep ∨ p.kind = 1))

theorem rtEpoch : Calls Tryz.prog 68 #[.agg (pkL p tc bv).toArray] w fun r w' => r = .returned (.bool (epB p)) ∧ Below w.heap.size w w' := by
  obtain ⟨W, HE, HW⟩ := pk_box p tc bv w
  have c6 : W.cell? ⟨w.heap.size, 6, none⟩ = some (.int .u32 p.ep) := pk_at HW.out.2 rfl
  have c0 : W.cell? ⟨w.heap.size, 0, none⟩ = some (.int .i8 p.kind) := pk_at HW.out.2 rfl
  go_enter Tryz.func68, Tryz.ntmps68
  go_upto_region 1 with fail
  rw [← HE.out]
  clear HE
  by_cases h1 : p.ep ≤ 2147483647
  · by_cases h2 : 1 ≤ p.ep
    · have HR : Hid (epB p = true) := by show epB p = true; unfold epB; simp [h1, h2]
      go_wp2_with fail
      all_goals (go_ret; exact ⟨by rw [HR.out]; rfl, HW.out.1⟩)
    · by_cases h3 : p.kind = 1
      · have HR : Hid (epB p = true) := by show epB p = true; unfold epB; simp [h1, h3]
        rw [h3] at c0
        clear h3
        go_wp2_with fail
        all_goals (go_ret; exact ⟨by rw [HR.out]; rfl, HW.out.1⟩)
      · have HR : Hid (epB p = false) := by show epB p = false; unfold epB; simp [h1, h3]; omega
        have h3' : (p.kind == 1) = false := by simp [h3]
        go_wp2_with fail
        all_goals (go_ret; exact ⟨by rw [HR.out]; rfl, HW.out.1⟩)
  · have HR : Hid (epB p = false) := by show epB p = false; unfold epB; simp [h1]
    go_wp2_with fail
    all_goals (go_ret; exact ⟨by rw [HR.out]; rfl, HW.out.1⟩)

theorem rtCur : Calls Tryz.prog 73 #[.agg (pkL p tc bv).toArray] w fun r w' => r = .returned (.bool (decide (p.cur ≤ 2147483647))) ∧ Below w.heap.size w w' := by
  obtain ⟨W, HE, HW⟩ := pk_box p tc bv w
  have c7 : W.cell? ⟨w.heap.size, 7, none⟩ = some (.int .u32 p.cur) := pk_at HW.out.2 rfl
  go_enter Tryz.func73, Tryz.ntmps73
  go_upto_region 1 with fail
  rw [← HE.out]
  clear HE
  go_wp2_with fail
  all_goals (go_ret; exact ⟨rfl, HW.out.1⟩)

def zxB (p : PkD) : Bool := zxOk p.ze p.zn && !(decide (p.kind = 11 ∨ p.kind = 12) && decide (p.ze = 0 ∧ p.zn = 0))

theorem rtZxid (hg : p.good) : Calls Tryz.prog 76 #[.agg (pkL p tc bv).toArray] w fun r w' => r = .returned (.bool (zxB p)) ∧ Below w.heap.size w w' := by
  obtain ⟨W, HE, HW⟩ := pk_box p tc bv w
  have c0 : W.cell? ⟨w.heap.size, 0, none⟩ = some (.int .i8 p.kind) := pk_at HW.out.2 rfl
  have c8 : W.cell? ⟨w.heap.size, 8, none⟩ = some (.int .u32 p.ze) := pk_at HW.out.2 rfl
  have c9 : W.cell? ⟨w.heap.size, 9, none⟩ = some (.int .u32 p.zn) := pk_at HW.out.2 rfl
  go_enter Tryz.func76, Tryz.ntmps76
  go_upto_region 1 with fail
  rw [← HE.out]
  clear HE
  have hgt : Tryz.prog.eqGuardType Tryz.prog.depth 27 = false := by kernel_rfl
  have HZ := eqZx p.ze p.zn 0 0
  by_cases k1 : p.kind = 11
  · have DK : decide (p.kind = 11 ∨ p.kind = 12) = true := decide_eq_true (.inl k1)
    rw [k1] at c0
    have HK : Hid _ := DK
    clear k1 DK
    go_wp2_with fail
    refine (isZxidP_any _ _ _ hg.ze0 hg.zn0).mono ?_
    rintro _ w1 ⟨rfl, b1⟩
    have HB : Hid (Below w.heap.size w w1 ∧ PkAt w1 w.heap.size p tc bv) := ⟨HW.out.1.trans (b1.mono HW.out.1.size), HW.out.2.later b1 HW.out.2.lt⟩
    have c8 : w1.cell? ⟨w.heap.size, 8, none⟩ = some (.int .u32 p.ze) := pk_at HB.out.2 rfl
    have c9 : w1.cell? ⟨w.heap.size, 9, none⟩ = some (.int .u32 p.zn) := pk_at HB.out.2 rfl
    clear b1
    obtain ⟨z, hz⟩ : ∃ z, z = zxOk p.ze p.zn := ⟨_, rfl⟩
    rw [← hz]
    have HZX : Hid _ := hz
    clear hz
    cases z
    · have HR : Hid (zxB p = false) := by show zxB p = false; unfold zxB; rw [← HZX.out]; rfl
      go_wp2_with fail
      all_goals (go_ret; exact ⟨by rw [HR.out]; rfl, HB.out.1⟩)
    · by_cases hz : p.ze = 0 ∧ p.zn = 0
      · have HR : Hid (zxB p = false) := by show zxB p = false; unfold zxB; rw [← HZX.out, decide_eq_true hz, HK.out]; rfl
        rw [decide_eq_true hz] at HZ
        go_wp2_with fail
        all_goals (go_ret; exact ⟨by rw [HR.out]; rfl, HB.out.1⟩)
      · have HR : Hid (zxB p = true) := by show zxB p = true; unfold zxB; rw [← HZX.out, decide_eq_false hz, HK.out]; rfl
        rw [decide_eq_false hz] at HZ
        go_wp2_with fail
        all_goals (go_ret; exact ⟨by rw [HR.out]; rfl, HB.out.1⟩)
  · by_cases k2 : p.kind = 12
    · have DK : decide (p.kind = 11 ∨ p.kind = 12) = true := decide_eq_true (.inr k2)
      rw [k2] at c0
      have HK : Hid _ := DK
      clear k1 k2 DK
      go_wp2_with fail
      refine (isZxidP_any _ _ _ hg.ze0 hg.zn0).mono ?_
      rintro _ w1 ⟨rfl, b1⟩
      have HB : Hid (Below w.heap.size w w1 ∧ PkAt w1 w.heap.size p tc bv) := ⟨HW.out.1.trans (b1.mono HW.out.1.size), HW.out.2.later b1 HW.out.2.lt⟩
      have c8 : w1.cell? ⟨w.heap.size, 8, none⟩ = some (.int .u32 p.ze) := pk_at HB.out.2 rfl
      have c9 : w1.cell? ⟨w.heap.size, 9, none⟩ = some (.int .u32 p.zn) := pk_at HB.out.2 rfl
      clear b1
      obtain ⟨z, hz⟩ : ∃ z, z = zxOk p.ze p.zn := ⟨_, rfl⟩
      rw [← hz]
      have HZX : Hid _ := hz
      clear hz
      cases z
      · have HR : Hid (zxB p = false) := by show zxB p = false; unfold zxB; rw [← HZX.out]; rfl
        go_wp2_with fail
        all_goals (go_ret; exact ⟨by rw [HR.out]; rfl, HB.out.1⟩)
      · by_cases hz : p.ze = 0 ∧ p.zn = 0
        · have HR : Hid (zxB p = false) := by show zxB p = false; unfold zxB; rw [← HZX.out, decide_eq_true hz, HK.out]; rfl
          rw [decide_eq_true hz] at HZ
          go_wp2_with fail
          all_goals (go_ret; exact ⟨by rw [HR.out]; rfl, HB.out.1⟩)
        · have HR : Hid (zxB p = true) := by show zxB p = true; unfold zxB; rw [← HZX.out, decide_eq_false hz, HK.out]; rfl
          rw [decide_eq_false hz] at HZ
          go_wp2_with fail
          all_goals (go_ret; exact ⟨by rw [HR.out]; rfl, HB.out.1⟩)
    · have DK : decide (p.kind = 11 ∨ p.kind = 12) = false := decide_eq_false (fun h => h.elim k1 k2)
      have k1' : (p.kind == 11) = false := by simp [k1]
      have k2' : (p.kind == 12) = false := by simp [k2]
      have HK : Hid _ := DK
      clear k1 k2 DK
      go_wp2_with fail
      refine (isZxidP_any _ _ _ hg.ze0 hg.zn0).mono ?_
      rintro _ w1 ⟨rfl, b1⟩
      have HB : Hid (Below w.heap.size w w1 ∧ PkAt w1 w.heap.size p tc bv) := ⟨HW.out.1.trans (b1.mono HW.out.1.size), HW.out.2.later b1 HW.out.2.lt⟩
      have c8 : w1.cell? ⟨w.heap.size, 8, none⟩ = some (.int .u32 p.ze) := pk_at HB.out.2 rfl
      have c9 : w1.cell? ⟨w.heap.size, 9, none⟩ = some (.int .u32 p.zn) := pk_at HB.out.2 rfl
      clear b1
      obtain ⟨z, hz⟩ : ∃ z, z = zxOk p.ze p.zn := ⟨_, rfl⟩
      rw [← hz]
      have HZX : Hid _ := hz
      clear hz
      cases z
      · have HR : Hid (zxB p = false) := by show zxB p = false; unfold zxB; rw [← HZX.out]; rfl
        go_wp2_with fail
        all_goals (go_ret; exact ⟨by rw [HR.out]; rfl, HB.out.1⟩)
      · by_cases hz : p.ze = 0 ∧ p.zn = 0
        · have HR : Hid (zxB p = true) := by show zxB p = true; unfold zxB; rw [← HZX.out, decide_eq_true hz, HK.out]; rfl
          rw [decide_eq_true hz] at HZ
          go_wp2_with fail
          all_goals (go_ret; exact ⟨by rw [HR.out]; rfl, HB.out.1⟩)
        · have HR : Hid (zxB p = true) := by show zxB p = true; unfold zxB; rw [← HZX.out, decide_eq_false hz, HK.out]; rfl
          rw [decide_eq_false hz] at HZ
          go_wp2_with fail
          all_goals (go_ret; exact ⟨by rw [HR.out]; rfl, HB.out.1⟩)

theorem rtPrev (hg : p.good) : Calls Tryz.prog 79 #[.agg (pkL p tc bv).toArray] w fun r w' => r = .returned (.bool (zxOk p.pe p.pn)) ∧ Below w.heap.size w w' := by
  obtain ⟨W, HE, HW⟩ := pk_box p tc bv w
  have c10 : W.cell? ⟨w.heap.size, 10, none⟩ = some (.int .u32 p.pe) := pk_at HW.out.2 rfl
  have c11 : W.cell? ⟨w.heap.size, 11, none⟩ = some (.int .u32 p.pn) := pk_at HW.out.2 rfl
  go_enter Tryz.func79, Tryz.ntmps79
  go_upto_region 1 with fail
  rw [← HE.out]
  clear HE
  go_wp2_with fail
  refine (isZxidP_any _ _ _ hg.pe0 hg.pn0).mono ?_
  rintro _ w1 ⟨rfl, b1⟩
  have HB : Hid (Below w.heap.size w w1) := HW.out.1.trans (b1.mono HW.out.1.size)
  clear b1 c10 c11
  go_wp2_with fail
  go_ret
  exact ⟨rfl, HB.out⟩

theorem rtAny : Calls Tryz.prog 83 #[.agg (pkL p tc bv).toArray] w fun r w' => r = .returned (.bool (true)) ∧ Below w.heap.size w w' := by
  obtain ⟨W, HE, HW⟩ := pk_box p tc bv w

  go_enter Tryz.func83, Tryz.ntmps83
  go_upto_region 1 with fail
  rw [← HE.out]
  clear HE
  go_wp2_with fail
  all_goals (go_ret; exact ⟨rfl, HW.out.1⟩)

theorem rtBytes (hv : Sees w bv p.bys) (hl : tc.length = 16) : Calls Tryz.prog 93 #[.agg (pkL p tc bv).toArray] w fun r w' => r = .returned (.bool (decide (1 ≤ p.bys.length ∧ p.bys.length ≤ 4096))) ∧ Below w.heap.size w w' := by
  obtain ⟨W, HE, HW⟩ := pk_box p tc bv w
  have c30 := (HW.out.2.tail hl).2.1
  obtain ⟨ao, cap, rfl, hlc, hcm, _⟩ := hv
  by_cases h1 : 1 ≤ p.bys.length
  · by_cases h2 : p.bys.length ≤ 4096
    · have h2' : decide ((p.bys.length : Int) ≤ 4096) = true := decide_eq_true (by omega)
      rw [decide_eq_true (⟨h1, h2⟩ : 1 ≤ p.bys.length ∧ p.bys.length ≤ 4096)]
      go_enter Tryz.func93, Tryz.ntmps93
      go_upto_region 1 with fail
      rw [← HE.out]
      clear HE
      go_wp2_with fail
      all_goals (go_ret; exact ⟨by first | rfl | (rw [← h2']; rfl), HW.out.1⟩)
    · have h2' : decide ((p.bys.length : Int) ≤ 4096) = false := decide_eq_false (by omega)
      rw [decide_eq_false (fun h => h2 h.2 : ¬ (1 ≤ p.bys.length ∧ p.bys.length ≤ 4096))]
      go_enter Tryz.func93, Tryz.ntmps93
      go_upto_region 1 with fail
      rw [← HE.out]
      clear HE
      go_wp2_with fail
      all_goals (go_ret; exact ⟨by first | rfl | (rw [← h2']; rfl), HW.out.1⟩)
  · rw [decide_eq_false (fun h => h1 h.1 : ¬ (1 ≤ p.bys.length ∧ p.bys.length ≤ 4096))]
    go_enter Tryz.func93, Tryz.ntmps93
    go_upto_region 1 with fail
    rw [← HE.out]
    clear HE
    go_wp2_with fail
    all_goals (go_ret; exact ⟨rfl, HW.out.1⟩)

theorem rtSes (hl : tc.length = 16) : Calls Tryz.prog 98 #[.agg (pkL p tc bv).toArray] w fun r w' => r = .returned (.bool (decide (1 ≤ p.ses))) ∧ Below w.heap.size w w' := by
  obtain ⟨W, HE, HW⟩ := pk_box p tc bv w
  have c31 := (HW.out.2.tail hl).2.2
  go_enter Tryz.func98, Tryz.ntmps98
  go_upto_region 1 with fail
  rw [← HE.out]
  clear HE
  go_wp2_with fail
  all_goals (go_ret; exact ⟨rfl, HW.out.1⟩)
end
end Go.Proofs.YtgjjcmhlmdfccaaGreatDoor
