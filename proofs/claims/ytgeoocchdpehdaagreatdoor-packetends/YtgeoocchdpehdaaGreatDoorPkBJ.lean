import Derived.Test.YtgeoocchdpehdaaGreatDoorChkTJ
import Derived.Deep.CutRange
import Derived.Deep.DeepCutAuto
import Derived.Test.YtgeoocchdpehdaaGreatDoorProg
import Derived.Test.YtgeoocchdpehdaaGreatDoorMemJ
import Derived.Test.YtgeoocchdpehdaaGreatDoorEqQJ
import Derived.Maps.AppendAt
import Derived.Deep.RegionHeld2
import Derived.Deep.RegionLaw
namespace Go.Proofs.YtgeoocchdpehdaaGreatDoor
open Go.RowKit
set_option maxRecDepth 8000

structure PkD where
  kind : Int
  cb : Int
  ct : Int
  lb : Int
  lt : Int
  place : Int
  ep : Int
  cur : Int
  ze : Int
  zn : Int
  pe : Int
  pn : Int
  cnt : Bool
  fin : Bool
  tx : TxD
  bys : List Int
  ses : Int

structure PkD.good (p : PkD) : Prop where
  k0 : -128 ≤ p.kind
  k1 : p.kind ≤ 127
  cb0 : 0 ≤ p.cb
  cb1 : p.cb ≤ 4294967295
  ct0 : 0 ≤ p.ct
  ct1 : p.ct ≤ 4294967295
  lb0 : 0 ≤ p.lb
  lb1 : p.lb ≤ 4294967295
  lt0 : 0 ≤ p.lt
  lt1 : p.lt ≤ 4294967295
  pl0 : -9223372036854775808 ≤ p.place
  pl1 : p.place ≤ 9223372036854775807
  ep0 : 0 ≤ p.ep
  ep1 : p.ep ≤ 4294967295
  cu0 : 0 ≤ p.cur
  cu1 : p.cur ≤ 4294967295
  ze0 : 0 ≤ p.ze
  ze1 : p.ze ≤ 4294967295
  zn0 : 0 ≤ p.zn
  zn1 : p.zn ≤ 4294967295
  pe0 : 0 ≤ p.pe
  pe1 : p.pe ≤ 4294967295
  pn0 : 0 ≤ p.pn
  pn1 : p.pn ≤ 4294967295
  tx : p.tx.good
  se0 : -9223372036854775808 ≤ p.ses
  se1 : p.ses ≤ 9223372036854775807

def pkL (p : PkD) (tc : List Value) (bv : Value) : List Value :=
  .int .i8 p.kind :: .int .u32 p.cb :: .int .u32 p.ct :: .int .u32 p.lb :: .int .u32 p.lt :: .int .i64 p.place :: .int .u32 p.ep :: .int .u32 p.cur :: .int .u32 p.ze :: .int .u32 p.zn :: .int .u32 p.pe :: .int .u32 p.pn :: .bool p.cnt :: .bool p.fin :: (tc ++ [bv, .int .i64 p.ses])

structure SeesPk (w : World) (tc : List Value) (bv : Value) (p : PkD) : Prop where
  tx : SeesTx w tc p.tx
  bys : Sees w bv p.bys
  byt : Byts p.bys

theorem SeesPk.below {B : Nat} {w w' : World} {tc : List Value} {bv : Value} {p : PkD} (h : SeesPk w tc bv p) (hb : Below B w w') (hB : w.heap.size ≤ B) : SeesPk w' tc bv p :=
  ⟨h.tx.below hb hB, h.bys.below hb hB, h.byt⟩

theorem pk_at {W : World} {b i : Nat} {cs : Array Value} {t : TypeId} {v : Value} (h : W.heap[b]? = some (.cells cs t (0, 0))) (hv : cs[i]? = some v) : W.cell? ⟨b, i, none⟩ = some v := by rw [cell_of_row _ _ _ _ _ _ h]; exact hv

def PkAt (W : World) (g : Nat) (p : PkD) (tc : List Value) (bv : Value) : Prop := W.heap[g]? = some (.cells (pkL p tc bv).toArray 39 (0, 0))

theorem PkAt.tail {W : World} {g : Nat} {p : PkD} {tc : List Value} {bv : Value} (h : PkAt W g p tc bv) (hl : tc.length = 16) : W.rangeAt g 14 tc ∧ W.cell? ⟨g, 30, none⟩ = some bv ∧ W.cell? ⟨g, 31, none⟩ = some (.int .i64 p.ses) := by
  refine ⟨fun j v hj => ?_, pk_at h ?_, pk_at h ?_⟩
  · rw [cell_of_row _ _ _ _ _ _ h, List.getElem?_toArray, show 14 + j = j + 14 by omega]
    show (tc ++ [bv, .int .i64 p.ses])[j]? = some v
    rw [List.getElem?_append_left (by have := List.getElem?_eq_some_iff.1 hj; exact this.1)]
    exact hj
  · rw [List.getElem?_toArray]
    show (tc ++ [bv, .int .i64 p.ses])[16]? = some bv
    rw [List.getElem?_append_right (by omega), hl]; rfl
  · rw [List.getElem?_toArray]
    show (tc ++ [bv, .int .i64 p.ses])[17]? = some (.int .i64 p.ses)
    rw [List.getElem?_append_right (by omega), hl]; rfl

theorem PkAt.later {W W' : World} {g : Nat} {p : PkD} {tc : List Value} {bv : Value} (h : PkAt W g p tc bv) {B : Nat} (hb : Below B W W') (hB : g < B) : PkAt W' g p tc bv := (Below.kept hb).heap h (by omega)
theorem PkAt.lt {W : World} {g : Nat} {p : PkD} {tc : List Value} {bv : Value} (h : PkAt W g p tc bv) : g < W.heap.size := lt_of_block h

theorem pk_box (p : PkD) (tc : List Value) (bv : Value) (w : World) : ∃ W, Hid (W = w.alloc (.cells (pkL p tc bv).toArray 39)) ∧ Hid (Below w.heap.size w W ∧ PkAt W w.heap.size p tc bv) :=
  ⟨_, rfl, one_alloc _ _, heap_alloc_new _ _⟩

def connB (b t : Int) : Bool := decide (1 ≤ b ∧ 1 ≤ t)

theorem isConn_any (b t : Int) (w : World) : Calls Tryz.prog 58 #[.agg #[.int .u32 b, .int .u32 t]] w fun r w' => r = .returned (.bool (connB b t)) ∧ Below w.heap.size w w' := by
  have hB := one_alloc w
  go_enter Tryz.func58, Tryz.ntmps58
  go_wp2
  all_goals (go_ret; refine ⟨?_, hB _⟩; unfold connB; simp [*]; try omega)

set_option maxHeartbeats 400000 in
theorem isZxidP_any (e n : Int) (w : World) (h0 : 0 ≤ e) (h2 : 0 ≤ n) :
    Calls Tryz.prog 81 #[zx e n] w fun r w' => r = .returned (.bool (zxOk e n)) ∧ Below w.heap.size w w' := by
  have hg : Tryz.prog.eqGuardType Tryz.prog.depth 27 = false := by kernel_rfl
  have hB := one_alloc w
  have hq := eqZx e n 0 0
  by_cases hz : e = 0 ∧ n = 0
  · rw [decide_eq_true hz] at hq
    have hr : zxOk e n = true := by unfold zxOk; simp [hz]
    obtain ⟨rfl, rfl⟩ := hz
    rw [hr]
    clear h0 h2 hr
    go_enter Tryz.func81, Tryz.ntmps81
    go_wp2
    go_ret
    exact ⟨rfl, hB _⟩
  · rw [decide_eq_false hz] at hq
    have hr : zxOk e n = decide (1 ≤ e ∧ e ≤ 2147483647 ∧ 1 ≤ n) := by
      unfold zxOk; congr 1; simp; exact fun h1 h2 => absurd ⟨h1, h2⟩ hz
    rw [hr]
    have HZ : Hid (¬ (e = 0 ∧ n = 0)) := hz
    clear hz hr
    go_enter Tryz.func81, Tryz.ntmps81
    go_wp2
    all_goals (go_ret; refine ⟨?_, hB _⟩; simp [*]; try omega)

section
variable (p : PkD) (tc : List Value) (bv : Value) (w : World)

theorem rtConn : Calls Tryz.prog 57 #[.agg (pkL p tc bv).toArray] w fun r w' => r = .returned (.bool (connB p.cb p.ct)) ∧ Below w.heap.size w w' := by
  obtain ⟨W, HE, HW⟩ := pk_box p tc bv w
  have c1 : W.cell? ⟨w.heap.size, 1, none⟩ = some (.int .u32 p.cb) := pk_at HW.out.2 rfl
  have c2 : W.cell? ⟨w.heap.size, 2, none⟩ = some (.int .u32 p.ct) := pk_at HW.out.2 rfl
  go_enter Tryz.func57, Tryz.ntmps57
  go_upto_region 1 with fail
  rw [← HE.out]
  clear HE
  go_wp2_with fail
  refine (isConn_any _ _ _).mono ?_
  rintro _ w1 ⟨rfl, b1⟩
  have HB : Hid (Below w.heap.size w w1) := HW.out.1.trans (b1.mono HW.out.1.size)
  clear b1 c1 c2
  go_wp2_with fail
  go_ret
  exact ⟨rfl, HB.out⟩

theorem rtLead : Calls Tryz.prog 63 #[.agg (pkL p tc bv).toArray] w fun r w' => r = .returned (.bool (connB p.lb p.lt)) ∧ Below w.heap.size w w' := by
  obtain ⟨W, HE, HW⟩ := pk_box p tc bv w
  have c3 : W.cell? ⟨w.heap.size, 3, none⟩ = some (.int .u32 p.lb) := pk_at HW.out.2 rfl
  have c4 : W.cell? ⟨w.heap.size, 4, none⟩ = some (.int .u32 p.lt) := pk_at HW.out.2 rfl
  go_enter Tryz.func63, Tryz.ntmps63
  go_upto_region 1 with fail
  rw [← HE.out]
  clear HE
  go_wp2_with fail
  refine (isConn_any _ _ _).mono ?_
  rintro _ w1 ⟨rfl, b1⟩
  have HB : Hid (Below w.heap.size w w1) := HW.out.1.trans (b1.mono HW.out.1.size)
  clear b1 c3 c4
  go_wp2_with fail
  go_ret
  exact ⟨rfl, HB.out⟩

theorem rtPlace : Calls Tryz.prog 66 #[.agg (pkL p tc bv).toArray] w fun r w' => r = .returned (.bool (decide (0 ≤ p.place))) ∧ Below w.heap.size w w' := by
  obtain ⟨W, HE, HW⟩ := pk_box p tc bv w
  have c5 : W.cell? ⟨w.heap.size, 5, none⟩ = some (.int .i64 p.place) := pk_at HW.out.2 rfl
  go_enter Tryz.func66, Tryz.ntmps66
  go_upto_region 1 with fail
  rw [← HE.out]
  clear HE
  go_wp2_with fail
  all_goals (go_ret; exact ⟨rfl, HW.out.1⟩)

def epB (p : PkD) : Bool := decide (p.ep ≤ 2147483647 ∧ (1 ≤ p.ep ∨ p.kind = 1))

theorem rtEpoch : Calls Tryz.prog 71 #[.agg (pkL p tc bv).toArray] w fun r w' => r = .returned (.bool (epB p)) ∧ Below w.heap.size w w' := by
  obtain ⟨W, HE, HW⟩ := pk_box p tc bv w
  have c6 : W.cell? ⟨w.heap.size, 6, none⟩ = some (.int .u32 p.ep) := pk_at HW.out.2 rfl
  have c0 : W.cell? ⟨w.heap.size, 0, none⟩ = some (.int .i8 p.kind) := pk_at HW.out.2 rfl
  go_enter Tryz.func71, Tryz.ntmps71
  go_upto_region 1 with fail
  rw [← HE.out]
  clear HE
  by_cases h1 : p.ep ≤ 2147483647
  · by_cases h2 : 1 ≤ p.ep
    · have HR : Hid (epB p = true) := by show epB p = true; unfold epB; simp [h1, h2]
      go_wp2_with fail
      all_goals (go_ret; exact ⟨by rw [HR.out]; rfl, HW.out.1⟩)
    · by_cases h3 : p.kind = 1
      · have HR : Hid (epB p = true) := by show epB p = true; unfold epB; simp [h1, h3]
        rw [h3] at c0
        clear h3
        go_wp2_with fail
        all_goals (go_ret; exact ⟨by rw [HR.out]; rfl, HW.out.1⟩)
      · have HR : Hid (epB p = false) := by show epB p = false; unfold epB; simp [h1, h3]; omega
        have h3' : (p.kind == 1) = false := by simp [h3]
        go_wp2_with fail
        all_goals (go_ret; exact ⟨by rw [HR.out]; rfl, HW.out.1⟩)
  · have HR : Hid (epB p = false) := by show epB p = false; unfold epB; simp [h1]
    go_wp2_with fail
    all_goals (go_ret; exact ⟨by rw [HR.out]; rfl, HW.out.1⟩)

theorem rtCur : Calls Tryz.prog 74 #[.agg (pkL p tc bv).toArray] w fun r w' => r = .returned (.bool (decide (p.cur ≤ 2147483647))) ∧ Below w.heap.size w w' := by
  obtain ⟨W, HE, HW⟩ := pk_box p tc bv w
  have c7 : W.cell? ⟨w.heap.size, 7, none⟩ = some (.int .u32 p.cur) := pk_at HW.out.2 rfl
  go_enter Tryz.func74, Tryz.ntmps74
  go_upto_region 1 with fail
  rw [← HE.out]
  clear HE
  go_wp2_with fail
  all_goals (go_ret; exact ⟨rfl, HW.out.1⟩)

def zxB (p : PkD) : Bool := zxOk p.ze p.zn && !(decide (p.kind = 11 ∨ p.kind = 12) && decide (p.ze = 0 ∧ p.zn = 0))

theorem rtZxid (hg : p.good) : Calls Tryz.prog 77 #[.agg (pkL p tc bv).toArray] w fun r w' => r = .returned (.bool (zxB p)) ∧ Below w.heap.size w w' := by
  obtain ⟨W, HE, HW⟩ := pk_box p tc bv w
  have c0 : W.cell? ⟨w.heap.size, 0, none⟩ = some (.int .i8 p.kind) := pk_at HW.out.2 rfl
  have c8 : W.cell? ⟨w.heap.size, 8, none⟩ = some (.int .u32 p.ze) := pk_at HW.out.2 rfl
  have c9 : W.cell? ⟨w.heap.size, 9, none⟩ = some (.int .u32 p.zn) := pk_at HW.out.2 rfl
  go_enter Tryz.func77, Tryz.ntmps77
  go_upto_region 1 with fail
  rw [← HE.out]
  clear HE
  have hgt : Tryz.prog.eqGuardType Tryz.prog.depth 27 = false := by kernel_rfl
  have HZ := eqZx p.ze p.zn 0 0
  by_cases k1 : p.kind = 11
  · have DK : decide (p.kind = 11 ∨ p.kind = 12) = true := decide_eq_true (.inl k1)
    rw [k1] at c0
    have HK : Hid _ := DK
    clear k1 DK
    go_wp2_with fail
    refine (isZxidP_any _ _ _ hg.ze0 hg.zn0).mono ?_
    rintro _ w1 ⟨rfl, b1⟩
    have HB : Hid (Below w.heap.size w w1 ∧ PkAt w1 w.heap.size p tc bv) := ⟨HW.out.1.trans (b1.mono HW.out.1.size), HW.out.2.later b1 HW.out.2.lt⟩
    have c8 : w1.cell? ⟨w.heap.size, 8, none⟩ = some (.int .u32 p.ze) := pk_at HB.out.2 rfl
    have c9 : w1.cell? ⟨w.heap.size, 9, none⟩ = some (.int .u32 p.zn) := pk_at HB.out.2 rfl
    clear b1
    obtain ⟨z, hz⟩ : ∃ z, z = zxOk p.ze p.zn := ⟨_, rfl⟩
    rw [← hz]
    have HZX : Hid _ := hz
    clear hz
    cases z
    · have HR : Hid (zxB p = false) := by show zxB p = false; unfold zxB; rw [← HZX.out]; rfl
      go_wp2_with fail
      all_goals (go_ret; exact ⟨by rw [HR.out]; rfl, HB.out.1⟩)
    · by_cases hz : p.ze = 0 ∧ p.zn = 0
      · have HR : Hid (zxB p = false) := by show zxB p = false; unfold zxB; rw [← HZX.out, decide_eq_true hz, HK.out]; rfl
        rw [decide_eq_true hz] at HZ
        go_wp2_with fail
        all_goals (go_ret; exact ⟨by rw [HR.out]; rfl, HB.out.1⟩)
      · have HR : Hid (zxB p = true) := by show zxB p = true; unfold zxB; rw [← HZX.out, decide_eq_false hz, HK.out]; rfl
        rw [decide_eq_false hz] at HZ
        go_wp2_with fail
        all_goals (go_ret; exact ⟨by rw [HR.out]; rfl, HB.out.1⟩)
  · by_cases k2 : p.kind = 12
    · have DK : decide (p.kind = 11 ∨ p.kind = 12) = true := decide_eq_true (.inr k2)
      rw [k2] at c0
      have HK : Hid _ := DK
      clear k1 k2 DK
      go_wp2_with fail
      refine (isZxidP_any _ _ _ hg.ze0 hg.zn0).mono ?_
      rintro _ w1 ⟨rfl, b1⟩
      have HB : Hid (Below w.heap.size w w1 ∧ PkAt w1 w.heap.size p tc bv) := ⟨HW.out.1.trans (b1.mono HW.out.1.size), HW.out.2.later b1 HW.out.2.lt⟩
      have c8 : w1.cell? ⟨w.heap.size, 8, none⟩ = some (.int .u32 p.ze) := pk_at HB.out.2 rfl
      have c9 : w1.cell? ⟨w.heap.size, 9, none⟩ = some (.int .u32 p.zn) := pk_at HB.out.2 rfl
      clear b1
      obtain ⟨z, hz⟩ : ∃ z, z = zxOk p.ze p.zn := ⟨_, rfl⟩
      rw [← hz]
      have HZX : Hid _ := hz
      clear hz
      cases z
      · have HR : Hid (zxB p = false) := by show zxB p = false; unfold zxB; rw [← HZX.out]; rfl
        go_wp2_with fail
        all_goals (go_ret; exact ⟨by rw [HR.out]; rfl, HB.out.1⟩)
      · by_cases hz : p.ze = 0 ∧ p.zn = 0
        · have HR : Hid (zxB p = false) := by show zxB p = false; unfold zxB; rw [← HZX.out, decide_eq_true hz, HK.out]; rfl
          rw [decide_eq_true hz] at HZ
          go_wp2_with fail
          all_goals (go_ret; exact ⟨by rw [HR.out]; rfl, HB.out.1⟩)
        · have HR : Hid (zxB p = true) := by show zxB p = true; unfold zxB; rw [← HZX.out, decide_eq_false hz, HK.out]; rfl
          rw [decide_eq_false hz] at HZ
          go_wp2_with fail
          all_goals (go_ret; exact ⟨by rw [HR.out]; rfl, HB.out.1⟩)
    · have DK : decide (p.kind = 11 ∨ p.kind = 12) = false := decide_eq_false (fun h => h.elim k1 k2)
      have k1' : (p.kind == 11) = false := by simp [k1]
      have k2' : (p.kind == 12) = false := by simp [k2]
      have HK : Hid _ := DK
      clear k1 k2 DK
      go_wp2_with fail
      refine (isZxidP_any _ _ _ hg.ze0 hg.zn0).mono ?_
      rintro _ w1 ⟨rfl, b1⟩
      have HB : Hid (Below w.heap.size w w1 ∧ PkAt w1 w.heap.size p tc bv) := ⟨HW.out.1.trans (b1.mono HW.out.1.size), HW.out.2.later b1 HW.out.2.lt⟩
      have c8 : w1.cell? ⟨w.heap.size, 8, none⟩ = some (.int .u32 p.ze) := pk_at HB.out.2 rfl
      have c9 : w1.cell? ⟨w.heap.size, 9, none⟩ = some (.int .u32 p.zn) := pk_at HB.out.2 rfl
      clear b1
      obtain ⟨z, hz⟩ : ∃ z, z = zxOk p.ze p.zn := ⟨_, rfl⟩
      rw [← hz]
      have HZX : Hid _ := hz
      clear hz
      cases z
      · have HR : Hid (zxB p = false) := by show zxB p = false; unfold zxB; rw [← HZX.out]; rfl
        go_wp2_with fail
        all_goals (go_ret; exact ⟨by rw [HR.out]; rfl, HB.out.1⟩)
      · by_cases hz : p.ze = 0 ∧ p.zn = 0
        · have HR : Hid (zxB p = true) := by show zxB p = true; unfold zxB; rw [← HZX.out, decide_eq_true hz, HK.out]; rfl
          rw [decide_eq_true hz] at HZ
          go_wp2_with fail
          all_goals (go_ret; exact ⟨by rw [HR.out]; rfl, HB.out.1⟩)
        · have HR : Hid (zxB p = true) := by show zxB p = true; unfold zxB; rw [← HZX.out, decide_eq_false hz, HK.out]; rfl
          rw [decide_eq_false hz] at HZ
          go_wp2_with fail
          all_goals (go_ret; exact ⟨by rw [HR.out]; rfl, HB.out.1⟩)

theorem rtPrev (hg : p.good) : Calls Tryz.prog 80 #[.agg (pkL p tc bv).toArray] w fun r w' => r = .returned (.bool (zxOk p.pe p.pn)) ∧ Below w.heap.size w w' := by
  obtain ⟨W, HE, HW⟩ := pk_box p tc bv w
  have c10 : W.cell? ⟨w.heap.size, 10, none⟩ = some (.int .u32 p.pe) := pk_at HW.out.2 rfl
  have c11 : W.cell? ⟨w.heap.size, 11, none⟩ = some (.int .u32 p.pn) := pk_at HW.out.2 rfl
  go_enter Tryz.func80, Tryz.ntmps80
  go_upto_region 1 with fail
  rw [← HE.out]
  clear HE
  go_wp2_with fail
  refine (isZxidP_any _ _ _ hg.pe0 hg.pn0).mono ?_
  rintro _ w1 ⟨rfl, b1⟩
  have HB : Hid (Below w.heap.size w w1) := HW.out.1.trans (b1.mono HW.out.1.size)
  clear b1 c10 c11
  go_wp2_with fail
  go_ret
  exact ⟨rfl, HB.out⟩

theorem rtAny : Calls Tryz.prog 84 #[.agg (pkL p tc bv).toArray] w fun r w' => r = .returned (.bool (true)) ∧ Below w.heap.size w w' := by
  obtain ⟨W, HE, HW⟩ := pk_box p tc bv w

  go_enter Tryz.func84, Tryz.ntmps84
  go_upto_region 1 with fail
  rw [← HE.out]
  clear HE
  go_wp2_with fail
  all_goals (go_ret; exact ⟨rfl, HW.out.1⟩)

theorem rtBytes (hv : Sees w bv p.bys) (hl : tc.length = 16) : Calls Tryz.prog 94 #[.agg (pkL p tc bv).toArray] w fun r w' => r = .returned (.bool (decide (1 ≤ p.bys.length ∧ p.bys.length ≤ 4096))) ∧ Below w.heap.size w w' := by
  obtain ⟨W, HE, HW⟩ := pk_box p tc bv w
  have c30 := (HW.out.2.tail hl).2.1
  obtain ⟨ao, cap, rfl, hlc, hcm, _⟩ := hv
  by_cases h1 : 1 ≤ p.bys.length
  · by_cases h2 : p.bys.length ≤ 4096
    · have h2' : decide ((p.bys.length : Int) ≤ 4096) = true := decide_eq_true (by omega)
      rw [decide_eq_true (⟨h1, h2⟩ : 1 ≤ p.bys.length ∧ p.bys.length ≤ 4096)]
      go_enter Tryz.func94, Tryz.ntmps94
      go_upto_region 1 with fail
      rw [← HE.out]
      clear HE
      go_wp2_with fail
      all_goals (go_ret; exact ⟨by first | rfl | (rw [← h2']; rfl), HW.out.1⟩)
    · have h2' : decide ((p.bys.length : Int) ≤ 4096) = false := decide_eq_false (by omega)
      rw [decide_eq_false (fun h => h2 h.2 : ¬ (1 ≤ p.bys.length ∧ p.bys.length ≤ 4096))]
      go_enter Tryz.func94, Tryz.ntmps94
      go_upto_region 1 with fail
      rw [← HE.out]
      clear HE
      go_wp2_with fail
      all_goals (go_ret; exact ⟨by first | rfl | (rw [← h2']; rfl), HW.out.1⟩)
  · rw [decide_eq_false (fun h => h1 h.1 : ¬ (1 ≤ p.bys.length ∧ p.bys.length ≤ 4096))]
    go_enter Tryz.func94, Tryz.ntmps94
    go_upto_region 1 with fail
    rw [← HE.out]
    clear HE
    go_wp2_with fail
    all_goals (go_ret; exact ⟨rfl, HW.out.1⟩)

theorem rtSes (hl : tc.length = 16) : Calls Tryz.prog 99 #[.agg (pkL p tc bv).toArray] w fun r w' => r = .returned (.bool (decide (1 ≤ p.ses))) ∧ Below w.heap.size w w' := by
  obtain ⟨W, HE, HW⟩ := pk_box p tc bv w
  have c31 := (HW.out.2.tail hl).2.2
  go_enter Tryz.func99, Tryz.ntmps99
  go_upto_region 1 with fail
  rw [← HE.out]
  clear HE
  go_wp2_with fail
  all_goals (go_ret; exact ⟨rfl, HW.out.1⟩)
end
end Go.Proofs.YtgeoocchdpehdaaGreatDoor

namespace Go.Proofs.YtgeoocchdpehdaaGreatDoor
open Go.RowKit
set_option maxRecDepth 8000

theorem Tryz.infoByte : (Tryz.prog.info? 5).map (fun i => (i.zero, i.size, i.bytes)) = some (some (.int .u8 0), 1, 1) := by kernel_rfl

theorem app_rel {B : Nat} {w wr w1 : World} {v v' : Value} {xs : List Int} {x : Int} (hBw : B ≤ wr.heap.size) (hown : Owns wr B v xs) (hbel : Below B w wr) {o : Obj}
    (hown' : w1.ownsRow B 5 1 v' (xs.length + 1) (xs.map (Value.int .u8) ++ [.int .u8 x])) (hgrow : (wr.alloc o).grownBy w1 v.ownBlock) :
    Owns w1 B v' (xs ++ [x]) ∧ Below B w w1 ∧ B ≤ w1.heap.size := by
  refine ⟨by simpa [Owns] using hown', ?_, ?_⟩
  · exact ((hbel.alloc hBw o).grown hgrow (by simp; omega) (fun k hk => (hown.lt k hk).1))
  · have := hgrow.size; simp at this; omega

set_option maxHeartbeats 400000 in
theorem copyBytes_any (v : Value) (xs : List Int) (w : World) (h : Sees w v xs) (hreach : xs.length ≤ 70000000000000) :
    Calls Tryz.prog 9 #[v] w fun e w' => ∃ v', e = .returned v' ∧ Owns w' w.heap.size v' xs ∧ Below w.heap.size w w' := by
  obtain ⟨ao, cap, rfl, hlc, hcm, _, h3⟩ := h
  unfold maxLen at hcm
  obtain ⟨i0, hi, hz0, hz1, hz2⟩ := info_parts Tryz.infoByte
  go_enter Tryz.func9, Tryz.ntmps9
  go_wp2
  go_loopw [3, 4] (fun v i wr => ∃ k : Nat, k ≤ xs.length ∧ i = .int .i64 k ∧ Owns wr w.heap.size v (xs.take k) ∧ Below w.heap.size w wr) (fun _ i _ => xs.length - (intOf i).toNat)
  case atStart => exact ⟨0, Nat.zero_le _, rfl, World.ownsRow_nil _ _ _ _, Below.refl _ _⟩
  case round =>
    obtain ⟨k, hk, rfl, hown, hbel⟩ := hrel
    by_cases hlt : k < xs.length
    · rcases h3 with h3 | ⟨b, off, rfl, h3⟩
      · subst h3; simp at hlt
      · have hc := cell_later (h3 k hlt) hbel (Nat.le_refl _)
        have HN : Hid _ := take_next xs k hlt
        have hlen : (xs.take k).length = k := by simp; omega
        have HL : Hid _ := hlen
        clear hlen h3
        generalize xs.getD k 0 = x at *
        generalize xs.take k = ys at *
        have hsz := hbel.size
        go_wp2_with (at_builtin; refine wpList_append_own _ rfl _ _ 30 rfl w.heap.size 5 i0 (.int .u8 0) 1 1 Tryz.underlying30 hi hz0 hz1 hz2 rfl (by decide) _ _ _ rfl (hown.alloc _) ⟨wr.heap.size, 0, none⟩ 1 1 [.int .u8 x] rfl rfl ?c1 ?c2 ?c3 ?c4 ?c5 ?_)
        case c1 =>
          intro j u hj
          match j, hj with
          | 0, hj => simp at hj; subst hj; simp [Addr.add]
        case c2 => intro u hu; simp at hu; subst hu; rfl
        case c3 => have := HL.out; unfold maxLen; omega
        case c4 => have := HL.out; omega
        case c5 => simp; omega
        intro v' w1 hown' hgrow _
        have R := app_rel hsz hown hbel hown' hgrow
        clear hown' hgrow hown hc
        go_wp2
        go_roundw
        case rel => exact ⟨k + 1, by omega, by go_num, by rw [HN.out]; exact R.1, R.2.1⟩
        case measure => simp [intOf]; omega
    · obtain rfl : k = xs.length := by omega
      rw [List.take_length] at hown
      go_wp2
      go_ret
      exact ⟨_, rfl, hown, hbel⟩

theorem made_owns {w : World} {g n : Nat} (h : w.ownsRow g 5 1 (.slice (some ⟨g, 0, none⟩) n n) n (madeCells #[Value.int .u8 0] n).toList) : Owns w g (.slice (some ⟨g, 0, none⟩) (List.replicate n (0 : Int)).length n) (List.replicate n 0) := by
  have e : (madeCells #[Value.int .u8 0] n).toList = (List.replicate n (0 : Int)).map (Value.int .u8) := by
    rw [toList_madeCells_one]; simp
  rw [e] at h
  simpa [Owns] using h

end Go.Proofs.YtgeoocchdpehdaaGreatDoor

namespace Go.Proofs.YtgeoocchdpehdaaGreatDoor
open Go.RowKit
set_option maxRecDepth 8000

theorem flat_at {z : Nat} {cs : List (List Value)} (hz : ∀ c ∈ cs, c.length = z) (k j : Nat) (hk : k < cs.length) (hj : j < z) : cs.flatten[k * z + j]? = some (cs[k].getD j (.bool false)) := by
  induction cs generalizing k with
  | nil => simp at hk
  | cons c r ih =>
    have hc := hz c (by simp)
    rw [List.flatten_cons]
    cases k with
    | zero =>
      rw [List.getElem?_append_left (by omega), Nat.zero_mul, Nat.zero_add]
      simp [List.getD_eq_getElem?_getD, hc, hj]
    | succ k =>
      have e : (k + 1) * z + j - c.length = k * z + j := by rw [hc, Nat.succ_mul]; omega
      rw [List.getElem?_append_right (by rw [hc, Nat.succ_mul]; omega), e, ih (fun c hc => hz c (by simp [hc])) k (by simpa using hk)]
      simp

theorem seesR_own {w : World} {base : Nat} {t : TypeId} {z : Nat} {v : Value} {cs : List (List Value)} (h : w.ownsRow base t z v cs.length cs.flatten) (hz : ∀ c ∈ cs, c.length = z) : SeesR w v z cs := by
  rcases h.2 with ⟨rfl, h0⟩ | ⟨g, cap, cur, rfl, h1, h2, h3, h4, h5, h6⟩
  · have : cs = [] := List.eq_nil_of_length_eq_zero h0
    subst this
    exact SeesR.nil w z
  · refine ⟨_, cap, rfl, h3, h4, fun e => by simp at e, .inr ⟨g, 0, rfl, fun i hi j hj => ?_⟩⟩
    have hlt : i * z + j < cs.length * z := by
      have : (i + 1) * z ≤ cs.length * z := Nat.mul_le_mul_right z hi
      rw [Nat.succ_mul] at this
      omega
    rw [Nat.zero_add, cell_of_row _ _ _ _ _ _ h2, ← flat_at hz i j hi hj, ← h6]
    rw [List.getElem?_take, if_pos hlt]
    simp

theorem addrAdd (b off n : Nat) : (⟨b, off, none⟩ : Addr).add n = ⟨b, off + n, none⟩ := by
  by_cases h : n = 0
  · subst h; simp [Addr.add]
  · simp [Addr.add, h]

theorem ownsRow_kept {w w' : World} {S : Nat → Prop} {base : Nat} {t : TypeId} {z n : Nat} {v : Value} {xs : List Value} (h : w.ownsRow base t z v n xs) (hk : Kept w w' S) (hn : ∀ k, v.ownBlock = some k → ¬ S k) : w'.ownsRow base t z v n xs := by
  refine ⟨h.1, ?_⟩
  rcases h.2 with h | ⟨g, cap, cur, rfl, h1, h2, h3⟩
  · exact .inl h
  · exact .inr ⟨g, cap, cur, rfl, h1, hk.heap h2 (hn g rfl), h3⟩

theorem Tryz.infoId : (Tryz.prog.info? 115).map (fun i => (i.zero, i.size, i.bytes)) = some (some (.agg #[.string ⟨#[]⟩, .string ⟨#[]⟩]), 2, 32) := by kernel_rfl
theorem Tryz.infoEn : (Tryz.prog.info? 117).map (fun i => (i.zero, i.size, i.bytes)) = some (some (.agg #[.int .i8 0, .string ⟨#[]⟩, .string ⟨#[]⟩]), 3, 40) := by kernel_rfl

end Go.Proofs.YtgeoocchdpehdaaGreatDoor

namespace Go.Proofs.YtgeoocchdpehdaaGreatDoor
open Go.RowKit
set_option maxRecDepth 8000

theorem heap_setR {w : World} {b i : Nat} {cs : Array Value} {t : TypeId} {fr : Nat × Nat} (c : Value) (h : w.heap[b]? = some (.cells cs t fr)) : (w.setCell ⟨b, i, none⟩ c).heap[b]? = some (.cells (cs.setIfInBounds i c) t fr) := by
  rw [setCell_eq_setRow w b i cs t fr c h]
  exact setRow_heap w b cs _ t fr h

theorem stored11 {U : World} {b : Nat} {t : TypeId} {d0 d1 d2 d3 d4 d5 d6 d7 d8 d9 d10 : Value} (c0 c1 c2 c3 c4 c5 c6 c7 c8 c9 c10 : Value) (hbox : U.heap[b]? = some (.cells #[d0, d1, d2, d3, d4, d5, d6, d7, d8, d9, d10] t (0, 0))) :
    (((((((((((U.setCell ⟨b, 0, none⟩ c0).setCell ⟨b, 1, none⟩ c1).setCell ⟨b, 2, none⟩ c2).setCell ⟨b, 3, none⟩ c3).setCell ⟨b, 4, none⟩ c4).setCell ⟨b, 5, none⟩ c5).setCell ⟨b, 6, none⟩ c6).setCell ⟨b, 7, none⟩ c7).setCell ⟨b, 8, none⟩ c8).setCell ⟨b, 9, none⟩ c9).setCell ⟨b, 10, none⟩ c10).heap[b]? = some (.cells #[c0, c1, c2, c3, c4, c5, c6, c7, c8, c9, c10] t (0, 0)) ∧ Kept U (((((((((((U.setCell ⟨b, 0, none⟩ c0).setCell ⟨b, 1, none⟩ c1).setCell ⟨b, 2, none⟩ c2).setCell ⟨b, 3, none⟩ c3).setCell ⟨b, 4, none⟩ c4).setCell ⟨b, 5, none⟩ c5).setCell ⟨b, 6, none⟩ c6).setCell ⟨b, 7, none⟩ c7).setCell ⟨b, 8, none⟩ c8).setCell ⟨b, 9, none⟩ c9).setCell ⟨b, 10, none⟩ c10) (fun k => k = b) := by
  refine ⟨?_, ?_⟩
  · have hrow := (heap_setR (i := 10) c10 (heap_setR (i := 9) c9 (heap_setR (i := 8) c8 (heap_setR (i := 7) c7 (heap_setR (i := 6) c6 (heap_setR (i := 5) c5 (heap_setR (i := 4) c4 (heap_setR (i := 3) c3 (heap_setR (i := 2) c2 (heap_setR (i := 1) c1 (heap_setR (i := 0) c0 hbox)))))))))))
    have e : (((((((((((#[d0, d1, d2, d3, d4, d5, d6, d7, d8, d9, d10].setIfInBounds 0 c0).setIfInBounds 1 c1).setIfInBounds 2 c2).setIfInBounds 3 c3).setIfInBounds 4 c4).setIfInBounds 5 c5).setIfInBounds 6 c6).setIfInBounds 7 c7).setIfInBounds 8 c8).setIfInBounds 9 c9).setIfInBounds 10 c10) = #[c0, c1, c2, c3, c4, c5, c6, c7, c8, c9, c10] := by simp
    rw [e] at hrow
    exact hrow
  · exact (Kept.setCell (Kept.setCell (Kept.setCell (Kept.setCell (Kept.setCell (Kept.setCell (Kept.setCell (Kept.setCell (Kept.setCell (Kept.setCell (Kept.setCell (Kept.refl U (fun k => k = b)) ⟨b, 0, none⟩ c0 (fun _ => rfl)) ⟨b, 1, none⟩ c1 (fun _ => rfl)) ⟨b, 2, none⟩ c2 (fun _ => rfl)) ⟨b, 3, none⟩ c3 (fun _ => rfl)) ⟨b, 4, none⟩ c4 (fun _ => rfl)) ⟨b, 5, none⟩ c5 (fun _ => rfl)) ⟨b, 6, none⟩ c6 (fun _ => rfl)) ⟨b, 7, none⟩ c7 (fun _ => rfl)) ⟨b, 8, none⟩ c8 (fun _ => rfl)) ⟨b, 9, none⟩ c9 (fun _ => rfl)) ⟨b, 10, none⟩ c10 (fun _ => rfl))

theorem resCell1 {fn : Func} {p : Tmp} {ty : TypeId} (h : fn.results = #[.cell p ty]) (tmps : Array Value) (P : Program) (w : World) :
    (results fn tmps).run P w = ((asAddr (tmps.getD p undef)).run P w).andThen fun a w₁ => (loadVar ty a).run P w₁ := by
  simp only [results, h]
  simp [Sem.run_bind, Result.andThen]

theorem rq_size : (Tryz.prog.info? 35).map (·.size) = some 11 := by kernel_rfl
theorem tx_size : (Tryz.prog.info? 37).map (·.size) = some 16 := by kernel_rfl
end Go.Proofs.YtgeoocchdpehdaaGreatDoor

namespace Go.Proofs.YtgeoocchdpehdaaGreatDoor
open Go.RowKit
set_option maxRecDepth 8000

theorem SeesR.kept {w w' : World} {S : Nat → Prop} {v : Value} {z : Nat} {cs : List (List Value)} (h : SeesR w v z cs) (hk : Kept w w' S) (hn : ∀ k, v.ownBlock = some k → ¬ S k) : SeesR w' v z cs := by
  obtain ⟨ao, cap, rfl, h1, h2, h0, h3⟩ := h
  refine ⟨ao, cap, rfl, h1, h2, h0, ?_⟩
  rcases h3 with h3 | ⟨b, off, rfl, h3⟩
  · exact .inl h3
  · exact .inr ⟨b, off, rfl, fun i hi j hj => hk.cell (h3 i hi j hj) (hn b rfl)⟩

inductive RqIn (w : World) (F : Nat → Prop) : List Value → Rq → Prop where
  | mk (f : RqF) (n : Nat) (ops : Fin n → Rq) (dv av wv ov : Value) (oc : Fin n → List Value)
      (hd : Sees w dv f.data) (ha : SeesR w av 3 (f.acl.map EnD.cells)) (hw : SeesR w wv 2 (f.who.map IdD.cells)) (ho : SeesR w ov 11 (List.ofFn oc))
      (fd : ∀ k, dv.ownBlock = some k → F k) (fa : ∀ k, av.ownBlock = some k → F k) (fw : ∀ k, wv.ownBlock = some k → F k) (fo : ∀ k, ov.ownBlock = some k → F k)
      (hs : ∀ i : Fin n, RqIn w F (oc i) (ops i)) : RqIn w F (rqCells f dv av wv ov) (.mk f n ops)

theorem RqIn.sees {w : World} {F : Nat → Prop} {cs : List Value} {r : Rq} (h : RqIn w F cs r) : SeesRq w cs r := by
  induction h with
  | mk f n ops dv av wv ov oc hd ha hw ho _ _ _ _ _ ih => exact .mk f n ops dv av wv ov oc hd ha hw ho ih

theorem RqIn.kept {w w' : World} {S F F' : Nat → Prop} (hk : Kept w w' S) (hF : ∀ k, F k → ¬ S k ∧ F' k) {cs : List Value} {r : Rq} (h : RqIn w F cs r) : RqIn w' F' cs r := by
  induction h with
  | mk f n ops dv av wv ov oc hd ha hw ho fd fa fw fo _ ih =>
    exact .mk f n ops dv av wv ov oc (hd.kept hk (fun k h => (hF k (fd k h)).1)) (ha.kept hk (fun k h => (hF k (fa k h)).1)) (hw.kept hk (fun k h => (hF k (fw k h)).1)) (ho.kept hk (fun k h => (hF k (fo k h)).1))
      (fun k h => (hF k (fd k h)).2) (fun k h => (hF k (fa k h)).2) (fun k h => (hF k (fw k h)).2) (fun k h => (hF k (fo k h)).2) ih

abbrev rqZ : Array Value := #[.int .i8 0, .string ⟨#[]⟩, .slice none 0 0, .slice none 0 0, .int .i32 0, .bool false, .bool false, .int .i64 0, .int .i32 0, .slice none 0 0, .slice none 0 0]

section
variable {w W W' : World} {cs ds : Array Value}
end

theorem Tryz.infoRq : (Tryz.prog.info? 35).map (fun i => (i.zero, i.size, i.bytes)) = some (some (.agg rqZ), 11, 144) := by kernel_rfl

end Go.Proofs.YtgeoocchdpehdaaGreatDoor

namespace Go.Proofs.YtgeoocchdpehdaaGreatDoor
open Go.RowKit
set_option maxRecDepth 8000

end Go.Proofs.YtgeoocchdpehdaaGreatDoor

namespace Go.Proofs.YtgeoocchdpehdaaGreatDoor
open Go.RowKit
set_option maxRecDepth 8000

end Go.Proofs.YtgeoocchdpehdaaGreatDoor

namespace Go.Proofs.YtgeoocchdpehdaaGreatDoor
open Go.RowKit
set_option maxRecDepth 8000

theorem stored5 {U : World} {b : Nat} {t : TypeId} {h0 h1 h2 h3 h4 d0 d1 d2 d3 d4 d5 d6 d7 d8 d9 d10 : Value} (c0 c1 c2 c3 c4 c5 c6 c7 c8 c9 c10 : Value) (hbox : U.heap[b]? = some (.cells #[h0, h1, h2, h3, h4, d0, d1, d2, d3, d4, d5, d6, d7, d8, d9, d10] t (0, 0))) :
    ((((((((((((U.setCell ⟨b, 5, none⟩ c0).setCell ⟨b, 6, none⟩ c1).setCell ⟨b, 7, none⟩ c2).setCell ⟨b, 8, none⟩ c3).setCell ⟨b, 9, none⟩ c4).setCell ⟨b, 10, none⟩ c5).setCell ⟨b, 11, none⟩ c6).setCell ⟨b, 12, none⟩ c7).setCell ⟨b, 13, none⟩ c8).setCell ⟨b, 14, none⟩ c9).setCell ⟨b, 15, none⟩ c10)).heap[b]? = some (.cells #[h0, h1, h2, h3, h4, c0, c1, c2, c3, c4, c5, c6, c7, c8, c9, c10] t (0, 0)) ∧ Kept U ((((((((((((U.setCell ⟨b, 5, none⟩ c0).setCell ⟨b, 6, none⟩ c1).setCell ⟨b, 7, none⟩ c2).setCell ⟨b, 8, none⟩ c3).setCell ⟨b, 9, none⟩ c4).setCell ⟨b, 10, none⟩ c5).setCell ⟨b, 11, none⟩ c6).setCell ⟨b, 12, none⟩ c7).setCell ⟨b, 13, none⟩ c8).setCell ⟨b, 14, none⟩ c9).setCell ⟨b, 15, none⟩ c10)) (fun k => k = b) := by
  refine ⟨?_, ?_⟩
  · have hrow := (heap_setR (i := 15) c10 (heap_setR (i := 14) c9 (heap_setR (i := 13) c8 (heap_setR (i := 12) c7 (heap_setR (i := 11) c6 (heap_setR (i := 10) c5 (heap_setR (i := 9) c4 (heap_setR (i := 8) c3 (heap_setR (i := 7) c2 (heap_setR (i := 6) c1 (heap_setR (i := 5) c0 hbox)))))))))))
    have e : (((((((((((#[h0, h1, h2, h3, h4, d0, d1, d2, d3, d4, d5, d6, d7, d8, d9, d10].setIfInBounds 5 c0).setIfInBounds 6 c1).setIfInBounds 7 c2).setIfInBounds 8 c3).setIfInBounds 9 c4).setIfInBounds 10 c5).setIfInBounds 11 c6).setIfInBounds 12 c7).setIfInBounds 13 c8).setIfInBounds 14 c9).setIfInBounds 15 c10) = #[h0, h1, h2, h3, h4, c0, c1, c2, c3, c4, c5, c6, c7, c8, c9, c10] := by simp
    rw [e] at hrow
    exact hrow
  · exact (Kept.setCell (Kept.setCell (Kept.setCell (Kept.setCell (Kept.setCell (Kept.setCell (Kept.setCell (Kept.setCell (Kept.setCell (Kept.setCell (Kept.setCell (Kept.refl U (fun k => k = b)) ⟨b, 5, none⟩ c0 (fun _ => rfl)) ⟨b, 6, none⟩ c1 (fun _ => rfl)) ⟨b, 7, none⟩ c2 (fun _ => rfl)) ⟨b, 8, none⟩ c3 (fun _ => rfl)) ⟨b, 9, none⟩ c4 (fun _ => rfl)) ⟨b, 10, none⟩ c5 (fun _ => rfl)) ⟨b, 11, none⟩ c6 (fun _ => rfl)) ⟨b, 12, none⟩ c7 (fun _ => rfl)) ⟨b, 13, none⟩ c8 (fun _ => rfl)) ⟨b, 14, none⟩ c9 (fun _ => rfl)) ⟨b, 15, none⟩ c10 (fun _ => rfl))

end Go.Proofs.YtgeoocchdpehdaaGreatDoor

namespace Go.Proofs.YtgeoocchdpehdaaGreatDoor
open Go.RowKit
set_option maxRecDepth 8000

theorem txSz : (Tryz.prog.info? 37).map (·.size) = some 16 := by kernel_rfl

def txB15 (p : PkD) : Bool := txOk p.tx && (if p.kind = 13 then decide ((p.tx.ep = 0 ∧ p.tx.n = 0) ∧ 1 ≤ p.tx.num) else decide (0 < zcmp p.tx.ep p.tx.n p.pe p.pn))

theorem PkAt.txHead {W : World} {g : Nat} {p : PkD} {tc : List Value} {bv : Value} (h : PkAt W g p tc bv) {w : World} (hs : SeesTx w tc p.tx) : W.cell? ⟨g, 14, none⟩ = some (.int .u32 p.tx.ep) ∧ W.cell? ⟨g, 15, none⟩ = some (.int .u32 p.tx.n) ∧ W.cell? ⟨g, 18, none⟩ = some (.int .i64 p.tx.num) := by
  have ht := (h.tail hs.len).1
  obtain ⟨rc, rfl, _⟩ := hs
  exact ⟨ht 0 _ rfl, ht 1 _ rfl, ht 4 _ rfl⟩

set_option maxHeartbeats 1000000 in
theorem rtTxn (p : PkD) (tc : List Value) (bv : Value) (w : World) (hg : p.good) (hs : SeesTx w tc p.tx) (hn : Nam w) :
    Calls Tryz.prog 91 #[.agg (pkL p tc bv).toArray] w fun r w' => r = .returned (.bool (txB15 p)) ∧ Below w.heap.size w w' := by
  obtain ⟨W, HE, HW⟩ := pk_box p tc bv w
  have HS : Hid (SeesTx w tc p.tx ∧ Nam w ∧ p.good) := ⟨hs, hn, hg⟩
  have l14 := (HW.out.2.tail hs.len).1
  have q16 : (Tryz.prog.info? 37).map (·.size) = some tc.length := by rw [hs.len]; exact txSz
  have hgt : Tryz.prog.eqGuardType Tryz.prog.depth 27 = false := by kernel_rfl
  have HZ := eqZx p.tx.ep p.tx.n 0 0
  clear hs hn hg
  go_enter Tryz.func91, Tryz.ntmps91
  go_upto_region 1 with fail
  rw [← HE.out]
  clear HE
  go_wp2_with (refine wpList_load_mid rfl 37 _ rfl w.heap.size 14 rfl tc _ l14 Tryz.underlying37 rfl q16 ?_)
  clear l14
  refine (check_any tc p.tx _ (HS.out.1.below HW.out.1 (Nat.le_refl _)) HS.out.2.2.tx (HS.out.2.1.below HW.out.1 HS.out.2.1.lt)).mono ?_
  rintro _ w1 ⟨rfl, b1⟩
  have HB : Hid (Below w.heap.size w w1 ∧ PkAt w1 w.heap.size p tc bv) := ⟨HW.out.1.trans (b1.mono HW.out.1.size), HW.out.2.later b1 HW.out.2.lt⟩
  clear b1
  obtain ⟨c14, c15, c18⟩ := HB.out.2.txHead HS.out.1
  have c0 : w1.cell? ⟨w.heap.size, 0, none⟩ = some (.int .i8 p.kind) := pk_at HB.out.2 rfl
  have c10 : w1.cell? ⟨w.heap.size, 10, none⟩ = some (.int .u32 p.pe) := pk_at HB.out.2 rfl
  have c11 : w1.cell? ⟨w.heap.size, 11, none⟩ = some (.int .u32 p.pn) := pk_at HB.out.2 rfl
  cases hok : txOk p.tx
  · have HR : Hid (txB15 p = false) := by show txB15 p = false; unfold txB15; rw [hok]; rfl
    go_wp2_with fail
    all_goals (go_ret; exact ⟨by rw [HR.out]; rfl, HB.out.1⟩)
  · by_cases k : p.kind = 13
    · have HR : Hid (txB15 p = decide ((p.tx.ep = 0 ∧ p.tx.n = 0) ∧ 1 ≤ p.tx.num)) := by show txB15 p = _; unfold txB15; rw [hok, if_pos k]; rfl
      rw [k] at c0
      clear k hok
      by_cases hz : p.tx.ep = 0 ∧ p.tx.n = 0
      · rw [decide_eq_true hz] at HZ
        have HD : Hid (decide ((p.tx.ep = 0 ∧ p.tx.n = 0) ∧ 1 ≤ p.tx.num) = decide (1 ≤ p.tx.num)) := by show decide _ = decide _; simp [hz]
        clear hz
        go_wp2_with fail
        all_goals (go_ret; exact ⟨by rw [HR.out, HD.out]; rfl, HB.out.1⟩)
      · rw [decide_eq_false hz] at HZ
        have HD : Hid (decide ((p.tx.ep = 0 ∧ p.tx.n = 0) ∧ 1 ≤ p.tx.num) = false) := decide_eq_false (fun h => hz h.1)
        clear hz
        go_wp2_with fail
        all_goals (go_ret; exact ⟨by rw [HR.out, HD.out]; rfl, HB.out.1⟩)
    · have HR : Hid (txB15 p = decide (0 < zcmp p.tx.ep p.tx.n p.pe p.pn)) := by show txB15 p = _; unfold txB15; rw [hok, if_neg k]; rfl
      have k' : (p.kind == 13) = false := by simp [k]
      clear k hok
      go_wp2_with fail
      refine (compare_any _ _ _ _ _).mono ?_
      rintro _ w2 ⟨rfl, b2⟩
      have HF : Hid (Below w.heap.size w w2) := HB.out.1.trans (b2.mono HB.out.1.size)
      clear b2 c14 c15 c18 c0 c10 c11
      go_wp2_with fail
      all_goals (go_ret; exact ⟨by rw [HR.out]; rfl, HF.out⟩)
end Go.Proofs.YtgeoocchdpehdaaGreatDoor
