import Derived.Test.YtgeoocchdpehdaaGreatDoorPlGJ
import Derived.Test.YtgeoocchdpehdaaGreatDoorLeafSumJ
namespace Go.Proofs.YtgeoocchdpehdaaGreatDoor
open Go.RowKit
set_option maxRecDepth 8000

theorem load_midG {P : Program} {ops : Array Oper} {rest : List Oper} {o : Oper} {a : Act} {w : World} {Q : Exit → Act → World → Prop} (hw : Region.wanted o (yielded ops a.tmps) = true) (ty : TypeId) (x : Operand) (ho : o.op = .load ty x)
    (b o' : Nat) (hx : a.eval x = .pointer (some ⟨b, o', none⟩)) (cs : List Value) (d : TypeDesc) (hc : w.rangeAt b o' cs) (hu : P.underlying ty = some d) (hd : d.isRow = true) (hi : (P.info? ty).map (·.size) = some cs.length)
    (h : wpList P ops Q rest (a.put o.dst (.agg cs.toArray)) w) : wpList P ops Q (o :: rest) a w :=
  BigFrame.wpList_want hw fun _ hK => wp_load_mid ty x ho b o' hx cs d hc hu hd hi (hK _ _ h)

theorem two_pk (w : World) (p : PkD) (tc tc' : List Value) (bv bv' : Value) : PkAt ((w.alloc (.cells (pkL p tc bv).toArray 39)).alloc (.cells (pkL p tc' bv').toArray 39)) w.heap.size p tc bv ∧ PkAt ((w.alloc (.cells (pkL p tc bv).toArray 39)).alloc (.cells (pkL p tc' bv').toArray 39)) (w.heap.size + 1) p tc' bv' := by
  unfold PkAt
  refine ⟨by rw [Below.heap_alloc _ _ _ (by simp)]; exact heap_alloc_new _ _, ?_⟩
  have := heap_alloc_new (w.alloc (.cells (pkL p tc bv).toArray 39)) (.cells (pkL p tc' bv').toArray 39)
  simpa using this

set_option maxHeartbeats 4000000 in
theorem eqPk_same (p : PkD) (tc tc' : List Value) (bv bv' : Value) (w : World) (hs : SeesPk w tc bv p) (hs' : SeesPk w tc' bv' p) :
    Calls Tryz.prog 12 #[.agg (pkL p tc bv).toArray, .agg (pkL p tc' bv').toArray] w fun r w' => r = .returned (.bool true) ∧ Below w.heap.size w w' := by
  obtain ⟨V, hV⟩ : ∃ V, V = (w.alloc (.cells (pkL p tc bv).toArray 39)).alloc (.cells (pkL p tc' bv').toArray 39) := ⟨_, rfl⟩
  have HV : Hid (Below w.heap.size w V ∧ PkAt V w.heap.size p tc bv ∧ PkAt V (w.heap.size + 1) p tc' bv') := by rw [hV]; exact ⟨two_alloc _ _ _, two_pk w p tc tc' bv bv'⟩
  have HS : Hid (SeesPk w tc bv p ∧ SeesPk w tc' bv' p) := ⟨hs, hs'⟩
  have hl := hs.tx.len
  have hl' := hs'.tx.len
  obtain ⟨s0, s1, s2, rfl⟩ := sees_form hs.bys
  obtain ⟨t0, t1, t2, rfl⟩ := sees_form hs'.bys
  have HA : Hid _ := hV
  have hgt : Tryz.prog.eqGuardType Tryz.prog.depth 27 = false := by kernel_rfl
  have hgc : Tryz.prog.eqGuardType Tryz.prog.depth 25 = false := by kernel_rfl
  have n1 := neqCn p.cb p.ct p.cb p.ct
  have n2 := neqCn p.lb p.lt p.lb p.lt
  have n3 := neqZxP p.ze p.zn p.ze p.zn
  have n4 := neqZxP p.pe p.pn p.pe p.pn
  rw [decide_eq_true (⟨rfl, rfl⟩ : p.cb = p.cb ∧ p.ct = p.ct)] at n1
  rw [decide_eq_true (⟨rfl, rfl⟩ : p.lb = p.lb ∧ p.lt = p.lt)] at n2
  rw [decide_eq_true (⟨rfl, rfl⟩ : p.ze = p.ze ∧ p.zn = p.zn)] at n3
  rw [decide_eq_true (⟨rfl, rfl⟩ : p.pe = p.pe ∧ p.pn = p.pn)] at n4
  have q16 : (Tryz.prog.info? 37).map (·.size) = some tc.length := by rw [hl]; exact txSz
  have q16' : (Tryz.prog.info? 37).map (·.size) = some tc'.length := by rw [hl']; exact txSz
  clear hV hs hs'
  have c0 : V.cell? ⟨w.heap.size, 0, none⟩ = some (.int .i8 p.kind) := pk_at HV.out.2.1 rfl
  have z0 : V.cell? ⟨w.heap.size + 1, 0, none⟩ = some (.int .i8 p.kind) := pk_at HV.out.2.2 rfl
  have c1 : V.cell? ⟨w.heap.size, 1, none⟩ = some (.int .u32 p.cb) := pk_at HV.out.2.1 rfl
  have z1 : V.cell? ⟨w.heap.size + 1, 1, none⟩ = some (.int .u32 p.cb) := pk_at HV.out.2.2 rfl
  have c2 : V.cell? ⟨w.heap.size, 2, none⟩ = some (.int .u32 p.ct) := pk_at HV.out.2.1 rfl
  have z2 : V.cell? ⟨w.heap.size + 1, 2, none⟩ = some (.int .u32 p.ct) := pk_at HV.out.2.2 rfl
  have c3 : V.cell? ⟨w.heap.size, 3, none⟩ = some (.int .u32 p.lb) := pk_at HV.out.2.1 rfl
  have z3 : V.cell? ⟨w.heap.size + 1, 3, none⟩ = some (.int .u32 p.lb) := pk_at HV.out.2.2 rfl
  have c4 : V.cell? ⟨w.heap.size, 4, none⟩ = some (.int .u32 p.lt) := pk_at HV.out.2.1 rfl
  have z4 : V.cell? ⟨w.heap.size + 1, 4, none⟩ = some (.int .u32 p.lt) := pk_at HV.out.2.2 rfl
  have c5 : V.cell? ⟨w.heap.size, 5, none⟩ = some (.int .i64 p.place) := pk_at HV.out.2.1 rfl
  have z5 : V.cell? ⟨w.heap.size + 1, 5, none⟩ = some (.int .i64 p.place) := pk_at HV.out.2.2 rfl
  have c6 : V.cell? ⟨w.heap.size, 6, none⟩ = some (.int .u32 p.ep) := pk_at HV.out.2.1 rfl
  have z6 : V.cell? ⟨w.heap.size + 1, 6, none⟩ = some (.int .u32 p.ep) := pk_at HV.out.2.2 rfl
  have c7 : V.cell? ⟨w.heap.size, 7, none⟩ = some (.int .u32 p.cur) := pk_at HV.out.2.1 rfl
  have z7 : V.cell? ⟨w.heap.size + 1, 7, none⟩ = some (.int .u32 p.cur) := pk_at HV.out.2.2 rfl
  have c8 : V.cell? ⟨w.heap.size, 8, none⟩ = some (.int .u32 p.ze) := pk_at HV.out.2.1 rfl
  have z8 : V.cell? ⟨w.heap.size + 1, 8, none⟩ = some (.int .u32 p.ze) := pk_at HV.out.2.2 rfl
  have c9 : V.cell? ⟨w.heap.size, 9, none⟩ = some (.int .u32 p.zn) := pk_at HV.out.2.1 rfl
  have z9 : V.cell? ⟨w.heap.size + 1, 9, none⟩ = some (.int .u32 p.zn) := pk_at HV.out.2.2 rfl
  have c10 : V.cell? ⟨w.heap.size, 10, none⟩ = some (.int .u32 p.pe) := pk_at HV.out.2.1 rfl
  have z10 : V.cell? ⟨w.heap.size + 1, 10, none⟩ = some (.int .u32 p.pe) := pk_at HV.out.2.2 rfl
  have c11 : V.cell? ⟨w.heap.size, 11, none⟩ = some (.int .u32 p.pn) := pk_at HV.out.2.1 rfl
  have z11 : V.cell? ⟨w.heap.size + 1, 11, none⟩ = some (.int .u32 p.pn) := pk_at HV.out.2.2 rfl
  have c12 : V.cell? ⟨w.heap.size, 12, none⟩ = some (.bool p.cnt) := pk_at HV.out.2.1 rfl
  have z12 : V.cell? ⟨w.heap.size + 1, 12, none⟩ = some (.bool p.cnt) := pk_at HV.out.2.2 rfl
  have c13 : V.cell? ⟨w.heap.size, 13, none⟩ = some (.bool p.fin) := pk_at HV.out.2.1 rfl
  have z13 : V.cell? ⟨w.heap.size + 1, 13, none⟩ = some (.bool p.fin) := pk_at HV.out.2.2 rfl
  have c31 := (HV.out.2.1.tail hl).2.2
  have z31 := (HV.out.2.2.tail hl').2.2
  have l14 := (HV.out.2.1.tail hl).1
  have m14 := (HV.out.2.2.tail hl').1
  go_enter Tryz.func12, Tryz.ntmps12
  go_upto_region 1 with fail
  rw [← HA.out]
  clear HA
  go_upto_region 3 with fail
  clear c0 z0 c1 z1 c2 z2 c3 z3 c4 z4 c5 z5 c6 z6 c7 z7 c8 z8 c9 z9 c10 z10 c11 z11 n1 n2 n3 n4
  obtain ⟨cn, hcn⟩ : ∃ x, p.cnt = x := ⟨_, rfl⟩
  obtain ⟨fi, hfi⟩ : ∃ x, p.fin = x := ⟨_, rfl⟩
  rw [hcn] at c12 z12
  rw [hfi] at c13 z13
  clear hcn hfi
  cases cn
  · cases fi
    · skip
      go_wp2_with (first | (refine load_midG (by kernel_rfl) 37 _ rfl w.heap.size 14 rfl tc _ l14 Tryz.underlying37 rfl q16 ?_) | (refine load_midG (by kernel_rfl) 37 _ rfl (w.heap.size + 1) 14 rfl tc' _ m14 Tryz.underlying37 rfl q16' ?_))
      refine (eqTxn_same tc tc' p.tx _ (HS.out.1.tx.below HV.out.1 (Nat.le_refl _)) (HS.out.2.tx.below HV.out.1 (Nat.le_refl _))).mono ?_
      rintro _ w1 ⟨rfl, b1⟩
      have H1 : Hid (Below w.heap.size w w1 ∧ PkAt w1 w.heap.size p tc (.slice s0 s1 s2) ∧ PkAt w1 (w.heap.size + 1) p tc' (.slice t0 t1 t2)) := ⟨HV.out.1.trans (b1.mono HV.out.1.size), HV.out.2.1.later b1 HV.out.2.1.lt, HV.out.2.2.later b1 HV.out.2.2.lt⟩
      clear b1 HV c12 z12 c13 z13 c31 z31 l14 m14
      have c30 := (H1.out.2.1.tail hl).2.1
      have z30 := (H1.out.2.2.tail hl').2.1
      go_wp2_with fail
      refine (eqBytes_any _ _ p.bys p.bys _ (HS.out.1.bys.below H1.out.1 (Nat.le_refl _)) (HS.out.2.bys.below H1.out.1 (Nat.le_refl _))).mono ?_
      rintro _ w2 ⟨rfl, n, hn⟩
      have H2 : Hid (Below w.heap.size w w2) := by rw [hn]; exact below_drewN H1.out.1 n
      rw [decide_eq_true (rfl : p.bys = p.bys)]
      clear hn H1 c30 z30
      go_wp2_with fail
      go_ret
      exact ⟨rfl, H2.out⟩
    · skip
      go_wp2_with (first | (refine load_midG (by kernel_rfl) 37 _ rfl w.heap.size 14 rfl tc _ l14 Tryz.underlying37 rfl q16 ?_) | (refine load_midG (by kernel_rfl) 37 _ rfl (w.heap.size + 1) 14 rfl tc' _ m14 Tryz.underlying37 rfl q16' ?_))
      refine (eqTxn_same tc tc' p.tx _ (HS.out.1.tx.below HV.out.1 (Nat.le_refl _)) (HS.out.2.tx.below HV.out.1 (Nat.le_refl _))).mono ?_
      rintro _ w1 ⟨rfl, b1⟩
      have H1 : Hid (Below w.heap.size w w1 ∧ PkAt w1 w.heap.size p tc (.slice s0 s1 s2) ∧ PkAt w1 (w.heap.size + 1) p tc' (.slice t0 t1 t2)) := ⟨HV.out.1.trans (b1.mono HV.out.1.size), HV.out.2.1.later b1 HV.out.2.1.lt, HV.out.2.2.later b1 HV.out.2.2.lt⟩
      clear b1 HV c12 z12 c13 z13 c31 z31 l14 m14
      have c30 := (H1.out.2.1.tail hl).2.1
      have z30 := (H1.out.2.2.tail hl').2.1
      go_wp2_with fail
      refine (eqBytes_any _ _ p.bys p.bys _ (HS.out.1.bys.below H1.out.1 (Nat.le_refl _)) (HS.out.2.bys.below H1.out.1 (Nat.le_refl _))).mono ?_
      rintro _ w2 ⟨rfl, n, hn⟩
      have H2 : Hid (Below w.heap.size w w2) := by rw [hn]; exact below_drewN H1.out.1 n
      rw [decide_eq_true (rfl : p.bys = p.bys)]
      clear hn H1 c30 z30
      go_wp2_with fail
      go_ret
      exact ⟨rfl, H2.out⟩
  · cases fi
    · skip
      go_wp2_with (first | (refine load_midG (by kernel_rfl) 37 _ rfl w.heap.size 14 rfl tc _ l14 Tryz.underlying37 rfl q16 ?_) | (refine load_midG (by kernel_rfl) 37 _ rfl (w.heap.size + 1) 14 rfl tc' _ m14 Tryz.underlying37 rfl q16' ?_))
      refine (eqTxn_same tc tc' p.tx _ (HS.out.1.tx.below HV.out.1 (Nat.le_refl _)) (HS.out.2.tx.below HV.out.1 (Nat.le_refl _))).mono ?_
      rintro _ w1 ⟨rfl, b1⟩
      have H1 : Hid (Below w.heap.size w w1 ∧ PkAt w1 w.heap.size p tc (.slice s0 s1 s2) ∧ PkAt w1 (w.heap.size + 1) p tc' (.slice t0 t1 t2)) := ⟨HV.out.1.trans (b1.mono HV.out.1.size), HV.out.2.1.later b1 HV.out.2.1.lt, HV.out.2.2.later b1 HV.out.2.2.lt⟩
      clear b1 HV c12 z12 c13 z13 c31 z31 l14 m14
      have c30 := (H1.out.2.1.tail hl).2.1
      have z30 := (H1.out.2.2.tail hl').2.1
      go_wp2_with fail
      refine (eqBytes_any _ _ p.bys p.bys _ (HS.out.1.bys.below H1.out.1 (Nat.le_refl _)) (HS.out.2.bys.below H1.out.1 (Nat.le_refl _))).mono ?_
      rintro _ w2 ⟨rfl, n, hn⟩
      have H2 : Hid (Below w.heap.size w w2) := by rw [hn]; exact below_drewN H1.out.1 n
      rw [decide_eq_true (rfl : p.bys = p.bys)]
      clear hn H1 c30 z30
      go_wp2_with fail
      go_ret
      exact ⟨rfl, H2.out⟩
    · skip
      go_wp2_with (first | (refine load_midG (by kernel_rfl) 37 _ rfl w.heap.size 14 rfl tc _ l14 Tryz.underlying37 rfl q16 ?_) | (refine load_midG (by kernel_rfl) 37 _ rfl (w.heap.size + 1) 14 rfl tc' _ m14 Tryz.underlying37 rfl q16' ?_))
      refine (eqTxn_same tc tc' p.tx _ (HS.out.1.tx.below HV.out.1 (Nat.le_refl _)) (HS.out.2.tx.below HV.out.1 (Nat.le_refl _))).mono ?_
      rintro _ w1 ⟨rfl, b1⟩
      have H1 : Hid (Below w.heap.size w w1 ∧ PkAt w1 w.heap.size p tc (.slice s0 s1 s2) ∧ PkAt w1 (w.heap.size + 1) p tc' (.slice t0 t1 t2)) := ⟨HV.out.1.trans (b1.mono HV.out.1.size), HV.out.2.1.later b1 HV.out.2.1.lt, HV.out.2.2.later b1 HV.out.2.2.lt⟩
      clear b1 HV c12 z12 c13 z13 c31 z31 l14 m14
      have c30 := (H1.out.2.1.tail hl).2.1
      have z30 := (H1.out.2.2.tail hl').2.1
      go_wp2_with fail
      refine (eqBytes_any _ _ p.bys p.bys _ (HS.out.1.bys.below H1.out.1 (Nat.le_refl _)) (HS.out.2.bys.below H1.out.1 (Nat.le_refl _))).mono ?_
      rintro _ w2 ⟨rfl, n, hn⟩
      have H2 : Hid (Below w.heap.size w w2) := by rw [hn]; exact below_drewN H1.out.1 n
      rw [decide_eq_true (rfl : p.bys = p.bys)]
      clear hn H1 c30 z30
      go_wp2_with fail
      go_ret
      exact ⟨rfl, H2.out⟩

end Go.Proofs.YtgeoocchdpehdaaGreatDoor
