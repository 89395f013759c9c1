/- manifest: Get; Put of a manifest that may not be. -/
import Derived.Test.YtdbphdllibffnaaGreatMaIJ
import Derived.DeepKeys
import Derived.Deep.RegionHeld
namespace Go.Proofs.YtdbphdllibffnaaGreat
open Go.RowKit Go.Shelf
set_option maxRecDepth 8000

set_option maxHeartbeats 1000000 in
theorem mput_bad {w : World} {p : Nat} {fv : Value} {ms : List FiM} {D : DkD} (h : IsDk w p fv ms D) (ok : DkOk D) (m : MaD) (hy : mayM m = false) :
    Calls Tryz.prog 17 #[.pointer (some ⟨p, 0, none⟩), m.val] w fun e w' => e = .returned (.int .i64 110) ∧ Below w.heap.size w w' := by
  obtain ⟨W, eW⟩ : ∃ W, W = w.alloc (.cells #[.int .u32 m.boot, .int .u32 m.acc, .int .u32 m.cur, .int .i64 m.snap, .int .i64 m.log] 35) := ⟨_, rfl⟩
  have hbW : Below w.heap.size w W := by rw [eW]; exact one_allocK _ _
  have hrow : W.heap[w.heap.size]? = some (.cells #[.int .u32 m.boot, .int .u32 m.acc, .int .u32 m.cur, .int .i64 m.snap, .int .i64 m.log] 35 (0, 0)) := by rw [eW]; exact heap_alloc_new w _
  have HE : Hid _ := eW
  have HNO : Hid _ := isNone_dk (h.later hbW) ok
  have HX : Hid (Below w.heap.size w W ∧ W.heap[w.heap.size]? = some (.cells #[.int .u32 m.boot, .int .u32 m.acc, .int .u32 m.cur, .int .i64 m.snap, .int .i64 m.log] 35 (0, 0)) ∧ mayM m = false) := ⟨hbW, hrow, hy⟩
  have hlW := lt_of_block hrow
  clear h ok hy hbW hrow eW
  go_enter Tryz.func17, Tryz.ntmps17
  go_upto_region 1 with fail
  rw [← HE.out]
  go_wp2_with fail
  refine Calls.mono HNO.out ?_
  rintro e w1 ⟨rfl, hb1⟩
  have hrow1 : w1.heap[w.heap.size]? = some (.cells #[.int .u32 m.boot, .int .u32 m.acc, .int .u32 m.cur, .int .i64 m.snap, .int .i64 m.log] 35 (0, 0)) := (Below.kept hb1).heap HX.out.2.1 (fun e => by omega)
  have hl1 := lt_of_block hrow1
  have d0 := cell_of_row w1 _ 0 _ _ _ hrow1
  have d1 := cell_of_row w1 _ 1 _ _ _ hrow1
  have d2 := cell_of_row w1 _ 2 _ _ _ hrow1
  have d3 := cell_of_row w1 _ 3 _ _ _ hrow1
  have d4 := cell_of_row w1 _ 4 _ _ _ hrow1
  simp only [List.getElem?_toArray, List.getElem?_cons_zero, List.getElem?_cons_succ] at d0 d1 d2 d3 d4
  have HB1 : Hid (Below w.heap.size w w1) := Below.step HX.out.1 hb1
  have HWR : Hid _ := mwrite_no m HX.out.2.2 w1
  clear hb1 hrow1 HNO
  go_wp2_with fail
  refine Calls.mono HWR.out ?_
  rintro e w2 ⟨rfl, hb2⟩
  have HB2 : Hid (Below w.heap.size w w2) := Below.step HB1.out hb2
  clear hb2
  go_wp2_with fail
  go_ret
  exact ⟨rfl, HB2.out⟩

/-- What a function of a manifest, a truth and an error answers. -/
theorem man_ret3 {fn : Func} {p u s : Tmp} (h : fn.results = #[.cell p 35, .tmp u, .tmp s]) (tmps : Array Value) (w : World) (b : Nat) (cs : Array Value) (x y : Value) (t : TypeId) (fr : Nat × Nat) (hp : tmps.getD p undef = .pointer (some ⟨b, 0, none⟩)) (hu : tmps.getD u undef = x) (hs' : tmps.getD s undef = y) (hrow : w.heap[b]? = some (.cells cs t fr)) (hs : cs.size = 5) : (results fn tmps).run Tryz.prog w = .ok (.tuple #[.agg cs, x, y]) w := by
  have hld := run_loadVar_row (P := Tryz.prog) w b t 35 cs fr _ hrow Tryz.underlying35 rfl (by rw [hs]; exact man_size)
  have hp' : tmps[p]?.getD undef = .pointer (some ⟨b, 0, none⟩) := by simpa using hp
  have hu' : tmps[u]?.getD undef = x := by simpa using hu
  have hs2 : tmps[s]?.getD undef = y := by simpa using hs'
  simp [results, h, hp', hu', hs2, asAddr, hld]

set_option maxHeartbeats 2000000 in
theorem mget_good {w : World} {p : Nat} {fv : Value} {ms : List FiM} {D : DkD} (h : IsDk w p fv ms D) (ok : DkOk D) (he : D.errO manN = 0) (m : MaD) (hm : m.Fits) (hy : mayM m = true) (hf : ∃ f, D.files[pl D.files manN]? = some f ∧ f.bytes = maF m) :
    Calls Tryz.prog 18 #[.pointer (some ⟨p, 0, none⟩)] w fun e w' => e = .returned (.tuple #[m.val, .bool true, .int .i64 0]) ∧ Below w.heap.size w w' := by
  obtain ⟨W, eW⟩ : ∃ W, W = w.alloc (.cells #[.int .u32 0, .int .u32 0, .int .u32 0, .int .i64 0, .int .i64 0] 35) := ⟨_, rfl⟩
  have hbW : Below w.heap.size w W := by rw [eW]; exact one_allocK _ _
  have hrow : W.heap[w.heap.size]? = some (.cells #[.int .u32 0, .int .u32 0, .int .u32 0, .int .i64 0, .int .i64 0] 35 (0, 0)) := by rw [eW]; exact heap_alloc_new w _
  have HE : Hid _ := eW
  have HRD : Hid _ := read_any (h.later hbW) ok manN
  rw [he] at HRD
  have HX : Hid (Below w.heap.size w W ∧ W.heap[w.heap.size]? = some (.cells #[.int .u32 0, .int .u32 0, .int .u32 0, .int .i64 0, .int .i64 0] 35 (0, 0)) ∧ m.Fits ∧ mayM m = true ∧ ∃ f, D.files[pl D.files manN]? = some f ∧ f.bytes = maF m) := ⟨hbW, hrow, hm, hy, hf⟩
  have hlW := lt_of_block hrow
  clear h ok hbW hrow eW he hm hy hf
  go_enter Tryz.func18, Tryz.ntmps18
  go_upto_region 1 with fail
  rw [← HE.out]
  go_wp2_with fail
  refine Calls.mono HRD.out ?_
  rintro e w1 ⟨⟨v, rfl, _, hv⟩, hb1⟩
  obtain ⟨f, hf1, ho⟩ := hv trivial
  obtain ⟨f', hf2, hf3⟩ := HX.out.2.2.2.2
  rw [hf1] at hf2
  cases hf2
  rw [hf3] at ho
  obtain ⟨x1, y1, e1, _⟩ := own_shape (owns_mono ho (Nat.zero_le _))
  have HMR : Hid _ := mread_good v m HX.out.2.2.1 HX.out.2.2.2.1 w1 (Sees.own ho)
  have HR1 : Hid (w1.heap[w.heap.size]? = some (.cells #[.int .u32 0, .int .u32 0, .int .u32 0, .int .i64 0, .int .i64 0] 35 (0, 0))) := (Below.kept hb1).heap HX.out.2.1 (fun e => by omega)
  have HB1 : Hid (Below w.heap.size w w1) := Below.step HX.out.1 hb1
  have hlz := lt_of_block HR1.out
  subst e1
  clear hb1 HRD ho hf1 hf3 hv
  go_wp2_with fail
  refine Calls.mono HMR.out ?_
  rintro e w2 ⟨rfl, hb2⟩
  obtain ⟨boot, acc, cur, snap, log⟩ := m
  obtain ⟨W3, eW3⟩ : ∃ W3, W3 = w2.alloc (.cells #[.int .u32 boot, .int .u32 acc, .int .u32 cur, .int .i64 snap, .int .i64 log] 35) := ⟨_, rfl⟩
  have hb3 : Below w2.heap.size w2 W3 := by rw [eW3]; exact one_allocK _ _
  have r6 : W3.heap[w2.heap.size]? = some (.cells #[.int .u32 boot, .int .u32 acc, .int .u32 cur, .int .i64 snap, .int .i64 log] 35 (0, 0)) := by rw [eW3]; exact heap_alloc_new w2 _
  have z6 : W3.heap[w.heap.size]? = some (.cells #[.int .u32 0, .int .u32 0, .int .u32 0, .int .i64 0, .int .i64 0] 35 (0, 0)) := (Below.kept (Below.step hb2 hb3)).heap HR1.out (fun e => by omega)
  have q0 := cell_of_row W3 _ 0 _ _ _ r6
  have q1 := cell_of_row W3 _ 1 _ _ _ r6
  have q2 := cell_of_row W3 _ 2 _ _ _ r6
  have q3 := cell_of_row W3 _ 3 _ _ _ r6
  have q4 := cell_of_row W3 _ 4 _ _ _ r6
  have z0 := cell_of_row W3 _ 0 _ _ _ z6
  have z1 := cell_of_row W3 _ 1 _ _ _ z6
  have z2 := cell_of_row W3 _ 2 _ _ _ z6
  have z3 := cell_of_row W3 _ 3 _ _ _ z6
  have z4 := cell_of_row W3 _ 4 _ _ _ z6
  simp only [List.getElem?_toArray, List.getElem?_cons_zero, List.getElem?_cons_succ] at q0 q1 q2 q3 q4 z0 z1 z2 z3 z4
  have f0 := frozen_of_row W3 w.heap.size 0 _ _ z6
  have f1 := frozen_of_row W3 w.heap.size 1 _ _ z6
  have f2 := frozen_of_row W3 w.heap.size 2 _ _ z6
  have f3 := frozen_of_row W3 w.heap.size 3 _ _ z6
  have f4 := frozen_of_row W3 w.heap.size 4 _ _ z6
  have hl6 := lt_of_block r6
  have hlz6 := lt_of_block z6
  have HB6 : Hid (Below w.heap.size w W3) := Below.step HB1.out (Below.step hb2 hb3)
  have HZ6 : Hid _ := z6
  have HE3 : Hid _ := eW3
  have hne : ¬ w.heap.size = w2.heap.size := by have := hb2.size; omega
  clear r6 z6 hb2 hb3 HMR eW3
  go_upto_region 7 with fail
  rw [← HE3.out]
  go_wp2_with fail
  refine bodyPost_ret (v := .tuple #[MaD.val ⟨boot, acc, cur, snap, log⟩, .bool true, .int .i64 0]) (man_ret3 Tryz.results18 _ _ w.heap.size _ _ _ _ _ rfl rfl rfl (row5 HZ6.out _ _ _ _ _) rfl) rfl ⟨rfl, ?_⟩
  exact HB6.out.trans ((kept5 W3 w.heap.size _ _ _ _ _).below HB6.out.size (fun k e => by omega))
end Go.Proofs.YtdbphdllibffnaaGreat

/- manifest: two manifests held against each other; sample, lives. -/
namespace Go.Proofs.YtdbphdllibffnaaGreat
open Go.RowKit Go.Shelf
set_option maxRecDepth 8000

def eqM (a b : MaD) : Bool := decide (a.boot = b.boot) && (decide (a.acc = b.acc) && (decide (a.cur = b.cur) && (decide (a.snap = b.snap) && decide (a.log = b.log))))

theorem eqM_self (a : MaD) : eqM a a = true := by simp [eqM]
theorem eqMan (a b : MaD) (w : World) : (binOp .eql 35 a.val b.val).run Tryz.prog w = .ok (.bool (eqM a b)) w := by
  obtain ⟨a0, a1, a2, a3, a4⟩ := a
  obtain ⟨b0, b1, b2, b3, b4⟩ := b
  have hu : Tryz.prog.underlying 35 = some (.struct (Tryz.prog.fieldsOf 35)) := by kernel_rfl
  have hp : Tryz.prog.stoodInHeld 35 = false := by kernel_rfl
  have u3 := Tryz.underlying33
  have a3' := Tryz.isAgg33
  have z3 := Tryz.sizeOf33
  have u4 := Tryz.underlying2
  have a4' := Tryz.isAgg2
  have z4 := Tryz.sizeOf2
  unfold MaD.val eqM
  rw [run_eql_struct, show (10000 : Nat) = 9999 + 1 from rfl, run_equalIn_agg w 9999 _ _ _ hu hp]
  simp only [Program.fieldsOf, Tryz.underlying35]
  clear hu hp
  go_simp
  by_cases h0 : a0 = b0 <;> by_cases h1 : a1 = b1 <;> by_cases h2 : a2 = b2 <;> by_cases h3 : a3 = b3 <;> by_cases h4 : a4 = b4 <;> simp [h0, h1, h2, h3, h4]

theorem neqMan (a b : MaD) (w : World) : (binOp .neq 35 a.val b.val).run Tryz.prog w = .ok (.bool (!eqM a b)) w := by
  obtain ⟨a0, a1, a2, a3, a4⟩ := a
  obtain ⟨b0, b1, b2, b3, b4⟩ := b
  have hu : Tryz.prog.underlying 35 = some (.struct (Tryz.prog.fieldsOf 35)) := by kernel_rfl
  have hp : Tryz.prog.stoodInHeld 35 = false := by kernel_rfl
  have u3 := Tryz.underlying33
  have a3' := Tryz.isAgg33
  have z3 := Tryz.sizeOf33
  have u4 := Tryz.underlying2
  have a4' := Tryz.isAgg2
  have z4 := Tryz.sizeOf2
  unfold MaD.val eqM
  rw [run_neq_struct, show (10000 : Nat) = 9999 + 1 from rfl, run_equalIn_agg w 9999 _ _ _ hu hp]
  simp only [Program.fieldsOf, Tryz.underlying35]
  clear hu hp
  go_simp
  by_cases h0 : a0 = b0 <;> by_cases h1 : a1 = b1 <;> by_cases h2 : a2 = b2 <;> by_cases h3 : a3 = b3 <;> by_cases h4 : a4 = b4 <;> simp [h0, h1, h2, h3, h4]

abbrev smpM : MaD := ⟨3, 2, 1, 4, 5⟩
theorem smp_fits : smpM.Fits := by constructor <;> decide
theorem smp_may : mayM smpM = true := by decide

theorem sample_m (w : World) : Calls Tryz.prog 15 #[] w fun e w' => e = .returned (.agg #[.int .u32 3, .int .u32 2, .int .u32 1, .int .i64 4, .int .i64 5]) ∧ Below w.heap.size w w' := by
  have hrow := heap_alloc_new w (.cells #[.int .u32 3, .int .u32 2, .int .u32 1, .int .i64 4, .int .i64 5] 35)
  have HB : Hid (Below w.heap.size w (w.alloc (.cells #[.int .u32 3, .int .u32 2, .int .u32 1, .int .i64 4, .int .i64 5] 35))) := one_allocK _ _
  have HR : Hid _ := hrow
  clear hrow
  go_enter Tryz.func15, Tryz.ntmps15
  go_wp2_with fail
  refine bodyPost_ret (v := .agg #[.int .u32 3, .int .u32 2, .int .u32 1, .int .i64 4, .int .i64 5]) (results_cell_row Tryz.results15 _ _ w.heap.size _ _ _ _ rfl HR.out Tryz.underlying35 rfl man_size) rfl ⟨rfl, HB.out⟩
end Go.Proofs.YtdbphdllibffnaaGreat

/- A Put of a first manifest, as data, and what a loss of power leaves of it. -/
namespace Go.Proofs.YtdbphdllibffnaaGreat
open Go.RowKit Go.Shelf
set_option maxRecDepth 8000

theorem pl_one (f : FiD) (n : ByteArray) (h : ¬ ncmp f.name n < 0) : pl [f] n = 0 := by
  rw [pl_cons, if_neg h]

theorem has_same (bs : List Int) (d : Int) (n : ByteArray) : hasF [⟨n, bs, d⟩] n = true := by
  have hn : ¬ ncmp n n < 0 := by rw [ncmp_self]; decide
  rw [hasF_iff]
  have h0 : pl [(⟨n, bs, d⟩ : FiD)] n = 0 := pl_one _ _ hn
  refine ⟨by rw [h0]; simp, ?_⟩
  simp only [h0]
  rfl

theorem has_none (n : ByteArray) : hasF [] n = false := by
  rw [Bool.eq_false_iff]
  intro e
  obtain ⟨h1, _⟩ := (hasF_iff _ _).1 e
  simp at h1

abbrev pfA (D : DkD) (bs : List Int) : DkD := D.done [⟨newN, bs, 0⟩]
abbrev pfB (D : DkD) (bs : List Int) : DkD := (pfA D bs).done [⟨newN, bs, bs.length⟩]
abbrev pfC (D : DkD) (bs : List Int) : DkD := (pfB D bs).done [⟨manN, bs, bs.length⟩]

theorem isNm_new : isNm newN = true := by decide
theorem isNm_man : isNm manN = true := by decide

theorem step0 (D : DkD) (bs : List Int) (hf : D.files = []) (hon : D.on = true) (hr : D.room = 1000) (hb : bs.length = 38) : stepK bs 0 D = if D.armed = 0 then (23, D.off) else (0, pfA D bs) := by
  have he : D.errA newN bs.length = 0 := by
    unfold DkD.errA
    rw [hon, isNm_new, hf, has_none, hr, hb]
    decide
  have ha : appF D.files newN bs = [⟨newN, bs, 0⟩] := by
    rw [hf]
    unfold appF insF
    rw [has_none]
    simp
  show D.act _ _ = _
  rw [he, ha]
  rfl

theorem step1 (D : DkD) (bs : List Int) (hf : D.files = [⟨newN, bs, 0⟩]) (hon : D.on = true) : stepK bs 1 D = if D.armed = 0 then (23, D.off) else (0, D.done [⟨newN, bs, bs.length⟩]) := by
  have he : D.errO newN = 0 := by
    unfold DkD.errO
    rw [hon, isNm_new, hf, has_same]
    rfl
  have hn : ¬ ncmp newN newN < 0 := by decide
  have ha : updF D.files newN durF = [⟨newN, bs, bs.length⟩] := by
    rw [hf]
    unfold updF
    rw [pl_one _ _ hn]
    rfl
  show D.act _ _ = _
  rw [he, ha]
  rfl

theorem step2 (D : DkD) (bs : List Int) (hf : D.files = [⟨newN, bs, bs.length⟩]) (hon : D.on = true) : stepK bs 2 D = if D.armed = 0 then (23, D.off) else (0, D.done [⟨manN, bs, bs.length⟩]) := by
  have he : D.errR newN manN = 0 := by
    unfold DkD.errR
    rw [hon, isNm_new, isNm_man, hf, has_same]
    rfl
  have hn : ¬ ncmp newN newN < 0 := by decide
  have ha : renF D.files newN manN = [⟨manN, bs, bs.length⟩] := by
    rw [hf]
    unfold renF
    rw [pl_one _ _ hn]
    show movF [⟨newN, bs, bs.length⟩] newN manN ⟨newN, bs, bs.length⟩ = _
    have h1 : dropI [(⟨newN, bs, bs.length⟩ : FiD)] newN = 0 := by
      unfold dropI
      rw [has_same, if_pos rfl, pl_one _ _ hn]
    unfold movF
    rw [h1]
    have h2 : [(⟨newN, bs, bs.length⟩ : FiD)].eraseIdx 0 = [] := rfl
    rw [h2]
    unfold insF
    simp
  show D.act _ _ = _
  rw [he, ha]
  rfl

theorem there (D : DkD) (hon : D.on = true) (bs : List Int) (d : Int) (hf : D.files = [⟨manN, bs, d⟩]) : D.errO manN = 0 ∧ ∃ f, D.files[pl D.files manN]? = some f ∧ f.bytes = bs := by
  have hn : ¬ ncmp manN manN < 0 := by decide
  refine ⟨?_, ?_⟩
  · unfold DkD.errO
    rw [hon, isNm_man, hf, has_same]
    rfl
  · rw [hf, pl_one _ _ hn]
    exact ⟨_, rfl, rfl⟩

theorem put_plain (D : DkD) (bs : List Int) (hf : D.files = []) (hon : D.on = true) (hr : D.room = 1000) (hb : bs.length = 38) (ha : D.armed = -1) : tailK bs 3 D = (0, pfC D bs) := by
  have h3 : tailK bs 3 D = thenK (stepK bs 0 D) (tailK bs 2) := rfl
  have h2 : ∀ D, tailK bs 2 D = thenK (stepK bs 1 D) (tailK bs 1) := fun _ => rfl
  have h1 : ∀ D, tailK bs 1 D = thenK (stepK bs 2 D) (tailK bs 0) := fun _ => rfl
  have a1 : (pfA D bs).armed = -1 := by show max (D.armed - 1) (-1) = -1; rw [ha]; decide
  have a2 : (pfB D bs).armed = -1 := by show max ((pfA D bs).armed - 1) (-1) = -1; rw [a1]; decide
  rw [h3, step0 D bs hf hon hr hb, if_neg (by rw [ha]; decide)]
  have e1 : thenK (0, pfA D bs) (tailK bs 2) = tailK bs 2 (pfA D bs) := rfl
  rw [e1, h2, step1 (pfA D bs) bs rfl hon, if_neg (by rw [a1]; decide)]
  have e2 : thenK (0, (pfA D bs).done [⟨newN, bs, bs.length⟩]) (tailK bs 1) = tailK bs 1 (pfB D bs) := rfl
  rw [e2, h1, step2 (pfB D bs) bs rfl hon, if_neg (by rw [a2]; decide)]
  rfl
end Go.Proofs.YtdbphdllibffnaaGreat
