/- manifest: Get; Put of a manifest that may not be. -/
import Derived.Test.YtkpdckpcnnmdkaaMaIJ
namespace Go.Proofs.Ytkpdckpcnnmdkaa
open Go.RowKit Go.Shelf
set_option maxRecDepth 8000

set_option maxHeartbeats 1000000 in
theorem mput_bad {w : World} {p : Nat} {fv : Value} {ms : List FiM} {D : DkD} (h : IsDk w p fv ms D) (ok : DkOk D) (m : MaD) (hy : mayM m = false) :
    Calls Try.prog 9 #[.pointer (some ⟨p, 0, none⟩), m.val] w fun e w' => e = .returned (.int .i64 110) ∧ Below w.heap.size w w' := by
  obtain ⟨W, eW⟩ : ∃ W, W = w.alloc (.cells #[.int .u32 m.boot, .int .u32 m.acc, .int .u32 m.cur, .int .i64 m.snap, .int .i64 m.log] 24) := ⟨_, rfl⟩
  have hbW : Below w.heap.size w W := by rw [eW]; exact one_allocK _ _
  have hrow : W.heap[w.heap.size]? = some (.cells #[.int .u32 m.boot, .int .u32 m.acc, .int .u32 m.cur, .int .i64 m.snap, .int .i64 m.log] 24 (0, 0)) := by rw [eW]; exact heap_alloc_new w _
  have HE : Hid _ := eW
  have HNO : Hid _ := isNone_dk (h.later hbW) ok
  have HX : Hid (Below w.heap.size w W ∧ W.heap[w.heap.size]? = some (.cells #[.int .u32 m.boot, .int .u32 m.acc, .int .u32 m.cur, .int .i64 m.snap, .int .i64 m.log] 24 (0, 0)) ∧ mayM m = false) := ⟨hbW, hrow, hy⟩
  have hlW := lt_of_block hrow
  clear h ok hy hbW hrow eW
  go_enter Try.func9, Try.ntmps9
  go_upto_region 1 with fail
  rw [← HE.out]
  go_wp2_with fail
  refine Calls.mono HNO.out ?_
  rintro e w1 ⟨rfl, hb1⟩
  have hrow1 : w1.heap[w.heap.size]? = some (.cells #[.int .u32 m.boot, .int .u32 m.acc, .int .u32 m.cur, .int .i64 m.snap, .int .i64 m.log] 24 (0, 0)) := (Below.kept hb1).heap HX.out.2.1 (fun e => by omega)
  have hl1 := lt_of_block hrow1
  have d0 := cell_of_row w1 _ 0 _ _ _ hrow1
  have d1 := cell_of_row w1 _ 1 _ _ _ hrow1
  have d2 := cell_of_row w1 _ 2 _ _ _ hrow1
  have d3 := cell_of_row w1 _ 3 _ _ _ hrow1
  have d4 := cell_of_row w1 _ 4 _ _ _ hrow1
  simp only [List.getElem?_toArray, List.getElem?_cons_zero, List.getElem?_cons_succ] at d0 d1 d2 d3 d4
  have HB1 : Hid (Below w.heap.size w w1) := Below.step HX.out.1 hb1
  have HWR : Hid _ := mwrite_no m HX.out.2.2 w1
  clear hb1 hrow1 HNO
  go_wp2_with fail
  refine Calls.mono HWR.out ?_
  rintro e w2 ⟨rfl, hb2⟩
  have HB2 : Hid (Below w.heap.size w w2) := Below.step HB1.out hb2
  clear hb2
  go_wp2_with fail
  go_ret
  exact ⟨rfl, HB2.out⟩

set_option maxHeartbeats 400000 in
theorem mput_nd {v : Value} {w : World} (h : Nd v w) (m : MaD) : Calls Try.prog 9 #[v, m.val] w fun e w' => e = .returned (.int .i64 1) ∧ Below w.heap.size w w' := by
  obtain ⟨W, eW⟩ : ∃ W, W = w.alloc (.cells #[.int .u32 m.boot, .int .u32 m.acc, .int .u32 m.cur, .int .i64 m.snap, .int .i64 m.log] 24) := ⟨_, rfl⟩
  have hbW : Below w.heap.size w W := by rw [eW]; exact one_allocK _ _
  have HE : Hid _ := eW
  have HNO : Hid _ := isNone_nd (h.below hbW)
  have HX : Hid _ := hbW
  clear hbW eW h
  go_enter Try.func9, Try.ntmps9
  go_upto_region 1 with fail
  rw [← HE.out]
  go_wp2_with fail
  refine Calls.mono HNO.out ?_
  rintro e w1 ⟨rfl, hb1⟩
  have HB1 : Hid (Below w.heap.size w w1) := Below.step HX.out hb1
  clear hb1
  go_wp2_with fail
  go_ret
  exact ⟨rfl, HB1.out⟩

/-- What a function of a manifest, a truth and an error answers. -/
theorem man_ret3 {fn : Func} {p u s : Tmp} (h : fn.results = #[.cell p 24, .tmp u, .tmp s]) (tmps : Array Value) (w : World) (b : Nat) (cs : Array Value) (x y : Value) (t : TypeId) (fr : Nat × Nat) (hp : tmps.getD p undef = .pointer (some ⟨b, 0, none⟩)) (hu : tmps.getD u undef = x) (hs' : tmps.getD s undef = y) (hrow : w.heap[b]? = some (.cells cs t fr)) (hs : cs.size = 5) : (results fn tmps).run Try.prog w = .ok (.tuple #[.agg cs, x, y]) w := by
  have hld := run_loadVar_row (P := Try.prog) w b t 24 cs fr _ hrow Try.underlying24 rfl (by rw [hs]; exact man_size)
  have hp' : tmps[p]?.getD undef = .pointer (some ⟨b, 0, none⟩) := by simpa using hp
  have hu' : tmps[u]?.getD undef = x := by simpa using hu
  have hs2 : tmps[s]?.getD undef = y := by simpa using hs'
  simp [results, h, hp', hu', hs2, asAddr, hld]

set_option maxHeartbeats 1000000 in
theorem mget_none {w : World} {p : Nat} {fv : Value} {ms : List FiM} {D : DkD} (h : IsDk w p fv ms D) (ok : DkOk D) (he : D.errO manN = 20) :
    Calls Try.prog 15 #[.pointer (some ⟨p, 0, none⟩)] w fun e w' => e = .returned (.tuple #[zeroM, .bool false, .int .i64 0]) ∧ Below w.heap.size w w' := by
  obtain ⟨W, eW⟩ : ∃ W, W = w.alloc (.cells #[.int .u32 0, .int .u32 0, .int .u32 0, .int .i64 0, .int .i64 0] 24) := ⟨_, rfl⟩
  have hbW : Below w.heap.size w W := by rw [eW]; exact one_allocK _ _
  have hrow : W.heap[w.heap.size]? = some (.cells #[.int .u32 0, .int .u32 0, .int .u32 0, .int .i64 0, .int .i64 0] 24 (0, 0)) := by rw [eW]; exact heap_alloc_new w _
  have HE : Hid _ := eW
  have HRD : Hid _ := read_any (h.later hbW) ok manN
  rw [he] at HRD
  have HX : Hid (Below w.heap.size w W ∧ W.heap[w.heap.size]? = some (.cells #[.int .u32 0, .int .u32 0, .int .u32 0, .int .i64 0, .int .i64 0] 24 (0, 0))) := ⟨hbW, hrow⟩
  have hlW := lt_of_block hrow
  clear h ok hbW hrow eW he
  go_enter Try.func15, Try.ntmps15
  go_upto_region 1 with fail
  rw [← HE.out]
  go_wp2_with fail
  refine Calls.mono HRD.out ?_
  rintro e w1 ⟨⟨v, rfl, _⟩, hb1⟩
  have hrow1 : w1.heap[w.heap.size]? = some (.cells #[.int .u32 0, .int .u32 0, .int .u32 0, .int .i64 0, .int .i64 0] 24 (0, 0)) := (Below.kept hb1).heap HX.out.2 (fun e => by omega)
  have hl1 := lt_of_block hrow1
  have c0 := cell_of_row w1 _ 0 _ _ _ hrow1
  have c1 := cell_of_row w1 _ 1 _ _ _ hrow1
  have c2 := cell_of_row w1 _ 2 _ _ _ hrow1
  have c3 := cell_of_row w1 _ 3 _ _ _ hrow1
  have c4 := cell_of_row w1 _ 4 _ _ _ hrow1
  simp only [List.getElem?_toArray, List.getElem?_cons_zero, List.getElem?_cons_succ] at c0 c1 c2 c3 c4
  have f0 := frozen_of_row w1 w.heap.size 0 _ _ hrow1
  have f1 := frozen_of_row w1 w.heap.size 1 _ _ hrow1
  have f2 := frozen_of_row w1 w.heap.size 2 _ _ hrow1
  have f3 := frozen_of_row w1 w.heap.size 3 _ _ hrow1
  have f4 := frozen_of_row w1 w.heap.size 4 _ _ hrow1
  have HB1 : Hid (Below w.heap.size w w1) := Below.step HX.out.1 hb1
  have HR1 : Hid _ := hrow1
  clear hrow1 hb1 HRD
  go_wp2_with fail
  refine bodyPost_ret (v := .tuple #[zeroM, .bool false, .int .i64 0]) (man_ret3 Try.results15 _ _ w.heap.size _ _ _ _ _ rfl rfl rfl (row5 HR1.out _ _ _ _ _) rfl) rfl ⟨rfl, ?_⟩
  exact HB1.out.trans ((kept5 w1 w.heap.size _ _ _ _ _).below HB1.out.size (fun k e => by omega))

set_option maxHeartbeats 1000000 in
theorem mget_nd {v : Value} {w : World} (h : Nd v w) :
    Calls Try.prog 15 #[v] w fun e w' => e = .returned (.tuple #[zeroM, .bool false, .int .i64 1]) ∧ Below w.heap.size w w' := by
  obtain ⟨W, eW⟩ : ∃ W, W = w.alloc (.cells #[.int .u32 0, .int .u32 0, .int .u32 0, .int .i64 0, .int .i64 0] 24) := ⟨_, rfl⟩
  have hbW : Below w.heap.size w W := by rw [eW]; exact one_allocK _ _
  have hrow : W.heap[w.heap.size]? = some (.cells #[.int .u32 0, .int .u32 0, .int .u32 0, .int .i64 0, .int .i64 0] 24 (0, 0)) := by rw [eW]; exact heap_alloc_new w _
  have HE : Hid _ := eW
  have HRD : Hid _ := read_nd (h.below hbW) manN
  have HX : Hid (Below w.heap.size w W ∧ W.heap[w.heap.size]? = some (.cells #[.int .u32 0, .int .u32 0, .int .u32 0, .int .i64 0, .int .i64 0] 24 (0, 0))) := ⟨hbW, hrow⟩
  have hlW := lt_of_block hrow
  clear h hbW hrow eW
  go_enter Try.func15, Try.ntmps15
  go_upto_region 1 with fail
  rw [← HE.out]
  go_wp2_with fail
  refine Calls.mono HRD.out ?_
  rintro e w1 ⟨rfl, hb1⟩
  have hrow1 : w1.heap[w.heap.size]? = some (.cells #[.int .u32 0, .int .u32 0, .int .u32 0, .int .i64 0, .int .i64 0] 24 (0, 0)) := (Below.kept hb1).heap HX.out.2 (fun e => by omega)
  have hl1 := lt_of_block hrow1
  have c0 := cell_of_row w1 _ 0 _ _ _ hrow1
  have c1 := cell_of_row w1 _ 1 _ _ _ hrow1
  have c2 := cell_of_row w1 _ 2 _ _ _ hrow1
  have c3 := cell_of_row w1 _ 3 _ _ _ hrow1
  have c4 := cell_of_row w1 _ 4 _ _ _ hrow1
  simp only [List.getElem?_toArray, List.getElem?_cons_zero, List.getElem?_cons_succ] at c0 c1 c2 c3 c4
  have f0 := frozen_of_row w1 w.heap.size 0 _ _ hrow1
  have f1 := frozen_of_row w1 w.heap.size 1 _ _ hrow1
  have f2 := frozen_of_row w1 w.heap.size 2 _ _ hrow1
  have f3 := frozen_of_row w1 w.heap.size 3 _ _ hrow1
  have f4 := frozen_of_row w1 w.heap.size 4 _ _ hrow1
  have HB1 : Hid (Below w.heap.size w w1) := Below.step HX.out.1 hb1
  have HR1 : Hid _ := hrow1
  clear hrow1 hb1 HRD
  go_wp2_with fail
  refine bodyPost_ret (v := .tuple #[zeroM, .bool false, .int .i64 1]) (man_ret3 Try.results15 _ _ w.heap.size _ _ _ _ _ rfl rfl rfl (row5 HR1.out _ _ _ _ _) rfl) rfl ⟨rfl, ?_⟩
  exact HB1.out.trans ((kept5 w1 w.heap.size _ _ _ _ _).below HB1.out.size (fun k e => by omega))

set_option maxHeartbeats 2000000 in
theorem mget_good {w : World} {p : Nat} {fv : Value} {ms : List FiM} {D : DkD} (h : IsDk w p fv ms D) (ok : DkOk D) (he : D.errO manN = 0) (m : MaD) (hm : m.Fits) (hy : mayM m = true) (hf : ∃ f, D.files[pl D.files manN]? = some f ∧ f.bytes = maF m) :
    Calls Try.prog 15 #[.pointer (some ⟨p, 0, none⟩)] w fun e w' => e = .returned (.tuple #[m.val, .bool true, .int .i64 0]) ∧ Below w.heap.size w w' := by
  obtain ⟨W, eW⟩ : ∃ W, W = w.alloc (.cells #[.int .u32 0, .int .u32 0, .int .u32 0, .int .i64 0, .int .i64 0] 24) := ⟨_, rfl⟩
  have hbW : Below w.heap.size w W := by rw [eW]; exact one_allocK _ _
  have hrow : W.heap[w.heap.size]? = some (.cells #[.int .u32 0, .int .u32 0, .int .u32 0, .int .i64 0, .int .i64 0] 24 (0, 0)) := by rw [eW]; exact heap_alloc_new w _
  have HE : Hid _ := eW
  have HRD : Hid _ := read_any (h.later hbW) ok manN
  rw [he] at HRD
  have HX : Hid (Below w.heap.size w W ∧ W.heap[w.heap.size]? = some (.cells #[.int .u32 0, .int .u32 0, .int .u32 0, .int .i64 0, .int .i64 0] 24 (0, 0)) ∧ m.Fits ∧ mayM m = true ∧ ∃ f, D.files[pl D.files manN]? = some f ∧ f.bytes = maF m) := ⟨hbW, hrow, hm, hy, hf⟩
  have hlW := lt_of_block hrow
  clear h ok hbW hrow eW he hm hy hf
  go_enter Try.func15, Try.ntmps15
  go_upto_region 1 with fail
  rw [← HE.out]
  go_wp2_with fail
  refine Calls.mono HRD.out ?_
  rintro e w1 ⟨⟨v, rfl, _, hv⟩, hb1⟩
  obtain ⟨f, hf1, ho⟩ := hv trivial
  obtain ⟨f', hf2, hf3⟩ := HX.out.2.2.2.2
  rw [hf1] at hf2
  cases hf2
  rw [hf3] at ho
  obtain ⟨x1, y1, e1, _⟩ := own_shape (owns_mono ho (Nat.zero_le _))
  have HMR : Hid _ := mread_good v m HX.out.2.2.1 HX.out.2.2.2.1 w1 (Sees.own ho)
  have HR1 : Hid (w1.heap[w.heap.size]? = some (.cells #[.int .u32 0, .int .u32 0, .int .u32 0, .int .i64 0, .int .i64 0] 24 (0, 0))) := (Below.kept hb1).heap HX.out.2.1 (fun e => by omega)
  have HB1 : Hid (Below w.heap.size w w1) := Below.step HX.out.1 hb1
  have hlz := lt_of_block HR1.out
  subst e1
  clear hb1 HRD ho hf1 hf3 hv
  go_wp2_with fail
  refine Calls.mono HMR.out ?_
  rintro e w2 ⟨rfl, hb2⟩
  obtain ⟨boot, acc, cur, snap, log⟩ := m
  obtain ⟨W3, eW3⟩ : ∃ W3, W3 = w2.alloc (.cells #[.int .u32 boot, .int .u32 acc, .int .u32 cur, .int .i64 snap, .int .i64 log] 24) := ⟨_, rfl⟩
  have hb3 : Below w2.heap.size w2 W3 := by rw [eW3]; exact one_allocK _ _
  have r6 : W3.heap[w2.heap.size]? = some (.cells #[.int .u32 boot, .int .u32 acc, .int .u32 cur, .int .i64 snap, .int .i64 log] 24 (0, 0)) := by rw [eW3]; exact heap_alloc_new w2 _
  have z6 : W3.heap[w.heap.size]? = some (.cells #[.int .u32 0, .int .u32 0, .int .u32 0, .int .i64 0, .int .i64 0] 24 (0, 0)) := (Below.kept (Below.step hb2 hb3)).heap HR1.out (fun e => by omega)
  have q0 := cell_of_row W3 _ 0 _ _ _ r6
  have q1 := cell_of_row W3 _ 1 _ _ _ r6
  have q2 := cell_of_row W3 _ 2 _ _ _ r6
  have q3 := cell_of_row W3 _ 3 _ _ _ r6
  have q4 := cell_of_row W3 _ 4 _ _ _ r6
  have z0 := cell_of_row W3 _ 0 _ _ _ z6
  have z1 := cell_of_row W3 _ 1 _ _ _ z6
  have z2 := cell_of_row W3 _ 2 _ _ _ z6
  have z3 := cell_of_row W3 _ 3 _ _ _ z6
  have z4 := cell_of_row W3 _ 4 _ _ _ z6
  simp only [List.getElem?_toArray, List.getElem?_cons_zero, List.getElem?_cons_succ] at q0 q1 q2 q3 q4 z0 z1 z2 z3 z4
  have f0 := frozen_of_row W3 w.heap.size 0 _ _ z6
  have f1 := frozen_of_row W3 w.heap.size 1 _ _ z6
  have f2 := frozen_of_row W3 w.heap.size 2 _ _ z6
  have f3 := frozen_of_row W3 w.heap.size 3 _ _ z6
  have f4 := frozen_of_row W3 w.heap.size 4 _ _ z6
  have hl6 := lt_of_block r6
  have hlz6 := lt_of_block z6
  have HB6 : Hid (Below w.heap.size w W3) := Below.step HB1.out (Below.step hb2 hb3)
  have HZ6 : Hid _ := z6
  have HE3 : Hid _ := eW3
  have hne : ¬ w.heap.size = w2.heap.size := by have := hb2.size; omega
  clear r6 z6 hb2 hb3 HMR eW3
  go_upto_region 7 with fail
  rw [← HE3.out]
  go_wp2_with fail
  refine bodyPost_ret (v := .tuple #[MaD.val ⟨boot, acc, cur, snap, log⟩, .bool true, .int .i64 0]) (man_ret3 Try.results15 _ _ w.heap.size _ _ _ _ _ rfl rfl rfl (row5 HZ6.out _ _ _ _ _) rfl) rfl ⟨rfl, ?_⟩
  exact HB6.out.trans ((kept5 W3 w.heap.size _ _ _ _ _).below HB6.out.size (fun k e => by omega))
end Go.Proofs.Ytkpdckpcnnmdkaa
