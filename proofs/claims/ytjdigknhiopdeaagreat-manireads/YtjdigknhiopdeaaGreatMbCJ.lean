/- The document's Bytes and Write of a manifest; what Write answers, of the program and of the document, in one form. -/
import Derived.Test.YtjdigknhiopdeaaGreatMbBJ
import Derived.Test.YtjdigknhiopdeaaGreatMaBJ
namespace Go.Proofs.YtjdigknhiopdeaaGreat
open Go.RowKit Go.Shelf
set_option maxRecDepth 8000
set_option linter.unusedSimpArgs false

set_option maxHeartbeats 1000000 in
theorem refBytes_m (m : MaD) (hm : m.Fits) (w : World) : Calls Tryz.prog 26 #[m.val] w fun e w' => ∃ v, e = .returned v ∧ Owns w' w.heap.size v (maF m) ∧ Below w.heap.size w w' := by
  have HM : Hid _ := hm
  have HY : Hid (Byts (maB m)) := maB_byts m hm
  clear hm
  obtain ⟨boot, acc, cur, snap, log⟩ := m
  obtain ⟨W, eW⟩ : ∃ W, W = w.alloc (.cells #[.int .u32 boot, .int .u32 acc, .int .u32 cur, .int .i64 snap, .int .i64 log] 27) := ⟨_, rfl⟩
  have HX : Hid (Below w.heap.size w W ∧ W.heap.size = w.heap.size + 1 ∧ W.heap[w.heap.size]? = some (.cells #[.int .u32 boot, .int .u32 acc, .int .u32 cur, .int .i64 snap, .int .i64 log] 27 (0, 0))) := by
    rw [eW]
    exact ⟨one_allocK _ _, World.size_alloc _ _, heap_alloc_new w _⟩
  have HE : Hid _ := eW
  have HI : Hid _ := rI8_m 1 W (by omega) (by omega)
  clear eW
  go_enter Tryz.func26, Tryz.ntmps26
  go_upto_region 1 with fail
  rw [← HE.out]
  clear HE
  go_wp2_with fail
  refine Calls.mono HI.out ?_
  rintro e w0 ⟨v0, rfl, ho, hb⟩
  have H0 : Hid (Bt w (.cells #[.int .u32 boot, .int .u32 acc, .int .u32 cur, .int .i64 snap, .int .i64 log] 27 (0, 0)) w0 v0 [1]) := ⟨by have := ho; rw [HX.out.2.1] at this; exact this, Below.step HX.out.1 hb, (Below.kept hb).heap HX.out.2.2 (fun e => by have := HX.out.2.1; omega)⟩
  clear ho hb HI HX
  have r0 := H0.out.row
  have l0 := lt_of_block r0
  have c0 := cell_of_row w0 _ 0 _ _ _ r0
  simp only [List.getElem?_toArray, List.getElem?_cons_zero, List.getElem?_cons_succ] at c0
  have HU0 : Hid _ := rU32_m boot w0 HM.out.b0 HM.out.b1
  clear r0
  go_wp2_with fail
  refine Calls.mono HU0.out ?_
  rintro e x0 ⟨u0, rfl, ho, hb⟩
  have HJ0 : Hid _ := join_bt H0.out hb ho (by simp [be4, be8])
  clear ho hb HU0 c0 l0
  go_wp2_with fail
  refine Calls.mono HJ0.out ?_
  rintro e w1 ⟨v1, rfl, hh⟩
  have H1 : Hid (Bt w (.cells #[.int .u32 boot, .int .u32 acc, .int .u32 cur, .int .i64 snap, .int .i64 log] 27 (0, 0)) w1 v1 ([1] ++ be4 boot)) := hh
  clear hh HJ0 H0
  have r1 := H1.out.row
  have l1 := lt_of_block r1
  have c1 := cell_of_row w1 _ 1 _ _ _ r1
  simp only [List.getElem?_toArray, List.getElem?_cons_zero, List.getElem?_cons_succ] at c1
  have HU1 : Hid _ := rU32_m acc w1 HM.out.a0 HM.out.a1
  clear r1
  go_wp2_with fail
  refine Calls.mono HU1.out ?_
  rintro e x1 ⟨u1, rfl, ho, hb⟩
  have HJ1 : Hid _ := join_bt H1.out hb ho (by simp [be4, be8])
  clear ho hb HU1 c1 l1
  go_wp2_with fail
  refine Calls.mono HJ1.out ?_
  rintro e w2 ⟨v2, rfl, hh⟩
  have H2 : Hid (Bt w (.cells #[.int .u32 boot, .int .u32 acc, .int .u32 cur, .int .i64 snap, .int .i64 log] 27 (0, 0)) w2 v2 (([1] ++ be4 boot) ++ be4 acc)) := hh
  clear hh HJ1 H1
  have r2 := H2.out.row
  have l2 := lt_of_block r2
  have c2 := cell_of_row w2 _ 2 _ _ _ r2
  simp only [List.getElem?_toArray, List.getElem?_cons_zero, List.getElem?_cons_succ] at c2
  have HU2 : Hid _ := rU32_m cur w2 HM.out.c0 HM.out.c1
  clear r2
  go_wp2_with fail
  refine Calls.mono HU2.out ?_
  rintro e x2 ⟨u2, rfl, ho, hb⟩
  have HJ2 : Hid _ := join_bt H2.out hb ho (by simp [be4, be8])
  clear ho hb HU2 c2 l2
  go_wp2_with fail
  refine Calls.mono HJ2.out ?_
  rintro e w3 ⟨v3, rfl, hh⟩
  have H3 : Hid (Bt w (.cells #[.int .u32 boot, .int .u32 acc, .int .u32 cur, .int .i64 snap, .int .i64 log] 27 (0, 0)) w3 v3 ((([1] ++ be4 boot) ++ be4 acc) ++ be4 cur)) := hh
  clear hh HJ2 H2
  have r3 := H3.out.row
  have l3 := lt_of_block r3
  have c3 := cell_of_row w3 _ 3 _ _ _ r3
  simp only [List.getElem?_toArray, List.getElem?_cons_zero, List.getElem?_cons_succ] at c3
  have HU3 : Hid _ := refInt64_any snap w3 HM.out.s0 HM.out.s1
  clear r3
  go_wp2_with fail
  refine Calls.mono HU3.out ?_
  rintro e x3 ⟨u3, rfl, ho, hb⟩
  have HJ3 : Hid _ := join_bt H3.out hb ho (by simp [be4, be8])
  clear ho hb HU3 c3 l3
  go_wp2_with fail
  refine Calls.mono HJ3.out ?_
  rintro e w4 ⟨v4, rfl, hh⟩
  have H4 : Hid (Bt w (.cells #[.int .u32 boot, .int .u32 acc, .int .u32 cur, .int .i64 snap, .int .i64 log] 27 (0, 0)) w4 v4 (((([1] ++ be4 boot) ++ be4 acc) ++ be4 cur) ++ be8 (up64 snap))) := hh
  clear hh HJ3 H3
  have r4 := H4.out.row
  have l4 := lt_of_block r4
  have c4 := cell_of_row w4 _ 4 _ _ _ r4
  simp only [List.getElem?_toArray, List.getElem?_cons_zero, List.getElem?_cons_succ] at c4
  have HU4 : Hid _ := refInt64_any log w4 HM.out.l0 HM.out.l1
  clear r4
  go_wp2_with fail
  refine Calls.mono HU4.out ?_
  rintro e x4 ⟨u4, rfl, ho, hb⟩
  have HJ4 : Hid _ := join_bt H4.out hb ho (by simp [be4, be8])
  clear ho hb HU4 c4 l4
  go_wp2_with fail
  refine Calls.mono HJ4.out ?_
  rintro e w5 ⟨v5, rfl, hh⟩
  have H5 : Hid (Bt w (.cells #[.int .u32 boot, .int .u32 acc, .int .u32 cur, .int .i64 snap, .int .i64 log] 27 (0, 0)) w5 v5 ((((([1] ++ be4 boot) ++ be4 acc) ++ be4 cur) ++ be8 (up64 snap)) ++ be8 (up64 log))) := hh
  clear hh HJ4 H4
  have HF : Hid _ := refFrame_any v5 (maB ⟨boot, acc, cur, snap, log⟩) w5 (by have := Sees.own H5.out.own; simpa [maB] using this) HY.out (by rw [maB_len]; omega)
  go_wp2_with fail
  refine Calls.mono HF.out ?_
  rintro e w6 ⟨v6, rfl, ho, hb⟩
  have HR : Hid (Owns w6 w.heap.size v6 (maF ⟨boot, acc, cur, snap, log⟩) ∧ Below w.heap.size w w6) := ⟨owns_mono ho H5.out.bel.size, Below.step H5.out.bel hb⟩
  clear ho hb HF
  go_wp2_with fail
  go_ret
  exact ⟨_, rfl, HR.out⟩

theorem rMay_w (m : MaD) (w : World) : Calls Tryz.prog 25 #[m.val] w fun e w' => e = .returned (.bool (mayM m)) ∧ Below w.heap.size w w' := by
  obtain ⟨W, eW⟩ : ∃ W, W = w.alloc (.cells #[.int .u32 m.boot, .int .u32 m.acc, .int .u32 m.cur, .int .i64 m.snap, .int .i64 m.log] 27) := ⟨_, rfl⟩
  have HB : Hid (Below w.heap.size w W) := by rw [eW]; exact one_allocK _ _
  rw [eW] at HB
  clear eW
  unfold mayM
  by_cases h1 : m.cur ≤ m.acc
  · have d1 : decide (m.cur ≤ m.acc) = true := decide_eq_true h1
    by_cases h2 : m.acc ≤ 2147483647
    · have d2 : decide (m.acc ≤ 2147483647) = true := decide_eq_true h2
      by_cases h3 : 0 ≤ m.snap
      · have d3 : decide (0 ≤ m.snap) = true := decide_eq_true h3
        have d3' : decide (m.snap ≥ 0) = true := decide_eq_true h3
        have d4' : decide (m.log ≥ 0) = decide (0 ≤ m.log) := rfl
        rw [d1, d2, d3]
        obtain ⟨boot, acc, cur, snap, log⟩ := m
        simp only at *
        go_enter Tryz.func25, Tryz.ntmps25
        go_wp2_with fail
        go_ret
        exact ⟨by simp, HB.out⟩
      · have d3 : decide (0 ≤ m.snap) = false := decide_eq_false h3
        have d3' : decide (m.snap ≥ 0) = false := decide_eq_false h3
        rw [d1, d2, d3]
        obtain ⟨boot, acc, cur, snap, log⟩ := m
        simp only at *
        go_enter Tryz.func25, Tryz.ntmps25
        go_wp2_with fail
        go_ret
        exact ⟨by simp, HB.out⟩
    · have d2 : decide (m.acc ≤ 2147483647) = false := decide_eq_false h2
      rw [d1, d2]
      obtain ⟨boot, acc, cur, snap, log⟩ := m
      simp only at *
      go_enter Tryz.func25, Tryz.ntmps25
      go_wp2_with fail
      go_ret
      exact ⟨by simp, HB.out⟩
  · have d1 : decide (m.cur ≤ m.acc) = false := decide_eq_false h1
    rw [d1]
    obtain ⟨boot, acc, cur, snap, log⟩ := m
    simp only at *
    go_enter Tryz.func25, Tryz.ntmps25
    go_wp2_with fail
    go_ret
    exact ⟨by simp, HB.out⟩

end Go.Proofs.YtjdigknhiopdeaaGreat
