/- Get of the program and of the document, for whatever the file holds. -/
import Derived.Test.YtdbphdllibffnaaGreatMsAJ
import Derived.Test.YtdbphdllibffnaaGreatMrDJ
import Derived.Test.YtdbphdllibffnaaGreatMrFJ
import Derived.Test.YtdbphdllibffnaaGreatMaLJ
namespace Go.Proofs.YtdbphdllibffnaaGreat
open Go.RowKit Go.Shelf
set_option maxRecDepth 8000
set_option linter.unusedSimpArgs false

set_option maxHeartbeats 2000000 in
theorem mget_at {w : World} {p : Nat} {fs : List FiD} {E : Int} (hfb : FB fs) (hlen : ∀ f ∈ fs, f.bytes.length ≤ 140737488355328)
    (hrd : ∀ W, Below w.heap.size w W → Calls Tryz.prog 48 #[.pointer (some ⟨p, 0, none⟩), .string manN] W fun e w' => (∃ v, e = .returned (.tuple #[v, .int .i64 E]) ∧ (E ≠ 0 → v = .slice none 0 0) ∧ (E = 0 → ∃ f, fs[pl fs manN]? = some f ∧ Owns w' W.heap.size v f.bytes)) ∧ Below W.heap.size W w') :
    Calls Tryz.prog 18 #[.pointer (some ⟨p, 0, none⟩)] w fun e w' => e = .returned (.tuple #[(gtT fs E).1.val, .bool (gtT fs E).2.1, .int .i64 (gtT fs E).2.2]) ∧ Below w.heap.size w w' := by
  obtain ⟨W, eW⟩ : ∃ W, W = w.alloc (.cells #[.int .u32 0, .int .u32 0, .int .u32 0, .int .i64 0, .int .i64 0] 35) := ⟨_, rfl⟩
  have hbW : Below w.heap.size w W := by rw [eW]; exact one_allocK _ _
  have hrow : W.heap[w.heap.size]? = some (.cells #[.int .u32 0, .int .u32 0, .int .u32 0, .int .i64 0, .int .i64 0] 35 (0, 0)) := by rw [eW]; exact heap_alloc_new w _
  have HE : Hid _ := eW
  have HRD : Hid _ := hrd W hbW
  have HX : Hid (Below w.heap.size w W ∧ W.heap[w.heap.size]? = some (.cells #[.int .u32 0, .int .u32 0, .int .u32 0, .int .i64 0, .int .i64 0] 35 (0, 0)) ∧ FB fs ∧ ∀ f ∈ fs, f.bytes.length ≤ 140737488355328) := ⟨hbW, hrow, hfb, hlen⟩
  have hlW := lt_of_block hrow
  clear hbW hrow eW hfb hlen hrd
  by_cases e20 : E = 20
  · subst e20
    have hg : gtT fs 20 = (⟨0, 0, 0, 0, 0⟩, false, 0) := rfl
    rw [hg]
    go_enter Tryz.func18, Tryz.ntmps18
    go_upto_region 1 with fail
    rw [← HE.out]
    go_wp2_with fail
    refine Calls.mono HRD.out ?_
    rintro e w1 ⟨⟨v, rfl, hv0, _⟩, hb1⟩
    obtain rfl := hv0 (by decide)
    have r9 : w1.heap[w.heap.size]? = some (.cells #[.int .u32 0, .int .u32 0, .int .u32 0, .int .i64 0, .int .i64 0] 35 (0, 0)) := (Below.kept hb1).heap HX.out.2.1 (fun e => by omega)
    have bl := Below.step HX.out.1 hb1
    clear hb1 HRD hv0
    have hl9 := lt_of_block r9
    have c0 := cell_of_row w1 _ 0 _ _ _ r9
    have c1 := cell_of_row w1 _ 1 _ _ _ r9
    have c2 := cell_of_row w1 _ 2 _ _ _ r9
    have c3 := cell_of_row w1 _ 3 _ _ _ r9
    have c4 := cell_of_row w1 _ 4 _ _ _ r9
    simp only [List.getElem?_toArray, List.getElem?_cons_zero, List.getElem?_cons_succ] at c0 c1 c2 c3 c4
    have f0 := frozen_of_row w1 w.heap.size 0 _ _ r9
    have f1 := frozen_of_row w1 w.heap.size 1 _ _ r9
    have f2 := frozen_of_row w1 w.heap.size 2 _ _ r9
    have f3 := frozen_of_row w1 w.heap.size 3 _ _ r9
    have f4 := frozen_of_row w1 w.heap.size 4 _ _ r9
    have HR9 : Hid (w1.heap[w.heap.size]? = some (.cells #[.int .u32 0, .int .u32 0, .int .u32 0, .int .i64 0, .int .i64 0] 35 (0, 0)) ∧ Below w.heap.size w w1) := ⟨r9, bl⟩
    clear r9
    go_wp2_with fail
    refine bodyPost_ret (v := .tuple #[zeroM, .bool false, .int .i64 0]) (man_ret3 Tryz.results18 _ _ w.heap.size _ _ _ _ _ rfl rfl rfl (row5 HR9.out.1 _ _ _ _ _) rfl) rfl ⟨rfl, ?_⟩
    exact HR9.out.2.trans ((kept5 w1 w.heap.size _ _ _ _ _).below HR9.out.2.size (fun k e => by omega))
  by_cases e0 : E = 0
  rotate_left
  · have hg : gtT fs E = (⟨0, 0, 0, 0, 0⟩, false, E) := by unfold gtT; rw [if_neg e20, if_neg e0]
    rw [hg]
    have b1 : (E == 20) = false := by simp [e20]
    have b2 : (E == 0) = false := by simp [e0]
    have b3 : (E != 0) = true := by simp [e0]
    go_enter Tryz.func18, Tryz.ntmps18
    go_upto_region 1 with fail
    rw [← HE.out]
    go_wp2_with fail
    refine Calls.mono HRD.out ?_
    rintro e w1 ⟨⟨v, rfl, hv0, _⟩, hb1⟩
    obtain rfl := hv0 e0
    have r9 : w1.heap[w.heap.size]? = some (.cells #[.int .u32 0, .int .u32 0, .int .u32 0, .int .i64 0, .int .i64 0] 35 (0, 0)) := (Below.kept hb1).heap HX.out.2.1 (fun e => by omega)
    have bl := Below.step HX.out.1 hb1
    clear hb1 HRD hv0
    have hl9 := lt_of_block r9
    have c0 := cell_of_row w1 _ 0 _ _ _ r9
    have c1 := cell_of_row w1 _ 1 _ _ _ r9
    have c2 := cell_of_row w1 _ 2 _ _ _ r9
    have c3 := cell_of_row w1 _ 3 _ _ _ r9
    have c4 := cell_of_row w1 _ 4 _ _ _ r9
    simp only [List.getElem?_toArray, List.getElem?_cons_zero, List.getElem?_cons_succ] at c0 c1 c2 c3 c4
    have f0 := frozen_of_row w1 w.heap.size 0 _ _ r9
    have f1 := frozen_of_row w1 w.heap.size 1 _ _ r9
    have f2 := frozen_of_row w1 w.heap.size 2 _ _ r9
    have f3 := frozen_of_row w1 w.heap.size 3 _ _ r9
    have f4 := frozen_of_row w1 w.heap.size 4 _ _ r9
    have HR9 : Hid (w1.heap[w.heap.size]? = some (.cells #[.int .u32 0, .int .u32 0, .int .u32 0, .int .i64 0, .int .i64 0] 35 (0, 0)) ∧ Below w.heap.size w w1) := ⟨r9, bl⟩
    clear r9
    go_wp2_with fail
    refine bodyPost_ret (v := .tuple #[zeroM, .bool false, .int .i64 E]) (man_ret3 Tryz.results18 _ _ w.heap.size _ _ _ _ _ rfl rfl rfl (row5 HR9.out.1 _ _ _ _ _) rfl) rfl ⟨rfl, ?_⟩
    exact HR9.out.2.trans ((kept5 w1 w.heap.size _ _ _ _ _).below HR9.out.2.size (fun k e => by omega))
  subst e0
  clear e20
  obtain ⟨T, hT⟩ : ∃ T, T = gtT fs 0 := ⟨_, rfl⟩
  rw [← hT]
  have HT : Hid _ := hT
  clear hT
  go_enter Tryz.func18, Tryz.ntmps18
  go_upto_region 1 with fail
  rw [← HE.out]
  go_wp2_with fail
  refine Calls.mono HRD.out ?_
  rintro e w1 ⟨⟨v, rfl, _, hv⟩, hb1⟩
  obtain ⟨f, hf1, ho⟩ := hv trivial
  have hmem := List.mem_of_getElem? hf1
  obtain ⟨a0, a1, a2, rfl⟩ : ∃ a n c, v = .slice a n c := by obtain ⟨a, c, e, _⟩ := Sees.own ho; exact ⟨a, _, c, e⟩
  have HMR : Hid _ := mread_all (.slice a0 a1 a2) f.bytes w1 (Sees.own ho) (HX.out.2.2.1 f hmem) (HX.out.2.2.2 f hmem)
  rw [rdV_eq] at HMR
  obtain ⟨M, hM⟩ : ∃ M, M = rdM f.bytes := ⟨_, rfl⟩
  obtain ⟨E, hE⟩ : ∃ E, E = rdE f.bytes := ⟨_, rfl⟩
  obtain ⟨b, hb⟩ : ∃ b : Bool, (E == 0) = b := ⟨_, rfl⟩
  have HTT : Hid (T = (M, b, E)) := by
    show T = _
    rw [HT.out, ← hb, hE, hM]
    unfold gtT
    rw [if_neg (by decide), if_pos rfl, hf1]
  rw [← hM, ← hE] at HMR
  have HR1 : Hid (w1.heap[w.heap.size]? = some (.cells #[.int .u32 0, .int .u32 0, .int .u32 0, .int .i64 0, .int .i64 0] 35 (0, 0))) := (Below.kept hb1).heap HX.out.2.1 (fun e => by omega)
  have HB1 : Hid (Below w.heap.size w w1) := Below.step HX.out.1 hb1
  have hlz := lt_of_block HR1.out
  clear hb1 HRD ho hf1 hv hM hE hmem HT
  obtain ⟨boot, acc, cur, snap, log⟩ := M
  go_wp2_with fail
  refine Calls.mono HMR.out ?_
  rintro e w2 ⟨rfl, hb2⟩
  obtain ⟨W3, eW3⟩ : ∃ W3, W3 = w2.alloc (.cells #[.int .u32 boot, .int .u32 acc, .int .u32 cur, .int .i64 snap, .int .i64 log] 35) := ⟨_, rfl⟩
  have hb3 : Below w2.heap.size w2 W3 := by rw [eW3]; exact one_allocK _ _
  have r6 : W3.heap[w2.heap.size]? = some (.cells #[.int .u32 boot, .int .u32 acc, .int .u32 cur, .int .i64 snap, .int .i64 log] 35 (0, 0)) := by rw [eW3]; exact heap_alloc_new w2 _
  have z6 : W3.heap[w.heap.size]? = some (.cells #[.int .u32 0, .int .u32 0, .int .u32 0, .int .i64 0, .int .i64 0] 35 (0, 0)) := (Below.kept (Below.step hb2 hb3)).heap HR1.out (fun e => by omega)
  have q0 := cell_of_row W3 _ 0 _ _ _ r6
  have q1 := cell_of_row W3 _ 1 _ _ _ r6
  have q2 := cell_of_row W3 _ 2 _ _ _ r6
  have q3 := cell_of_row W3 _ 3 _ _ _ r6
  have q4 := cell_of_row W3 _ 4 _ _ _ r6
  simp only [List.getElem?_toArray, List.getElem?_cons_zero, List.getElem?_cons_succ] at q0 q1 q2 q3 q4
  have hl6 := lt_of_block r6
  have bl : Below w.heap.size w W3 := Below.step HB1.out (Below.step hb2 hb3)
  have HE3 : Hid _ := eW3
  have hne : ¬ w.heap.size = w2.heap.size := by have := hb2.size; omega
  clear r6 hb2 hb3 HMR eW3
  go_upto_region 7 with fail
  rw [← HE3.out]
  have hl9 := lt_of_block z6
  have c0 := cell_of_row W3 _ 0 _ _ _ z6
  have c1 := cell_of_row W3 _ 1 _ _ _ z6
  have c2 := cell_of_row W3 _ 2 _ _ _ z6
  have c3 := cell_of_row W3 _ 3 _ _ _ z6
  have c4 := cell_of_row W3 _ 4 _ _ _ z6
  simp only [List.getElem?_toArray, List.getElem?_cons_zero, List.getElem?_cons_succ] at c0 c1 c2 c3 c4
  have f0 := frozen_of_row W3 w.heap.size 0 _ _ z6
  have f1 := frozen_of_row W3 w.heap.size 1 _ _ z6
  have f2 := frozen_of_row W3 w.heap.size 2 _ _ z6
  have f3 := frozen_of_row W3 w.heap.size 3 _ _ z6
  have f4 := frozen_of_row W3 w.heap.size 4 _ _ z6
  have HR9 : Hid (W3.heap[w.heap.size]? = some (.cells #[.int .u32 0, .int .u32 0, .int .u32 0, .int .i64 0, .int .i64 0] 35 (0, 0)) ∧ Below w.heap.size w W3) := ⟨z6, bl⟩
  clear z6
  go_wp2_with fail
  refine bodyPost_ret (v := .tuple #[MaD.val ⟨boot, acc, cur, snap, log⟩, .bool b, .int .i64 E]) (man_ret3 Tryz.results18 _ _ w.heap.size _ _ _ _ _ rfl rfl rfl (row5 HR9.out.1 _ _ _ _ _) rfl) rfl ⟨by rw [HTT.out], ?_⟩
  exact HR9.out.2.trans ((kept5 W3 w.heap.size _ _ _ _ _).below HR9.out.2.size (fun k e => by omega))

set_option maxHeartbeats 2000000 in
theorem rget_at {w : World} {p : Nat} {fs : List FiD} {E : Int} (hfb : FB fs) (hlen : ∀ f ∈ fs, f.bytes.length ≤ 140737488355328)
    (hrd : ∀ W, Below w.heap.size w W → Calls Tryz.prog 54 #[.pointer (some ⟨p, 0, none⟩), .string manN] W fun e w' => (∃ v, e = .returned (.tuple #[v, .int .i64 E]) ∧ (E ≠ 0 → v = .slice none 0 0) ∧ (E = 0 → ∃ f, fs[pl fs manN]? = some f ∧ Owns w' W.heap.size v f.bytes)) ∧ Below W.heap.size W w') :
    Calls Tryz.prog 21 #[.pointer (some ⟨p, 0, none⟩)] w fun e w' => e = .returned (.tuple #[(gtT fs E).1.val, .bool (gtT fs E).2.1, .int .i64 (gtT fs E).2.2]) ∧ Below w.heap.size w w' := by
  obtain ⟨W, eW⟩ : ∃ W, W = w.alloc (.cells #[.int .u32 0, .int .u32 0, .int .u32 0, .int .i64 0, .int .i64 0] 35) := ⟨_, rfl⟩
  have hbW : Below w.heap.size w W := by rw [eW]; exact one_allocK _ _
  have hrow : W.heap[w.heap.size]? = some (.cells #[.int .u32 0, .int .u32 0, .int .u32 0, .int .i64 0, .int .i64 0] 35 (0, 0)) := by rw [eW]; exact heap_alloc_new w _
  have HE : Hid _ := eW
  have HRD : Hid _ := hrd W hbW
  have HX : Hid (Below w.heap.size w W ∧ W.heap[w.heap.size]? = some (.cells #[.int .u32 0, .int .u32 0, .int .u32 0, .int .i64 0, .int .i64 0] 35 (0, 0)) ∧ FB fs ∧ ∀ f ∈ fs, f.bytes.length ≤ 140737488355328) := ⟨hbW, hrow, hfb, hlen⟩
  have hlW := lt_of_block hrow
  clear hbW hrow eW hfb hlen hrd
  by_cases e20 : E = 20
  · subst e20
    have hg : gtT fs 20 = (⟨0, 0, 0, 0, 0⟩, false, 0) := rfl
    rw [hg]
    go_enter Tryz.func21, Tryz.ntmps21
    go_upto_region 1 with fail
    rw [← HE.out]
    go_wp2_with fail
    refine Calls.mono HRD.out ?_
    rintro e w1 ⟨⟨v, rfl, hv0, _⟩, hb1⟩
    obtain rfl := hv0 (by decide)
    have r9 : w1.heap[w.heap.size]? = some (.cells #[.int .u32 0, .int .u32 0, .int .u32 0, .int .i64 0, .int .i64 0] 35 (0, 0)) := (Below.kept hb1).heap HX.out.2.1 (fun e => by omega)
    have bl := Below.step HX.out.1 hb1
    clear hb1 HRD hv0
    have hl9 := lt_of_block r9
    have c0 := cell_of_row w1 _ 0 _ _ _ r9
    have c1 := cell_of_row w1 _ 1 _ _ _ r9
    have c2 := cell_of_row w1 _ 2 _ _ _ r9
    have c3 := cell_of_row w1 _ 3 _ _ _ r9
    have c4 := cell_of_row w1 _ 4 _ _ _ r9
    simp only [List.getElem?_toArray, List.getElem?_cons_zero, List.getElem?_cons_succ] at c0 c1 c2 c3 c4
    have f0 := frozen_of_row w1 w.heap.size 0 _ _ r9
    have f1 := frozen_of_row w1 w.heap.size 1 _ _ r9
    have f2 := frozen_of_row w1 w.heap.size 2 _ _ r9
    have f3 := frozen_of_row w1 w.heap.size 3 _ _ r9
    have f4 := frozen_of_row w1 w.heap.size 4 _ _ r9
    have HR9 : Hid (w1.heap[w.heap.size]? = some (.cells #[.int .u32 0, .int .u32 0, .int .u32 0, .int .i64 0, .int .i64 0] 35 (0, 0)) ∧ Below w.heap.size w w1) := ⟨r9, bl⟩
    clear r9
    go_wp2_with fail
    refine bodyPost_ret (v := .tuple #[zeroM, .bool false, .int .i64 0]) (man_ret3 Tryz.results21 _ _ w.heap.size _ _ _ _ _ rfl rfl rfl (row5 HR9.out.1 _ _ _ _ _) rfl) rfl ⟨rfl, ?_⟩
    exact HR9.out.2.trans ((kept5 w1 w.heap.size _ _ _ _ _).below HR9.out.2.size (fun k e => by omega))
  by_cases e0 : E = 0
  rotate_left
  · have hg : gtT fs E = (⟨0, 0, 0, 0, 0⟩, false, E) := by unfold gtT; rw [if_neg e20, if_neg e0]
    rw [hg]
    have b1 : (E == 20) = false := by simp [e20]
    have b2 : (E == 0) = false := by simp [e0]
    have b3 : (E != 0) = true := by simp [e0]
    go_enter Tryz.func21, Tryz.ntmps21
    go_upto_region 1 with fail
    rw [← HE.out]
    go_wp2_with fail
    refine Calls.mono HRD.out ?_
    rintro e w1 ⟨⟨v, rfl, hv0, _⟩, hb1⟩
    obtain rfl := hv0 e0
    have r9 : w1.heap[w.heap.size]? = some (.cells #[.int .u32 0, .int .u32 0, .int .u32 0, .int .i64 0, .int .i64 0] 35 (0, 0)) := (Below.kept hb1).heap HX.out.2.1 (fun e => by omega)
    have bl := Below.step HX.out.1 hb1
    clear hb1 HRD hv0
    have hl9 := lt_of_block r9
    have c0 := cell_of_row w1 _ 0 _ _ _ r9
    have c1 := cell_of_row w1 _ 1 _ _ _ r9
    have c2 := cell_of_row w1 _ 2 _ _ _ r9
    have c3 := cell_of_row w1 _ 3 _ _ _ r9
    have c4 := cell_of_row w1 _ 4 _ _ _ r9
    simp only [List.getElem?_toArray, List.getElem?_cons_zero, List.getElem?_cons_succ] at c0 c1 c2 c3 c4
    have f0 := frozen_of_row w1 w.heap.size 0 _ _ r9
    have f1 := frozen_of_row w1 w.heap.size 1 _ _ r9
    have f2 := frozen_of_row w1 w.heap.size 2 _ _ r9
    have f3 := frozen_of_row w1 w.heap.size 3 _ _ r9
    have f4 := frozen_of_row w1 w.heap.size 4 _ _ r9
    have HR9 : Hid (w1.heap[w.heap.size]? = some (.cells #[.int .u32 0, .int .u32 0, .int .u32 0, .int .i64 0, .int .i64 0] 35 (0, 0)) ∧ Below w.heap.size w w1) := ⟨r9, bl⟩
    clear r9
    go_wp2_with fail
    refine bodyPost_ret (v := .tuple #[zeroM, .bool false, .int .i64 E]) (man_ret3 Tryz.results21 _ _ w.heap.size _ _ _ _ _ rfl rfl rfl (row5 HR9.out.1 _ _ _ _ _) rfl) rfl ⟨rfl, ?_⟩
    exact HR9.out.2.trans ((kept5 w1 w.heap.size _ _ _ _ _).below HR9.out.2.size (fun k e => by omega))
  subst e0
  clear e20
  obtain ⟨T, hT⟩ : ∃ T, T = gtT fs 0 := ⟨_, rfl⟩
  rw [← hT]
  have HT : Hid _ := hT
  clear hT
  go_enter Tryz.func21, Tryz.ntmps21
  go_upto_region 1 with fail
  rw [← HE.out]
  go_wp2_with fail
  refine Calls.mono HRD.out ?_
  rintro e w1 ⟨⟨v, rfl, _, hv⟩, hb1⟩
  obtain ⟨f, hf1, ho⟩ := hv trivial
  have hmem := List.mem_of_getElem? hf1
  obtain ⟨a0, a1, a2, rfl⟩ : ∃ a n c, v = .slice a n c := by obtain ⟨a, c, e, _⟩ := Sees.own ho; exact ⟨a, _, c, e⟩
  have HMR : Hid _ := rread_all (.slice a0 a1 a2) f.bytes w1 (Sees.own ho) (HX.out.2.2.1 f hmem)
  rw [rdV_eq] at HMR
  obtain ⟨M, hM⟩ : ∃ M, M = rdM f.bytes := ⟨_, rfl⟩
  obtain ⟨E, hE⟩ : ∃ E, E = rdE f.bytes := ⟨_, rfl⟩
  obtain ⟨b, hb⟩ : ∃ b : Bool, (E == 0) = b := ⟨_, rfl⟩
  have HTT : Hid (T = (M, b, E)) := by
    show T = _
    rw [HT.out, ← hb, hE, hM]
    unfold gtT
    rw [if_neg (by decide), if_pos rfl, hf1]
  rw [← hM, ← hE] at HMR
  have HR1 : Hid (w1.heap[w.heap.size]? = some (.cells #[.int .u32 0, .int .u32 0, .int .u32 0, .int .i64 0, .int .i64 0] 35 (0, 0))) := (Below.kept hb1).heap HX.out.2.1 (fun e => by omega)
  have HB1 : Hid (Below w.heap.size w w1) := Below.step HX.out.1 hb1
  have hlz := lt_of_block HR1.out
  clear hb1 HRD ho hf1 hv hM hE hmem HT
  obtain ⟨boot, acc, cur, snap, log⟩ := M
  go_wp2_with fail
  refine Calls.mono HMR.out ?_
  rintro e w2 ⟨rfl, hb2⟩
  obtain ⟨W3, eW3⟩ : ∃ W3, W3 = w2.alloc (.cells #[.int .u32 boot, .int .u32 acc, .int .u32 cur, .int .i64 snap, .int .i64 log] 35) := ⟨_, rfl⟩
  have hb3 : Below w2.heap.size w2 W3 := by rw [eW3]; exact one_allocK _ _
  have r6 : W3.heap[w2.heap.size]? = some (.cells #[.int .u32 boot, .int .u32 acc, .int .u32 cur, .int .i64 snap, .int .i64 log] 35 (0, 0)) := by rw [eW3]; exact heap_alloc_new w2 _
  have z6 : W3.heap[w.heap.size]? = some (.cells #[.int .u32 0, .int .u32 0, .int .u32 0, .int .i64 0, .int .i64 0] 35 (0, 0)) := (Below.kept (Below.step hb2 hb3)).heap HR1.out (fun e => by omega)
  have q0 := cell_of_row W3 _ 0 _ _ _ r6
  have q1 := cell_of_row W3 _ 1 _ _ _ r6
  have q2 := cell_of_row W3 _ 2 _ _ _ r6
  have q3 := cell_of_row W3 _ 3 _ _ _ r6
  have q4 := cell_of_row W3 _ 4 _ _ _ r6
  simp only [List.getElem?_toArray, List.getElem?_cons_zero, List.getElem?_cons_succ] at q0 q1 q2 q3 q4
  have hl6 := lt_of_block r6
  have bl : Below w.heap.size w W3 := Below.step HB1.out (Below.step hb2 hb3)
  have HE3 : Hid _ := eW3
  have hne : ¬ w.heap.size = w2.heap.size := by have := hb2.size; omega
  clear r6 hb2 hb3 HMR eW3
  go_upto_region 7 with fail
  rw [← HE3.out]
  have hl9 := lt_of_block z6
  have c0 := cell_of_row W3 _ 0 _ _ _ z6
  have c1 := cell_of_row W3 _ 1 _ _ _ z6
  have c2 := cell_of_row W3 _ 2 _ _ _ z6
  have c3 := cell_of_row W3 _ 3 _ _ _ z6
  have c4 := cell_of_row W3 _ 4 _ _ _ z6
  simp only [List.getElem?_toArray, List.getElem?_cons_zero, List.getElem?_cons_succ] at c0 c1 c2 c3 c4
  have f0 := frozen_of_row W3 w.heap.size 0 _ _ z6
  have f1 := frozen_of_row W3 w.heap.size 1 _ _ z6
  have f2 := frozen_of_row W3 w.heap.size 2 _ _ z6
  have f3 := frozen_of_row W3 w.heap.size 3 _ _ z6
  have f4 := frozen_of_row W3 w.heap.size 4 _ _ z6
  have HR9 : Hid (W3.heap[w.heap.size]? = some (.cells #[.int .u32 0, .int .u32 0, .int .u32 0, .int .i64 0, .int .i64 0] 35 (0, 0)) ∧ Below w.heap.size w W3) := ⟨z6, bl⟩
  clear z6
  go_wp2_with fail
  refine bodyPost_ret (v := .tuple #[MaD.val ⟨boot, acc, cur, snap, log⟩, .bool b, .int .i64 E]) (man_ret3 Tryz.results21 _ _ w.heap.size _ _ _ _ _ rfl rfl rfl (row5 HR9.out.1 _ _ _ _ _) rfl) rfl ⟨by rw [HTT.out], ?_⟩
  exact HR9.out.2.trans ((kept5 W3 w.heap.size _ _ _ _ _).below HR9.out.2.size (fun k e => by omega))
end Go.Proofs.YtdbphdllibffnaaGreat
