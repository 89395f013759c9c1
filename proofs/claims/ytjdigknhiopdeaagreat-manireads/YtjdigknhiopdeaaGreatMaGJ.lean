/- A manifest's bytes, read: Read. -/
import Derived.Test.YtjdigknhiopdeaaGreatMaEJ
namespace Go.Proofs.YtjdigknhiopdeaaGreat
open Go.RowKit Go.Shelf
set_option maxRecDepth 8000

/-- What a function of a manifest and an error answers. -/
theorem man_ret {fn : Func} {p u : Tmp} (h : fn.results = #[.cell p 27, .tmp u]) (tmps : Array Value) (w : World) (b : Nat) (cs : Array Value) (x : Value) (t : TypeId) (fr : Nat × Nat) (hp : tmps.getD p undef = .pointer (some ⟨b, 0, none⟩)) (hu : tmps.getD u undef = x) (hrow : w.heap[b]? = some (.cells cs t fr)) (hs : cs.size = 5) : (results fn tmps).run Tryz.prog w = .ok (.tuple #[.agg cs, x]) w := by
  rw [results_cell_tmp h, hp, hu]
  have hld := run_loadVar_row (P := Tryz.prog) w b t 27 cs fr _ hrow Tryz.underlying27 rfl (by rw [hs]; exact man_size)
  simp only [asAddr, Sem.run_pure, Result.andThen_ok, hld]

theorem maF_len (m : MaD) : (maF m).length = 38 := by rw [frameL_len, maB_len]
theorem maF_body (m : MaD) : bodyLen (maF m) = 29 := by
  have h := bodyLen_frame (maB m) [] (maB_sz m)
  rw [List.append_nil, maB_len] at h
  exact h
theorem maF_cut (m : MaD) : ((maF m).drop 8).take 29 = maB m := by
  show ((frameL (maB m)).drop 8).take 29 = _
  unfold frameL
  rw [dropF (headL_len _), takeF (maB_len m)]

theorem headL_byts (xs : List Int) (h1 : xs.length < 4294967296) : Byts (headL xs) := by
  intro x hx
  unfold headL at hx
  have ha := adler_bd xs
  rcases List.mem_append.1 hx with h | h
  · exact mbyts4 _ (by omega) (by omega) x h
  · exact mbyts4 _ ha.1 ha.2 x h

theorem maF_byts (m : MaD) (hm : m.Fits) : Byts (maF m) := by
  intro x hx
  have hx : x ∈ frameL (maB m) := hx
  unfold frameL at hx
  rcases List.mem_append.1 hx with h | h
  · exact headL_byts _ (by rw [maB_len]; omega) x h
  · rcases List.mem_append.1 h with h | h
    · exact maB_byts m hm x h
    · simp at h; omega

set_option maxHeartbeats 1000000 in
theorem mread_bad (v : Value) (xs : List Int) (w : World) (h : Sees w v xs) (hb : Byts xs) (hl : xs.length ≤ 140737488355328) (hn : bodyLen xs = 0 ∨ bodyLen xs + 9 ≠ xs.length) :
    Calls Tryz.prog 6 #[v] w fun e w' => e = .returned (.tuple #[zeroM, .int .i64 110]) ∧ Below w.heap.size w w' := by
  obtain ⟨W, eW⟩ : ∃ W, W = w.alloc (.cells #[.int .u32 0, .int .u32 0, .int .u32 0, .int .i64 0, .int .i64 0] 27) := ⟨_, rfl⟩
  have hbW : Below w.heap.size w W := by rw [eW]; exact one_allocK _ _
  have HO : Hid _ := one_bad v xs W (h.below hbW (Nat.le_refl _)) hb hl hn
  have hrow : W.heap[w.heap.size]? = some (.cells #[.int .u32 0, .int .u32 0, .int .u32 0, .int .i64 0, .int .i64 0] 27 (0, 0)) := by rw [eW]; exact heap_alloc_new w _
  have HE : Hid _ := eW
  have HX : Hid (Below w.heap.size w W ∧ W.heap[w.heap.size]? = some (.cells #[.int .u32 0, .int .u32 0, .int .u32 0, .int .i64 0, .int .i64 0] 27 (0, 0))) := ⟨hbW, hrow⟩
  have hlW := lt_of_block hrow
  clear h hb hl hn hbW hrow eW
  go_enter Tryz.func6, Tryz.ntmps6
  go_upto_region 1 with fail
  rw [← HE.out]
  go_wp2_with fail
  refine Calls.mono HO.out ?_
  rintro e w1 ⟨rfl, hb1⟩
  have hrow1 : w1.heap[w.heap.size]? = some (.cells #[.int .u32 0, .int .u32 0, .int .u32 0, .int .i64 0, .int .i64 0] 27 (0, 0)) := (Below.kept hb1).heap HX.out.2 (fun e => by omega)
  have hl1 := lt_of_block hrow1
  have c0 := cell_of_row w1 _ 0 _ _ _ hrow1
  have c1 := cell_of_row w1 _ 1 _ _ _ hrow1
  have c2 := cell_of_row w1 _ 2 _ _ _ hrow1
  have c3 := cell_of_row w1 _ 3 _ _ _ hrow1
  have c4 := cell_of_row w1 _ 4 _ _ _ hrow1
  simp only [List.getElem?_toArray, List.getElem?_cons_zero, List.getElem?_cons_succ] at c0 c1 c2 c3 c4
  have f0 := frozen_of_row w1 w.heap.size 0 _ _ hrow1
  have f1 := frozen_of_row w1 w.heap.size 1 _ _ hrow1
  have f2 := frozen_of_row w1 w.heap.size 2 _ _ hrow1
  have f3 := frozen_of_row w1 w.heap.size 3 _ _ hrow1
  have f4 := frozen_of_row w1 w.heap.size 4 _ _ hrow1
  have HB1 : Hid (Below w.heap.size w w1) := Below.step HX.out.1 hb1
  have HR1 : Hid _ := hrow1
  clear hrow1 hb1 HO
  go_wp2_with fail
  refine bodyPost_ret (v := .tuple #[zeroM, .int .i64 110]) (man_ret Tryz.results6 _ _ w.heap.size _ _ _ _ rfl rfl (row5 HR1.out _ _ _ _ _) rfl) rfl ⟨rfl, ?_⟩
  exact HB1.out.trans ((kept5 w1 w.heap.size _ _ _ _ _).below HB1.out.size (fun k e => by omega))

set_option maxHeartbeats 2000000 in
theorem mread_good (v : Value) (m : MaD) (hm : m.Fits) (hy : mayM m = true) (w : World) (h : Sees w v (maF m)) :
    Calls Tryz.prog 6 #[v] w fun e w' => e = .returned (.tuple #[m.val, .int .i64 0]) ∧ Below w.heap.size w w' := by
  obtain ⟨W, eW⟩ : ∃ W, W = w.alloc (.cells #[.int .u32 0, .int .u32 0, .int .u32 0, .int .i64 0, .int .i64 0] 27) := ⟨_, rfl⟩
  have hbW : Below w.heap.size w W := by rw [eW]; exact one_allocK _ _
  have HO : Hid _ := one_ok v (maF m) W (h.below hbW (Nat.le_refl _)) (maF_byts m hm) (by rw [maF_len]; omega) (by rw [maF_body]; omega) (by rw [maF_body, maF_len])
  rw [maF_body, maF_cut] at HO
  have hrow : W.heap[w.heap.size]? = some (.cells #[.int .u32 0, .int .u32 0, .int .u32 0, .int .i64 0, .int .i64 0] 27 (0, 0)) := by rw [eW]; exact heap_alloc_new w _
  have HE : Hid _ := eW
  have HX : Hid (Below w.heap.size w W ∧ W.heap[w.heap.size]? = some (.cells #[.int .u32 0, .int .u32 0, .int .u32 0, .int .i64 0, .int .i64 0] 27 (0, 0)) ∧ m.Fits ∧ mayM m = true) := ⟨hbW, hrow, hm, hy⟩
  have hlW := lt_of_block hrow
  clear h hbW hrow eW hm hy
  go_enter Tryz.func6, Tryz.ntmps6
  go_upto_region 1 with fail
  rw [← HE.out]
  go_wp2_with fail
  refine Calls.mono HO.out ?_
  rintro e w1 ⟨g1, rfl, hg1, ho1, hb1⟩
  have HNW : Hid _ := new_any _ (maB m) w1 (Sees.own ho1) (by rw [maB_len]; omega)
  have HB1 : Hid (Below w.heap.size w w1) := Below.step HX.out.1 hb1
  have HR1 : Hid (w1.heap[w.heap.size]? = some (.cells #[.int .u32 0, .int .u32 0, .int .u32 0, .int .i64 0, .int .i64 0] 27 (0, 0))) := (Below.kept hb1).heap HX.out.2.1 (fun e => by omega)
  clear ho1 hb1 HO hg1
  go_wp2_with fail
  refine Calls.mono HNW.out ?_
  rintro e w2 ⟨g, v2, rfl, hR2, hg2, ho2, hb2⟩
  have hlz1 := lt_of_block HR1.out
  have HR2 : Hid (w2.heap[w.heap.size]? = some (.cells #[.int .u32 0, .int .u32 0, .int .u32 0, .int .i64 0, .int .i64 0] 27 (0, 0))) := (Below.kept hb2).heap HR1.out (fun e => by omega)
  have HB2 : Hid (Below w.heap.size w w2) := Below.step HB1.out hb2
  have HV2 : Hid (∀ k, v2.ownBlock = some k → w1.heap.size ≤ k ∧ k < w2.heap.size) := fun k e => ho2.lt k e
  have HI8 : Hid _ := gI8 (g := g) (v := v2) (w := w2) 1 hR2 (maB_byts m HX.out.2.2.1) (by decide) (by decide)
  clear hR2 ho2 hb2 HNW
  go_wp2_with fail
  refine Calls.mono HI8.out ?_
  rintro e w3 ⟨rfl, v3, hR3, hs3, hk3⟩
  have HNB : Hid _ := numbers_m g v3 m HX.out.2.2.1 w3 hR3 (fun x hx => maB_byts m HX.out.2.2.1 x (List.mem_append.2 (.inr hx))) (fun k e => by have := (HV2.out k (hs3 k e)).2; have := hk3.size; omega)
  have HB3 : Hid (Below w.heap.size w w3 ∧ w3.heap[w.heap.size]? = some (.cells #[.int .u32 0, .int .u32 0, .int .u32 0, .int .i64 0, .int .i64 0] 27 (0, 0))) := ⟨HB2.out.trans (hk3.below HB2.out.size (fun k e => by have := HB1.out.size; omega)), hk3.heap HR2.out (fun e => by omega)⟩
  clear hR3 hs3 hk3 HI8
  go_wp2_with fail
  refine Calls.mono HNB.out ?_
  rintro e w4 ⟨rfl, ⟨v4, hR4, hv4⟩, hk4⟩
  have hlz3 := lt_of_block HB3.out.2
  have HB4 : Hid (Below w.heap.size w w4 ∧ w4.heap[w.heap.size]? = some (.cells #[.int .u32 0, .int .u32 0, .int .u32 0, .int .i64 0, .int .i64 0] 27 (0, 0)) ∧ IsR w4 g v4 [] 0 ∧ ∀ k, v4.ownBlock = some k → k < w4.heap.size) := ⟨HB3.out.1.trans (hk4.below HB3.out.1.size (fun k e => by have := HB1.out.size; omega)), hk4.heap HB3.out.2 (fun e => by omega), hR4, fun k e => Nat.lt_of_lt_of_le (hv4 k e) hk4.size⟩
  clear hR4 hv4 hk4 HNB
  obtain ⟨boot, acc, cur, snap, log⟩ := m
  obtain ⟨W5, eW5⟩ : ∃ W5, W5 = w4.alloc (.cells #[.int .u32 boot, .int .u32 acc, .int .u32 cur, .int .i64 snap, .int .i64 log] 27) := ⟨_, rfl⟩
  have hb5 : Below w4.heap.size w4 W5 := by rw [eW5]; exact one_allocK _ _
  have r5 : W5.heap[w4.heap.size]? = some (.cells #[.int .u32 boot, .int .u32 acc, .int .u32 cur, .int .i64 snap, .int .i64 log] 27 (0, 0)) := by rw [eW5]; exact heap_alloc_new w4 _
  have hR5 := HB4.out.2.2.1.kept (Below.kept hb5) (fun e => by have := lt_of_block HB4.out.2.2.1.1; omega) (fun k e e' => by have := HB4.out.2.2.2 k e; omega)
  have HEN : Hid _ := rEnd_any g v4 [] 0 W5 hR5
  have HMB : Hid _ := mayBe_m ⟨boot, acc, cur, snap, log⟩ W5
  rw [HX.out.2.2.2] at HMB
  have hlz4 := lt_of_block HB4.out.2.1
  have HB5 : Hid (Below w.heap.size w W5 ∧ W5.heap[w.heap.size]? = some (.cells #[.int .u32 0, .int .u32 0, .int .u32 0, .int .i64 0, .int .i64 0] 27 (0, 0)) ∧ W5.heap[w4.heap.size]? = some (.cells #[.int .u32 boot, .int .u32 acc, .int .u32 cur, .int .i64 snap, .int .i64 log] 27 (0, 0))) := ⟨Below.step HB4.out.1 hb5, (Below.kept hb5).heap HB4.out.2.1 (fun e => by omega), r5⟩
  have k0 := cell_of_row W5 _ 0 _ _ _ r5
  have k1 := cell_of_row W5 _ 1 _ _ _ r5
  have k2 := cell_of_row W5 _ 2 _ _ _ r5
  have k3 := cell_of_row W5 _ 3 _ _ _ r5
  have k4 := cell_of_row W5 _ 4 _ _ _ r5
  simp only [List.getElem?_toArray, List.getElem?_cons_zero, List.getElem?_cons_succ] at k0 k1 k2 k3 k4
  have hl5 := lt_of_block r5
  have HE5 : Hid _ := eW5
  clear hb5 r5 hR5 eW5
  go_upto_region 6 with fail
  rw [← HE5.out]
  go_wp2_with fail
  refine Calls.mono HEN.out ?_
  rintro e w6 ⟨rfl, hw6⟩
  subst w6
  go_wp2_with fail
  refine Calls.mono HMB.out ?_
  rintro e w6 ⟨rfl, hb6⟩
  have r6 : w6.heap[w4.heap.size]? = some (.cells #[.int .u32 boot, .int .u32 acc, .int .u32 cur, .int .i64 snap, .int .i64 log] 27 (0, 0)) := (Below.kept hb6).heap HB5.out.2.2 (fun e => by omega)
  have z6 : w6.heap[w.heap.size]? = some (.cells #[.int .u32 0, .int .u32 0, .int .u32 0, .int .i64 0, .int .i64 0] 27 (0, 0)) := (Below.kept hb6).heap HB5.out.2.1 (fun e => by omega)
  have q0 := cell_of_row w6 _ 0 _ _ _ r6
  have q1 := cell_of_row w6 _ 1 _ _ _ r6
  have q2 := cell_of_row w6 _ 2 _ _ _ r6
  have q3 := cell_of_row w6 _ 3 _ _ _ r6
  have q4 := cell_of_row w6 _ 4 _ _ _ r6
  have z0 := cell_of_row w6 _ 0 _ _ _ z6
  have z1 := cell_of_row w6 _ 1 _ _ _ z6
  have z2 := cell_of_row w6 _ 2 _ _ _ z6
  have z3 := cell_of_row w6 _ 3 _ _ _ z6
  have z4 := cell_of_row w6 _ 4 _ _ _ z6
  simp only [List.getElem?_toArray, List.getElem?_cons_zero, List.getElem?_cons_succ] at q0 q1 q2 q3 q4 z0 z1 z2 z3 z4
  have f0 := frozen_of_row w6 w.heap.size 0 _ _ z6
  have f1 := frozen_of_row w6 w.heap.size 1 _ _ z6
  have f2 := frozen_of_row w6 w.heap.size 2 _ _ z6
  have f3 := frozen_of_row w6 w.heap.size 3 _ _ z6
  have f4 := frozen_of_row w6 w.heap.size 4 _ _ z6
  have hl6 := lt_of_block r6
  have hlz6 := lt_of_block z6
  have HB6 : Hid (Below w.heap.size w w6) := Below.step HB5.out.1 hb6
  have HZ6 : Hid _ := z6
  clear r6 z6 hb6 k0 k1 k2 k3 k4
  go_wp2_with fail
  refine bodyPost_ret (v := .tuple #[MaD.val ⟨boot, acc, cur, snap, log⟩, .int .i64 0]) (man_ret Tryz.results6 _ _ w.heap.size _ _ _ _ rfl rfl (row5 HZ6.out _ _ _ _ _) rfl) rfl ⟨rfl, ?_⟩
  exact HB6.out.trans ((kept5 w6 w.heap.size _ _ _ _ _).below HB6.out.size (fun k e => by omega))
end Go.Proofs.YtjdigknhiopdeaaGreat
