/- A manifest's bytes, read: numbers. -/
import Derived.Test.YtdbphdllibffnaaGreatMaCJ
import Derived.Test.YtdbphdllibffnaaGreatDkQJ
import Derived.Test.YtdbphdllibffnaaGreatWriterJ
namespace Go.Proofs.YtdbphdllibffnaaGreat
open Go.RowKit Go.Shelf
set_option maxRecDepth 8000

theorem man_size : (Tryz.prog.info? 35).map (·.size) = some 5 := by kernel_rfl

abbrev set5 (w : World) (b : Nat) (x0 x1 x2 x3 x4 : Value) : World := ((((w.setCell ⟨b, 0, none⟩ x0).setCell ⟨b, 1, none⟩ x1).setCell ⟨b, 2, none⟩ x2).setCell ⟨b, 3, none⟩ x3).setCell ⟨b, 4, none⟩ x4

theorem kept5 (w : World) (b : Nat) (x0 x1 x2 x3 x4 : Value) : Kept w (set5 w b x0 x1 x2 x3 x4) (fun k => k = b) :=
  ((((((Kept.refl w (fun k => k = b)).setCell ⟨b, 0, none⟩ x0 (fun _ => rfl)).setCell ⟨b, 1, none⟩ x1 (fun _ => rfl)).setCell ⟨b, 2, none⟩ x2 (fun _ => rfl)).setCell ⟨b, 3, none⟩ x3 (fun _ => rfl)).setCell ⟨b, 4, none⟩ x4 (fun _ => rfl))

theorem row5 {w : World} {b : Nat} {y0 y1 y2 y3 y4 : Value} {t : TypeId} {fr : Nat × Nat} (h : w.heap[b]? = some (.cells #[y0, y1, y2, y3, y4] t fr)) (x0 x1 x2 x3 x4 : Value) : (set5 w b x0 x1 x2 x3 x4).heap[b]? = some (.cells #[x0, x1, x2, x3, x4] t fr) :=
  heap_setK x4 (heap_setK x3 (heap_setK x2 (heap_setK x1 (heap_setK x0 h))))

set_option maxHeartbeats 2000000 in
theorem numbers_m (g : Nat) (v : Value) (m : MaD) (hm : m.Fits) (w : World) (h : IsR w g v (be4 m.boot ++ (be4 m.acc ++ (be4 m.cur ++ (be8 (up64 m.snap) ++ be8 (up64 m.log))))) 0) (hby : Byts (be4 m.boot ++ (be4 m.acc ++ (be4 m.cur ++ (be8 (up64 m.snap) ++ be8 (up64 m.log)))))) (hvl : ∀ k, v.ownBlock = some k → k < w.heap.size) :
    Calls Tryz.prog 44 #[.pointer (some ⟨g, 0, none⟩)] w fun e w' => e = .returned m.val ∧ (∃ v', IsR w' g v' [] 0 ∧ ∀ k, v'.ownBlock = some k → k < w.heap.size) ∧ Kept w w' (· = g) := by
  obtain ⟨boot, acc, cur, snap, log⟩ := m
  simp only at h hby
  obtain ⟨Z, hZ⟩ : ∃ Z : List Value, Z = [.int .u32 0, .int .u32 0, .int .u32 0, .int .i64 0, .int .i64 0] := ⟨_, rfl⟩
  obtain ⟨W, eW⟩ : ∃ W, W = ((w.alloc (.cells Z.toArray 35)).alloc (.cells Z.toArray 35)).alloc (.cells #[.pointer (some ⟨w.heap.size + 1, 0, none⟩), .pointer (some ⟨w.heap.size + 1, 1, none⟩), .pointer (some ⟨w.heap.size + 1, 2, none⟩)] 124) := ⟨_, rfl⟩
  have hgl := lt_of_block h.1
  have hs1 : (w.alloc (.cells Z.toArray 35)).heap.size = w.heap.size + 1 := World.size_alloc ..
  have hs2 : ((w.alloc (.cells Z.toArray 35)).alloc (.cells Z.toArray 35)).heap.size = w.heap.size + 2 := by rw [World.size_alloc, hs1]
  have hs3 : W.heap.size = w.heap.size + 3 := by rw [eW, World.size_alloc, hs2]
  have hb3 : Below w.heap.size w W := by rw [eW]; exact Below.step (one_allocK _ _) (Below.step (one_allocK _ _) (one_allocK _ _))
  have r0 : W.heap[w.heap.size]? = some (.cells Z.toArray 35 (0, 0)) := by
    rw [eW]
    exact (Below.kept (one_allocK _ _)).heap ((Below.kept (one_allocK _ _)).heap (heap_alloc_new w _) (fun e => by omega)) (fun e => by omega)
  have r1 : W.heap[w.heap.size + 1]? = some (.cells Z.toArray 35 (0, 0)) := by
    rw [eW]
    have h1 := heap_alloc_new (w.alloc (.cells Z.toArray 35)) (.cells Z.toArray 35)
    rw [hs1] at h1
    exact (Below.kept (one_allocK _ _)).heap h1 (fun e => by omega)
  have r2 : W.heap[w.heap.size + 2]? = some (.cells #[.pointer (some ⟨w.heap.size + 1, 0, none⟩), .pointer (some ⟨w.heap.size + 1, 1, none⟩), .pointer (some ⟨w.heap.size + 1, 2, none⟩)] 124 (0, 0)) := by
    rw [eW]
    have h1 := heap_alloc_new ((w.alloc (.cells Z.toArray 35)).alloc (.cells Z.toArray 35)) (.cells #[.pointer (some ⟨w.heap.size + 1, 0, none⟩), .pointer (some ⟨w.heap.size + 1, 1, none⟩), .pointer (some ⟨w.heap.size + 1, 2, none⟩)] 124)
    rw [hs2] at h1
    exact h1
  have hR : IsR W g v (([boot, acc, cur].map be4).flatten ++ (be8 (up64 snap) ++ be8 (up64 log))) 0 := by
    have h2 := h.kept (Below.kept hb3) (fun e => by omega) (fun k e e' => by have := hvl k e; omega)
    simpa using h2
  have hbyW : Byts (([boot, acc, cur].map be4).flatten ++ (be8 (up64 snap) ++ be8 (up64 log))) := by simpa using hby
  have HP : Hid _ := mget32 g (w.heap.size + 1) (w.heap.size + 2) 0 v [boot, acc, cur] (be8 (up64 snap) ++ be8 (up64 log)) Z W hR hbyW r1 (fun i hi => by
    rcases (show i = 0 ∨ i = 1 ∨ i = 2 by simp at hi; omega) with rfl | rfl | rfl
    · exact cell_of_row _ _ 0 _ _ _ r2
    · exact cell_of_row _ _ 1 _ _ _ r2
    · exact cell_of_row _ _ 2 _ _ _ r2) ⟨by omega, by omega, by omega⟩ (fun k e => by have := hvl k e; omega) (by simp) (by rw [hZ]; simp) (fun i h1 h2 => by
    rw [hZ]
    rcases (show i = 0 ∨ i = 1 ∨ i = 2 by simp at h2; omega) with rfl | rfl | rfl <;> exact ⟨0, rfl⟩)
  have HX : Hid (Below w.heap.size w W ∧ W.heap[w.heap.size]? = some (.cells Z.toArray 35 (0, 0)) ∧ (∀ k, v.ownBlock = some k → k < w.heap.size) ∧ Byts (be8 (up64 snap) ++ be8 (up64 log))) := ⟨hb3, r0, hvl, fun x hx => hby x (by simp only [List.mem_append] at hx ⊢; exact .inr (.inr (.inr hx)))⟩
  have HE : Hid _ := eW
  have HZ : Hid _ := hZ
  have HM : Hid _ := hm
  rw [hZ] at HE
  clear h hby hvl r0 r1 r2 hR hbyW hb3 eW hm hs1 hs2
  go_enter Tryz.func44, Tryz.ntmps44
  go_wp2_with fail
  rw [← HE.out]
  refine Calls.mono HP.out ?_
  rintro e w1 ⟨rfl, hg1⟩
  obtain ⟨⟨v1, hR1, hs1⟩, hq1, hk1⟩ := hg1
  have e1 : cellsK Z 0 ([boot, acc, cur].map (Value.int .u32)) 3 = [.int .u32 boot, .int .u32 acc, .int .u32 cur, .int .i64 0, .int .i64 0] := by rw [HZ.out]; rfl
  rw [show [boot, acc, cur].length = 3 from rfl, e1] at hq1
  have hsz1 := hk1.size
  have r01 : w1.heap[w.heap.size]? = some (.cells Z.toArray 35 (0, 0)) := hk1.heap HX.out.2.1 (fun e => by omega)
  obtain ⟨W2, eW2⟩ : ∃ W2, W2 = w1.alloc (.cells #[.pointer (some ⟨w.heap.size + 1, 3, none⟩), .pointer (some ⟨w.heap.size + 1, 4, none⟩)] 127) := ⟨_, rfl⟩
  have hb2 : Below w1.heap.size w1 W2 := by rw [eW2]; exact one_allocK _ _
  have hsW2 : W2.heap.size = w1.heap.size + 1 := by rw [eW2, World.size_alloc]
  have r2 : W2.heap[w1.heap.size]? = some (.cells #[.pointer (some ⟨w.heap.size + 1, 3, none⟩), .pointer (some ⟨w.heap.size + 1, 4, none⟩)] 127 (0, 0)) := by rw [eW2]; exact heap_alloc_new w1 _
  have hv1 : ∀ k, v1.ownBlock = some k → k < w.heap.size := fun k e => HX.out.2.2.1 k (hs1 k e)
  have hR2 : IsR W2 g v1 (([snap, log].map (fun n => be8 (up64 n))).flatten ++ []) 0 := by
    have h2 := hR1.kept (Below.kept hb2) (fun e => by omega) (fun k e e' => by have := hv1 k e; omega)
    simpa using h2
  have hby2 : Byts (([snap, log].map (fun n => be8 (up64 n))).flatten ++ []) := by simpa using HX.out.2.2.2
  have HP2 : Hid _ := mget64 g (w.heap.size + 1) w1.heap.size 3 v1 [snap, log] [] [.int .u32 boot, .int .u32 acc, .int .u32 cur, .int .i64 0, .int .i64 0] W2 hR2 hby2 ((Below.kept hb2).heap hq1 (fun e => by omega)) (fun i hi => by
    rcases (show i = 0 ∨ i = 1 by simp at hi; omega) with rfl | rfl
    · exact cell_of_row _ _ 0 _ _ _ r2
    · exact cell_of_row _ _ 1 _ _ _ r2) (fun x hx => by
    simp at hx
    have hmm := HM.out
    rcases hx with rfl | rfl
    · exact ⟨hmm.s0, hmm.s1⟩
    · exact ⟨hmm.l0, hmm.l1⟩) ⟨by omega, by omega, by omega⟩ (fun k e => by have := hv1 k e; omega) (by simp) (by simp) (fun i h1 h2 => by
    rcases (show i = 3 ∨ i = 4 by simp at h2; omega) with rfl | rfl <;> exact ⟨0, rfl⟩)
  have HV1 : Hid _ := hv1
  have HX2 : Hid (Kept w W2 (· = g) ∧ W2.heap[w.heap.size]? = some (.cells Z.toArray 35 (0, 0))) := ⟨((Below.kept HX.out.1).trans' hk1 (fun k hk e => by omega) (fun k hk e => by rcases e with e | e; exact e; omega)).trans' (Below.kept hb2) (fun k _ e => e) (fun k hk e => by omega), (Below.kept hb2).heap r01 (fun e => by omega)⟩
  have HE2 : Hid _ := eW2
  clear hR1 hs1 hq1 hk1 e1 r01 hb2 r2 hv1 hR2 hby2 eW2
  go_wp2_with fail
  rw [← HE2.out]
  refine Calls.mono HP2.out ?_
  rintro e w2 ⟨rfl, hg2⟩
  obtain ⟨⟨v2, hR3, hs2⟩, hq2, hk2⟩ := hg2
  have e2 : cellsK [.int .u32 boot, .int .u32 acc, .int .u32 cur, .int .i64 0, .int .i64 0] 3 ([snap, log].map (Value.int .i64)) 2 = [.int .u32 boot, .int .u32 acc, .int .u32 cur, .int .i64 snap, .int .i64 log] := rfl
  rw [show [snap, log].length = 2 from rfl, e2] at hq2
  have r02 : w2.heap[w.heap.size]? = some (.cells Z.toArray 35 (0, 0)) := hk2.heap HX2.out.2 (fun e => by omega)
  rw [HZ.out] at r02
  have q0 := cell_of_row w2 _ 0 _ _ _ hq2
  have q1 := cell_of_row w2 _ 1 _ _ _ hq2
  have q2 := cell_of_row w2 _ 2 _ _ _ hq2
  have q3 := cell_of_row w2 _ 3 _ _ _ hq2
  have q4 := cell_of_row w2 _ 4 _ _ _ hq2
  have z0 := cell_of_row w2 _ 0 _ _ _ r02
  have z1 := cell_of_row w2 _ 1 _ _ _ r02
  have z2 := cell_of_row w2 _ 2 _ _ _ r02
  have z3 := cell_of_row w2 _ 3 _ _ _ r02
  have z4 := cell_of_row w2 _ 4 _ _ _ r02
  simp only [List.getElem?_toArray, List.getElem?_cons_zero, List.getElem?_cons_succ] at q0 q1 q2 q3 q4 z0 z1 z2 z3 z4
  have f0 := frozen_of_row w2 w.heap.size 0 _ _ r02
  have f1 := frozen_of_row w2 w.heap.size 1 _ _ r02
  have f2 := frozen_of_row w2 w.heap.size 2 _ _ r02
  have f3 := frozen_of_row w2 w.heap.size 3 _ _ r02
  have f4 := frozen_of_row w2 w.heap.size 4 _ _ r02
  have hlq := lt_of_block hq2
  have hlz := lt_of_block r02
  have HF : Hid ((∃ v', IsR w2 g v' [] 0 ∧ ∀ k, v'.ownBlock = some k → k < w.heap.size) ∧ Kept w w2 (· = g) ∧ w2.heap[w.heap.size]? = some (.cells #[.int .u32 0, .int .u32 0, .int .u32 0, .int .i64 0, .int .i64 0] 35 (0, 0))) := by
    refine ⟨⟨v2, hR3, fun k e => ?_⟩, HX2.out.1.trans' hk2 (fun k _ e => e) (fun k hk e => by rcases e with e | e; exact e; omega), r02⟩
    exact HV1.out k (hs2 k e)
  clear hR3 hs2 hq2 hk2 r02 HP HP2
  go_wp2_with fail
  obtain ⟨⟨v', hR, hvl⟩, hK, hrow⟩ := HF.out
  refine bodyPost_ret (v := MaD.val ⟨boot, acc, cur, snap, log⟩) (results_cell_row Tryz.results44 _ _ w.heap.size _ _ _ _ rfl (row5 hrow _ _ _ _ _) Tryz.underlying35 rfl man_size) rfl ⟨rfl, ⟨v', ?_, hvl⟩, ?_⟩
  · exact hR.kept (kept5 w2 w.heap.size _ _ _ _ _) (fun e => by omega) (fun k e e' => by have := hvl k e; omega)
  · exact hK.trans' (kept5 w2 w.heap.size _ _ _ _ _) (fun k _ e => e) (fun k hk e => by omega)
end Go.Proofs.YtdbphdllibffnaaGreat

/- A manifest's bytes, read: Read. -/
namespace Go.Proofs.YtdbphdllibffnaaGreat
open Go.RowKit Go.Shelf
set_option maxRecDepth 8000

/-- What a function of a manifest and an error answers. -/
theorem man_ret {fn : Func} {p u : Tmp} (h : fn.results = #[.cell p 35, .tmp u]) (tmps : Array Value) (w : World) (b : Nat) (cs : Array Value) (x : Value) (t : TypeId) (fr : Nat × Nat) (hp : tmps.getD p undef = .pointer (some ⟨b, 0, none⟩)) (hu : tmps.getD u undef = x) (hrow : w.heap[b]? = some (.cells cs t fr)) (hs : cs.size = 5) : (results fn tmps).run Tryz.prog w = .ok (.tuple #[.agg cs, x]) w := by
  rw [results_cell_tmp h, hp, hu]
  have hld := run_loadVar_row (P := Tryz.prog) w b t 35 cs fr _ hrow Tryz.underlying35 rfl (by rw [hs]; exact man_size)
  simp only [asAddr, Sem.run_pure, Result.andThen_ok, hld]

theorem maF_len (m : MaD) : (maF m).length = 38 := by rw [frameL_len, maB_len]
theorem maF_body (m : MaD) : bodyLen (maF m) = 29 := by
  have h := bodyLen_frame (maB m) [] (maB_sz m)
  rw [List.append_nil, maB_len] at h
  exact h
theorem maF_cut (m : MaD) : ((maF m).drop 8).take 29 = maB m := by
  show ((frameL (maB m)).drop 8).take 29 = _
  unfold frameL
  rw [dropF (headL_len _), takeF (maB_len m)]

theorem headL_byts (xs : List Int) (h1 : xs.length < 4294967296) : Byts (headL xs) := by
  intro x hx
  unfold headL at hx
  have ha := adler_bd xs
  rcases List.mem_append.1 hx with h | h
  · exact mbyts4 _ (by omega) (by omega) x h
  · exact mbyts4 _ ha.1 ha.2 x h

theorem maF_byts (m : MaD) (hm : m.Fits) : Byts (maF m) := by
  intro x hx
  have hx : x ∈ frameL (maB m) := hx
  unfold frameL at hx
  rcases List.mem_append.1 hx with h | h
  · exact headL_byts _ (by rw [maB_len]; omega) x h
  · rcases List.mem_append.1 h with h | h
    · exact maB_byts m hm x h
    · simp at h; omega

set_option maxHeartbeats 1000000 in
theorem mread_bad (v : Value) (xs : List Int) (w : World) (h : Sees w v xs) (hb : Byts xs) (hl : xs.length ≤ 140737488355328) (hn : bodyLen xs = 0 ∨ bodyLen xs + 9 ≠ xs.length) :
    Calls Tryz.prog 16 #[v] w fun e w' => e = .returned (.tuple #[zeroM, .int .i64 110]) ∧ Below w.heap.size w w' := by
  obtain ⟨W, eW⟩ : ∃ W, W = w.alloc (.cells #[.int .u32 0, .int .u32 0, .int .u32 0, .int .i64 0, .int .i64 0] 35) := ⟨_, rfl⟩
  have hbW : Below w.heap.size w W := by rw [eW]; exact one_allocK _ _
  have HO : Hid _ := one_bad v xs W (h.below hbW (Nat.le_refl _)) hb hl hn
  have hrow : W.heap[w.heap.size]? = some (.cells #[.int .u32 0, .int .u32 0, .int .u32 0, .int .i64 0, .int .i64 0] 35 (0, 0)) := by rw [eW]; exact heap_alloc_new w _
  have HE : Hid _ := eW
  have HX : Hid (Below w.heap.size w W ∧ W.heap[w.heap.size]? = some (.cells #[.int .u32 0, .int .u32 0, .int .u32 0, .int .i64 0, .int .i64 0] 35 (0, 0))) := ⟨hbW, hrow⟩
  have hlW := lt_of_block hrow
  clear h hb hl hn hbW hrow eW
  go_enter Tryz.func16, Tryz.ntmps16
  go_upto_region 1 with fail
  rw [← HE.out]
  go_wp2_with fail
  refine Calls.mono HO.out ?_
  rintro e w1 ⟨rfl, hb1⟩
  have hrow1 : w1.heap[w.heap.size]? = some (.cells #[.int .u32 0, .int .u32 0, .int .u32 0, .int .i64 0, .int .i64 0] 35 (0, 0)) := (Below.kept hb1).heap HX.out.2 (fun e => by omega)
  have hl1 := lt_of_block hrow1
  have c0 := cell_of_row w1 _ 0 _ _ _ hrow1
  have c1 := cell_of_row w1 _ 1 _ _ _ hrow1
  have c2 := cell_of_row w1 _ 2 _ _ _ hrow1
  have c3 := cell_of_row w1 _ 3 _ _ _ hrow1
  have c4 := cell_of_row w1 _ 4 _ _ _ hrow1
  simp only [List.getElem?_toArray, List.getElem?_cons_zero, List.getElem?_cons_succ] at c0 c1 c2 c3 c4
  have f0 := frozen_of_row w1 w.heap.size 0 _ _ hrow1
  have f1 := frozen_of_row w1 w.heap.size 1 _ _ hrow1
  have f2 := frozen_of_row w1 w.heap.size 2 _ _ hrow1
  have f3 := frozen_of_row w1 w.heap.size 3 _ _ hrow1
  have f4 := frozen_of_row w1 w.heap.size 4 _ _ hrow1
  have HB1 : Hid (Below w.heap.size w w1) := Below.step HX.out.1 hb1
  have HR1 : Hid _ := hrow1
  clear hrow1 hb1 HO
  go_wp2_with fail
  refine bodyPost_ret (v := .tuple #[zeroM, .int .i64 110]) (man_ret Tryz.results16 _ _ w.heap.size _ _ _ _ rfl rfl (row5 HR1.out _ _ _ _ _) rfl) rfl ⟨rfl, ?_⟩
  exact HB1.out.trans ((kept5 w1 w.heap.size _ _ _ _ _).below HB1.out.size (fun k e => by omega))

set_option maxHeartbeats 2000000 in
theorem mread_good (v : Value) (m : MaD) (hm : m.Fits) (hy : mayM m = true) (w : World) (h : Sees w v (maF m)) :
    Calls Tryz.prog 16 #[v] w fun e w' => e = .returned (.tuple #[m.val, .int .i64 0]) ∧ Below w.heap.size w w' := by
  obtain ⟨W, eW⟩ : ∃ W, W = w.alloc (.cells #[.int .u32 0, .int .u32 0, .int .u32 0, .int .i64 0, .int .i64 0] 35) := ⟨_, rfl⟩
  have hbW : Below w.heap.size w W := by rw [eW]; exact one_allocK _ _
  have HO : Hid _ := one_ok v (maF m) W (h.below hbW (Nat.le_refl _)) (maF_byts m hm) (by rw [maF_len]; omega) (by rw [maF_body]; omega) (by rw [maF_body, maF_len])
  rw [maF_body, maF_cut] at HO
  have hrow : W.heap[w.heap.size]? = some (.cells #[.int .u32 0, .int .u32 0, .int .u32 0, .int .i64 0, .int .i64 0] 35 (0, 0)) := by rw [eW]; exact heap_alloc_new w _
  have HE : Hid _ := eW
  have HX : Hid (Below w.heap.size w W ∧ W.heap[w.heap.size]? = some (.cells #[.int .u32 0, .int .u32 0, .int .u32 0, .int .i64 0, .int .i64 0] 35 (0, 0)) ∧ m.Fits ∧ mayM m = true) := ⟨hbW, hrow, hm, hy⟩
  have hlW := lt_of_block hrow
  clear h hbW hrow eW hm hy
  go_enter Tryz.func16, Tryz.ntmps16
  go_upto_region 1 with fail
  rw [← HE.out]
  go_wp2_with fail
  refine Calls.mono HO.out ?_
  rintro e w1 ⟨g1, rfl, hg1, ho1, hb1⟩
  have HNW : Hid _ := new_any _ (maB m) w1 (Sees.own ho1) (by rw [maB_len]; omega)
  have HB1 : Hid (Below w.heap.size w w1) := Below.step HX.out.1 hb1
  have HR1 : Hid (w1.heap[w.heap.size]? = some (.cells #[.int .u32 0, .int .u32 0, .int .u32 0, .int .i64 0, .int .i64 0] 35 (0, 0))) := (Below.kept hb1).heap HX.out.2.1 (fun e => by omega)
  clear ho1 hb1 HO hg1
  go_wp2_with fail
  refine Calls.mono HNW.out ?_
  rintro e w2 ⟨g, v2, rfl, hR2, hg2, ho2, hb2⟩
  have hlz1 := lt_of_block HR1.out
  have HR2 : Hid (w2.heap[w.heap.size]? = some (.cells #[.int .u32 0, .int .u32 0, .int .u32 0, .int .i64 0, .int .i64 0] 35 (0, 0))) := (Below.kept hb2).heap HR1.out (fun e => by omega)
  have HB2 : Hid (Below w.heap.size w w2) := Below.step HB1.out hb2
  have HV2 : Hid (∀ k, v2.ownBlock = some k → w1.heap.size ≤ k ∧ k < w2.heap.size) := fun k e => ho2.lt k e
  have HI8 : Hid _ := gI8 (g := g) (v := v2) (w := w2) 1 hR2 (maB_byts m HX.out.2.2.1) (by decide) (by decide)
  clear hR2 ho2 hb2 HNW
  go_wp2_with fail
  refine Calls.mono HI8.out ?_
  rintro e w3 ⟨rfl, v3, hR3, hs3, hk3⟩
  have HNB : Hid _ := numbers_m g v3 m HX.out.2.2.1 w3 hR3 (fun x hx => maB_byts m HX.out.2.2.1 x (List.mem_append.2 (.inr hx))) (fun k e => by have := (HV2.out k (hs3 k e)).2; have := hk3.size; omega)
  have HB3 : Hid (Below w.heap.size w w3 ∧ w3.heap[w.heap.size]? = some (.cells #[.int .u32 0, .int .u32 0, .int .u32 0, .int .i64 0, .int .i64 0] 35 (0, 0))) := ⟨HB2.out.trans (hk3.below HB2.out.size (fun k e => by have := HB1.out.size; omega)), hk3.heap HR2.out (fun e => by omega)⟩
  clear hR3 hs3 hk3 HI8
  go_wp2_with fail
  refine Calls.mono HNB.out ?_
  rintro e w4 ⟨rfl, ⟨v4, hR4, hv4⟩, hk4⟩
  have hlz3 := lt_of_block HB3.out.2
  have HB4 : Hid (Below w.heap.size w w4 ∧ w4.heap[w.heap.size]? = some (.cells #[.int .u32 0, .int .u32 0, .int .u32 0, .int .i64 0, .int .i64 0] 35 (0, 0)) ∧ IsR w4 g v4 [] 0 ∧ ∀ k, v4.ownBlock = some k → k < w4.heap.size) := ⟨HB3.out.1.trans (hk4.below HB3.out.1.size (fun k e => by have := HB1.out.size; omega)), hk4.heap HB3.out.2 (fun e => by omega), hR4, fun k e => Nat.lt_of_lt_of_le (hv4 k e) hk4.size⟩
  clear hR4 hv4 hk4 HNB
  obtain ⟨boot, acc, cur, snap, log⟩ := m
  obtain ⟨W5, eW5⟩ : ∃ W5, W5 = w4.alloc (.cells #[.int .u32 boot, .int .u32 acc, .int .u32 cur, .int .i64 snap, .int .i64 log] 35) := ⟨_, rfl⟩
  have hb5 : Below w4.heap.size w4 W5 := by rw [eW5]; exact one_allocK _ _
  have r5 : W5.heap[w4.heap.size]? = some (.cells #[.int .u32 boot, .int .u32 acc, .int .u32 cur, .int .i64 snap, .int .i64 log] 35 (0, 0)) := by rw [eW5]; exact heap_alloc_new w4 _
  have hR5 := HB4.out.2.2.1.kept (Below.kept hb5) (fun e => by have := lt_of_block HB4.out.2.2.1.1; omega) (fun k e e' => by have := HB4.out.2.2.2 k e; omega)
  have HEN : Hid _ := rEnd_any g v4 [] 0 W5 hR5
  have HMB : Hid _ := mayBe_m ⟨boot, acc, cur, snap, log⟩ W5
  rw [HX.out.2.2.2] at HMB
  have hlz4 := lt_of_block HB4.out.2.1
  have HB5 : Hid (Below w.heap.size w W5 ∧ W5.heap[w.heap.size]? = some (.cells #[.int .u32 0, .int .u32 0, .int .u32 0, .int .i64 0, .int .i64 0] 35 (0, 0)) ∧ W5.heap[w4.heap.size]? = some (.cells #[.int .u32 boot, .int .u32 acc, .int .u32 cur, .int .i64 snap, .int .i64 log] 35 (0, 0))) := ⟨Below.step HB4.out.1 hb5, (Below.kept hb5).heap HB4.out.2.1 (fun e => by omega), r5⟩
  have k0 := cell_of_row W5 _ 0 _ _ _ r5
  have k1 := cell_of_row W5 _ 1 _ _ _ r5
  have k2 := cell_of_row W5 _ 2 _ _ _ r5
  have k3 := cell_of_row W5 _ 3 _ _ _ r5
  have k4 := cell_of_row W5 _ 4 _ _ _ r5
  simp only [List.getElem?_toArray, List.getElem?_cons_zero, List.getElem?_cons_succ] at k0 k1 k2 k3 k4
  have hl5 := lt_of_block r5
  have HE5 : Hid _ := eW5
  clear hb5 r5 hR5 eW5
  go_upto_region 6 with fail
  rw [← HE5.out]
  go_wp2_with fail
  refine Calls.mono HEN.out ?_
  rintro e w6 ⟨rfl, hw6⟩
  subst w6
  go_wp2_with fail
  refine Calls.mono HMB.out ?_
  rintro e w6 ⟨rfl, hb6⟩
  have r6 : w6.heap[w4.heap.size]? = some (.cells #[.int .u32 boot, .int .u32 acc, .int .u32 cur, .int .i64 snap, .int .i64 log] 35 (0, 0)) := (Below.kept hb6).heap HB5.out.2.2 (fun e => by omega)
  have z6 : w6.heap[w.heap.size]? = some (.cells #[.int .u32 0, .int .u32 0, .int .u32 0, .int .i64 0, .int .i64 0] 35 (0, 0)) := (Below.kept hb6).heap HB5.out.2.1 (fun e => by omega)
  have q0 := cell_of_row w6 _ 0 _ _ _ r6
  have q1 := cell_of_row w6 _ 1 _ _ _ r6
  have q2 := cell_of_row w6 _ 2 _ _ _ r6
  have q3 := cell_of_row w6 _ 3 _ _ _ r6
  have q4 := cell_of_row w6 _ 4 _ _ _ r6
  have z0 := cell_of_row w6 _ 0 _ _ _ z6
  have z1 := cell_of_row w6 _ 1 _ _ _ z6
  have z2 := cell_of_row w6 _ 2 _ _ _ z6
  have z3 := cell_of_row w6 _ 3 _ _ _ z6
  have z4 := cell_of_row w6 _ 4 _ _ _ z6
  simp only [List.getElem?_toArray, List.getElem?_cons_zero, List.getElem?_cons_succ] at q0 q1 q2 q3 q4 z0 z1 z2 z3 z4
  have f0 := frozen_of_row w6 w.heap.size 0 _ _ z6
  have f1 := frozen_of_row w6 w.heap.size 1 _ _ z6
  have f2 := frozen_of_row w6 w.heap.size 2 _ _ z6
  have f3 := frozen_of_row w6 w.heap.size 3 _ _ z6
  have f4 := frozen_of_row w6 w.heap.size 4 _ _ z6
  have hl6 := lt_of_block r6
  have hlz6 := lt_of_block z6
  have HB6 : Hid (Below w.heap.size w w6) := Below.step HB5.out.1 hb6
  have HZ6 : Hid _ := z6
  clear r6 z6 hb6 k0 k1 k2 k3 k4
  go_wp2_with fail
  refine bodyPost_ret (v := .tuple #[MaD.val ⟨boot, acc, cur, snap, log⟩, .int .i64 0]) (man_ret Tryz.results16 _ _ w.heap.size _ _ _ _ rfl rfl (row5 HZ6.out _ _ _ _ _) rfl) rfl ⟨rfl, ?_⟩
  exact HB6.out.trans ((kept5 w6 w.heap.size _ _ _ _ _).below HB6.out.size (fun k e => by omega))
end Go.Proofs.YtdbphdllibffnaaGreat

/- manifest: isNone, the names looked through, the writes of a Put. -/
namespace Go.Proofs.YtdbphdllibffnaaGreat
open Go.RowKit Go.Shelf
set_option maxRecDepth 8000

theorem errO_nil (D : DkD) : D.errO ⟨#[]⟩ = if D.on then 22 else 23 := by
  unfold DkD.errO
  have : isNm ⟨#[]⟩ = false := by decide
  rw [this]
  rfl

set_option maxHeartbeats 400000 in
theorem isNone_dk {w : World} {p : Nat} {fv : Value} {ms : List FiM} {D : DkD} (h : IsDk w p fv ms D) (ok : DkOk D) : Calls Tryz.prog 46 #[.pointer (some ⟨p, 0, none⟩)] w fun e w' => e = .returned (.bool false) ∧ Below w.heap.size w w' := by
  have HR : Hid _ := read_any h ok ⟨#[]⟩
  rw [errO_nil] at HR
  obtain ⟨E, hE, hE1⟩ : ∃ E : Int, E = (if D.on then 22 else 23) ∧ E ≠ 1 := ⟨_, rfl, by cases D.on <;> decide⟩
  rw [← hE] at HR
  have hb : (E == 1) = false := by simpa using hE1
  clear h ok hE hE1
  go_enter Tryz.func46, Tryz.ntmps46
  go_wp2_with fail
  refine Calls.mono HR.out ?_
  rintro e w1 ⟨⟨v, rfl, _⟩, hb1⟩
  have HB : Hid _ := hb1
  clear hb1
  go_wp2_with fail
  go_ret
  exact ⟨rfl, HB.out⟩

theorem toList_injM {a b : ByteArray} (h : a.toList = b.toList) : a = b := by
  rw [ByteArray.toList_eq, ByteArray.toList_eq] at h
  exact ByteArray.ext (Array.toList_inj.1 h)

set_option maxHeartbeats 1000000 in
theorem index_no {w : World} {B g c : Nat} {fs : List FiD} {n : ByteArray} (h : w.ownsRow B 9 1 (.slice (some ⟨g, 0, none⟩) fs.length c) fs.length (nmC fs)) (hno : ∀ f ∈ fs, f.name ≠ n) (hfew : fs.length ≤ 64) (hc : fs.length ≤ c ∧ c ≤ 9223372036854775807) :
    Calls Tryz.prog 120 #[.slice (some ⟨g, 0, none⟩) fs.length c, .string n] w fun e w' => e = .returned (.int .i64 (-1)) ∧ w' = w := by
  have H : Hid (∀ k (hk : k < fs.length), w.cell? ⟨g, k, none⟩ = some (.string fs[k].name)) := fun k hk => by
    have := h.cellAt k (by simpa using hk)
    rw [this]
    simp [hk]
  have HN : Hid _ := hno
  clear h hno
  obtain ⟨N, hN⟩ : ∃ N, N = fs.length := ⟨_, rfl⟩
  rw [← hN] at hfew hc ⊢
  have HNN : Hid _ := hN
  clear hN
  go_enter Tryz.func120, Tryz.ntmps120
  go_wp2_with fail
  go_loopw [5, 8] (fun _ vi wr => ∃ k : Nat, k ≤ N ∧ vi = .int .i64 k ∧ wr = w) (fun _ vi _ => N - (intOf vi).toNat)
  case atStart => exact ⟨0, Nat.zero_le _, rfl, rfl⟩
  case round =>
    obtain ⟨k, hk, rfl, rfl⟩ := hrel
    by_cases hlt : k < N
    · have hlt1 : k < fs.length := by rw [← HNN.out]; exact hlt
      have hck := H.out k hlt1
      have hne := HN.out _ (List.getElem_mem hlt1)
      have hb : (n.toList == fs[k].name.toList) = false := by
        rw [beq_eq_false_iff_ne]
        exact fun e => hne (toList_injM e).symm
      have hb2 : ¬ n.toList = fs[k].name.toList := fun e => hne (toList_injM e).symm
      have hlb := World.block_lt_of_cell? _ _ hck
      clear hne
      generalize fs[k].name = nm at *
      go_wp2_with fail
      go_roundw
      case rel => exact ⟨k + 1, by omega, by go_num, by trivial⟩
      case measure => simp [intOf]; omega
    · obtain rfl : k = N := by omega
      go_wp2_with fail
      go_ret
      exact ⟨rfl, rfl⟩

set_option maxHeartbeats 400000 in
theorem contains_no {w : World} {B g c : Nat} {fs : List FiD} {n : ByteArray} (h : w.ownsRow B 9 1 (.slice (some ⟨g, 0, none⟩) fs.length c) fs.length (nmC fs)) (hno : ∀ f ∈ fs, f.name ≠ n) (hfew : fs.length ≤ 64) (hc : fs.length ≤ c ∧ c ≤ 9223372036854775807) :
    Calls Tryz.prog 95 #[.slice (some ⟨g, 0, none⟩) fs.length c, .string n] w fun e w' => e = .returned (.bool false) ∧ w' = w := by
  have HI : Hid _ := index_no h hno hfew hc
  clear h hno
  go_enter Tryz.func95, Tryz.ntmps95
  go_wp2_with fail
  refine Calls.mono HI.out ?_
  rintro e w1 ⟨rfl, hw1⟩
  subst w1
  go_wp2_with fail
  go_ret
  exact ⟨rfl, rfl⟩

/-- The writes of a Put, as functions that have caught the disk and the bytes. -/
abbrev wfn1 (B : Nat) : Value := .func (.func 91) #[] #[.pointer (some ⟨B, 0, none⟩), .pointer (some ⟨B + 1, 0, none⟩)]
abbrev wfn2 (B : Nat) : Value := .func (.func 92) #[] #[.pointer (some ⟨B, 0, none⟩)]
abbrev wfn3 (B : Nat) : Value := .func (.func 93) #[] #[.pointer (some ⟨B, 0, none⟩)]

set_option maxHeartbeats 1000000 in
theorem writes_no {w : World} {p : Nat} {fv : Value} {ms : List FiM} {D : DkD} (h : IsDk w p fv ms D) (ok : DkOk D) (hno : hasF D.files newN = false) (x : Option Addr) (l y : Nat) :
    Calls Tryz.prog 47 #[.pointer (some ⟨p, 0, none⟩), .slice x l y] w fun e w' => e = .returned (.slice (some ⟨w.heap.size + 2, 0, none⟩) 3 3) ∧ Below w.heap.size w w' ∧ w'.heap[w.heap.size]? = some (.cells #[.pointer (some ⟨p, 0, none⟩)] 25 (0, 0)) ∧ w'.heap[w.heap.size + 1]? = some (.cells #[.slice x l y] 36 (0, 0)) ∧ w'.heap[w.heap.size + 2]? = some (.cells #[wfn1 w.heap.size, wfn2 w.heap.size, wfn3 w.heap.size] 81 (0, 0)) := by
  obtain ⟨W, eW⟩ : ∃ W, W = ((w.alloc (.cells #[.pointer (some ⟨p, 0, none⟩)] 25)).alloc (.cells #[.slice x l y] 36)).alloc (.cells #[wfn1 w.heap.size, wfn2 w.heap.size, wfn3 w.heap.size] 81) := ⟨_, rfl⟩
  have hs1 : (w.alloc (.cells #[.pointer (some ⟨p, 0, none⟩)] 25)).heap.size = w.heap.size + 1 := World.size_alloc ..
  have hs2 : ((w.alloc (.cells #[.pointer (some ⟨p, 0, none⟩)] 25)).alloc (.cells #[.slice x l y] 36)).heap.size = w.heap.size + 2 := by rw [World.size_alloc, hs1]
  have hs3 : W.heap.size = w.heap.size + 3 := by rw [eW, World.size_alloc, hs2]
  have hb3 : Below w.heap.size w W := by rw [eW]; exact Below.step (one_allocK _ _) (Below.step (one_allocK _ _) (one_allocK _ _))
  have r0 : W.heap[w.heap.size]? = some (.cells #[.pointer (some ⟨p, 0, none⟩)] 25 (0, 0)) := by
    rw [eW]
    exact (Below.kept (one_allocK _ _)).heap ((Below.kept (one_allocK _ _)).heap (heap_alloc_new w _) (fun e => by omega)) (fun e => by omega)
  have r1 : W.heap[w.heap.size + 1]? = some (.cells #[.slice x l y] 36 (0, 0)) := by
    rw [eW]
    have h1 := heap_alloc_new (w.alloc (.cells #[.pointer (some ⟨p, 0, none⟩)] 25)) (.cells #[.slice x l y] 36)
    rw [hs1] at h1
    exact (Below.kept (one_allocK _ _)).heap h1 (fun e => by omega)
  have r2 : W.heap[w.heap.size + 2]? = some (.cells #[wfn1 w.heap.size, wfn2 w.heap.size, wfn3 w.heap.size] 81 (0, 0)) := by
    rw [eW]
    have h1 := heap_alloc_new ((w.alloc (.cells #[.pointer (some ⟨p, 0, none⟩)] 25)).alloc (.cells #[.slice x l y] 36)) (.cells #[wfn1 w.heap.size, wfn2 w.heap.size, wfn3 w.heap.size] 81)
    rw [hs2] at h1
    exact h1
  have HN : Hid _ := dNames_any (h.later hb3) ok
  have HX : Hid (Below w.heap.size w W ∧ W.heap[w.heap.size]? = some (.cells #[.pointer (some ⟨p, 0, none⟩)] 25 (0, 0)) ∧ W.heap[w.heap.size + 1]? = some (.cells #[.slice x l y] 36 (0, 0)) ∧ W.heap[w.heap.size + 2]? = some (.cells #[wfn1 w.heap.size, wfn2 w.heap.size, wfn3 w.heap.size] 81 (0, 0)) ∧ DkOk D ∧ ∀ f ∈ D.files, f.name ≠ newN) := ⟨hb3, r0, r1, r2, ok, fun f hf e => by
    have := (hasF_mem ok.rise newN).2 ⟨f, hf, e⟩
    rw [hno] at this
    cases this⟩
  have c0 : W.cell? ⟨w.heap.size, 0, none⟩ = some (.pointer (some ⟨p, 0, none⟩)) := cell_of_row W _ 0 _ _ _ r0
  have HE : Hid _ := eW
  have hlW := lt_of_block r0
  have HS3 : Hid _ := hs3
  clear h ok hno eW hb3 r0 r1 r2 hs1 hs2 hs3
  go_enter Tryz.func47, Tryz.ntmps47
  go_upto_region 2 with fail
  rw [← HE.out]
  go_wp2_with fail
  refine Calls.mono HN.out ?_
  rintro e w1 ⟨rfl, hn1, hb1⟩
  have HC : Hid _ := contains_no hn1 HX.out.2.2.2.2.2 HX.out.2.2.2.2.1.few ⟨Nat.le_refl _, by have := HX.out.2.2.2.2.1.few; omega⟩
  have HB1 : Hid _ := hb1
  clear hn1 hb1 HN
  go_wp2_with fail
  refine Calls.mono HC.out ?_
  rintro e w2 ⟨rfl, hw2⟩
  subst w2
  go_wp2_with fail
  go_ret
  have hs3 := HS3.out
  exact ⟨rfl, Below.step HX.out.1 HB1.out, (Below.kept HB1.out).heap HX.out.2.1 (fun e => by omega), (Below.kept HB1.out).heap HX.out.2.2.1 (fun e => by omega), (Below.kept HB1.out).heap HX.out.2.2.2.1 (fun e => by omega)⟩

set_option maxHeartbeats 400000 in
theorem wr1_any {w : World} {p : Nat} {fv : Value} {ms : List FiM} {D : DkD} (h : IsDk w p fv ms D) (ok : DkOk D) (hw : D.writes ≤ 4611686018427387904) (B : Nat) (u : Value) (ys : List Int) (c0 : w.cell? ⟨B, 0, none⟩ = some (.pointer (some ⟨p, 0, none⟩))) (c1 : w.cell? ⟨B + 1, 0, none⟩ = some u) (hu : Sees w u ys) (hap : ys ≠ [] → ∀ k, u.ownBlock = some k → k < w.heap.size ∧ k ∉ foot p fv ms) (hyl : ys.length ≤ 100000000000) :
    Calls Tryz.prog 91 #[.pointer (some ⟨B, 0, none⟩), .pointer (some ⟨B + 1, 0, none⟩)] w (ActTo w p fv ms (D.act (D.errA newN ys.length) (appF D.files newN ys))) := by
  have HA : Hid _ := append_any h ok hw newN u ys hu hap hyl
  have hl0 := World.block_lt_of_cell? w _ c0
  have hl1 := World.block_lt_of_cell? w _ c1
  obtain ⟨ua, uc, rfl, _⟩ := hu
  clear h ok hap
  go_enter Tryz.func91, Tryz.ntmps91
  go_wp2_with fail
  refine Calls.mono HA.out ?_
  rintro e w1 ⟨rfl, ht⟩
  have HT : Hid _ := ht
  clear ht
  go_wp2_with fail
  go_ret
  exact ⟨rfl, HT.out⟩

set_option maxHeartbeats 400000 in
theorem wr2_any {w : World} {p : Nat} {fv : Value} {ms : List FiM} {D : DkD} (h : IsDk w p fv ms D) (ok : DkOk D) (hw : D.writes ≤ 4611686018427387904) (B : Nat) (c0 : w.cell? ⟨B, 0, none⟩ = some (.pointer (some ⟨p, 0, none⟩))) :
    Calls Tryz.prog 92 #[.pointer (some ⟨B, 0, none⟩)] w (ActTo w p fv ms (D.act (D.errO newN) (updF D.files newN durF))) := by
  have HA : Hid _ := sync_any h ok hw newN
  have hl0 := World.block_lt_of_cell? w _ c0
  clear h ok
  go_enter Tryz.func92, Tryz.ntmps92
  go_wp2_with fail
  refine Calls.mono HA.out ?_
  rintro e w1 ⟨rfl, ht⟩
  have HT : Hid _ := ht
  clear ht
  go_wp2_with fail
  go_ret
  exact ⟨rfl, HT.out⟩

set_option maxHeartbeats 400000 in
theorem wr3_any {w : World} {p : Nat} {fv : Value} {ms : List FiM} {D : DkD} (h : IsDk w p fv ms D) (ok : DkOk D) (hw : D.writes ≤ 4611686018427387904) (B : Nat) (c0 : w.cell? ⟨B, 0, none⟩ = some (.pointer (some ⟨p, 0, none⟩))) :
    Calls Tryz.prog 93 #[.pointer (some ⟨B, 0, none⟩)] w (ActTo w p fv ms (D.act (D.errR newN manN) (renF D.files newN manN))) := by
  have HA : Hid _ := rename_any h ok hw newN manN
  have hl0 := World.block_lt_of_cell? w _ c0
  clear h ok
  go_enter Tryz.func93, Tryz.ntmps93
  go_wp2_with fail
  refine Calls.mono HA.out ?_
  rintro e w1 ⟨rfl, ht⟩
  have HT : Hid _ := ht
  clear ht
  go_wp2_with fail
  go_ret
  exact ⟨rfl, HT.out⟩
end Go.Proofs.YtdbphdllibffnaaGreat
