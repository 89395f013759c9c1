/- A manifest's bytes, read: numbers. -/
import Derived.Test.YtjdigknhiopdeaaGreatMaCJ
namespace Go.Proofs.YtjdigknhiopdeaaGreat
open Go.RowKit Go.Shelf
set_option maxRecDepth 8000

theorem man_size : (Tryz.prog.info? 27).map (·.size) = some 5 := by kernel_rfl

abbrev set5 (w : World) (b : Nat) (x0 x1 x2 x3 x4 : Value) : World := ((((w.setCell ⟨b, 0, none⟩ x0).setCell ⟨b, 1, none⟩ x1).setCell ⟨b, 2, none⟩ x2).setCell ⟨b, 3, none⟩ x3).setCell ⟨b, 4, none⟩ x4

theorem kept5 (w : World) (b : Nat) (x0 x1 x2 x3 x4 : Value) : Kept w (set5 w b x0 x1 x2 x3 x4) (fun k => k = b) :=
  ((((((Kept.refl w (fun k => k = b)).setCell ⟨b, 0, none⟩ x0 (fun _ => rfl)).setCell ⟨b, 1, none⟩ x1 (fun _ => rfl)).setCell ⟨b, 2, none⟩ x2 (fun _ => rfl)).setCell ⟨b, 3, none⟩ x3 (fun _ => rfl)).setCell ⟨b, 4, none⟩ x4 (fun _ => rfl))

theorem row5 {w : World} {b : Nat} {y0 y1 y2 y3 y4 : Value} {t : TypeId} {fr : Nat × Nat} (h : w.heap[b]? = some (.cells #[y0, y1, y2, y3, y4] t fr)) (x0 x1 x2 x3 x4 : Value) : (set5 w b x0 x1 x2 x3 x4).heap[b]? = some (.cells #[x0, x1, x2, x3, x4] t fr) :=
  heap_setK x4 (heap_setK x3 (heap_setK x2 (heap_setK x1 (heap_setK x0 h))))

set_option maxHeartbeats 2000000 in
theorem numbers_m (g : Nat) (v : Value) (m : MaD) (hm : m.Fits) (w : World) (h : IsR w g v (be4 m.boot ++ (be4 m.acc ++ (be4 m.cur ++ (be8 (up64 m.snap) ++ be8 (up64 m.log))))) 0) (hby : Byts (be4 m.boot ++ (be4 m.acc ++ (be4 m.cur ++ (be8 (up64 m.snap) ++ be8 (up64 m.log)))))) (hvl : ∀ k, v.ownBlock = some k → k < w.heap.size) :
    Calls Tryz.prog 19 #[.pointer (some ⟨g, 0, none⟩)] w fun e w' => e = .returned m.val ∧ (∃ v', IsR w' g v' [] 0 ∧ ∀ k, v'.ownBlock = some k → k < w.heap.size) ∧ Kept w w' (· = g) := by
  obtain ⟨boot, acc, cur, snap, log⟩ := m
  simp only at h hby
  obtain ⟨Z, hZ⟩ : ∃ Z : List Value, Z = [.int .u32 0, .int .u32 0, .int .u32 0, .int .i64 0, .int .i64 0] := ⟨_, rfl⟩
  obtain ⟨W, eW⟩ : ∃ W, W = ((w.alloc (.cells Z.toArray 27)).alloc (.cells Z.toArray 27)).alloc (.cells #[.pointer (some ⟨w.heap.size + 1, 0, none⟩), .pointer (some ⟨w.heap.size + 1, 1, none⟩), .pointer (some ⟨w.heap.size + 1, 2, none⟩)] 66) := ⟨_, rfl⟩
  have hgl := lt_of_block h.1
  have hs1 : (w.alloc (.cells Z.toArray 27)).heap.size = w.heap.size + 1 := World.size_alloc ..
  have hs2 : ((w.alloc (.cells Z.toArray 27)).alloc (.cells Z.toArray 27)).heap.size = w.heap.size + 2 := by rw [World.size_alloc, hs1]
  have hs3 : W.heap.size = w.heap.size + 3 := by rw [eW, World.size_alloc, hs2]
  have hb3 : Below w.heap.size w W := by rw [eW]; exact Below.step (one_allocK _ _) (Below.step (one_allocK _ _) (one_allocK _ _))
  have r0 : W.heap[w.heap.size]? = some (.cells Z.toArray 27 (0, 0)) := by
    rw [eW]
    exact (Below.kept (one_allocK _ _)).heap ((Below.kept (one_allocK _ _)).heap (heap_alloc_new w _) (fun e => by omega)) (fun e => by omega)
  have r1 : W.heap[w.heap.size + 1]? = some (.cells Z.toArray 27 (0, 0)) := by
    rw [eW]
    have h1 := heap_alloc_new (w.alloc (.cells Z.toArray 27)) (.cells Z.toArray 27)
    rw [hs1] at h1
    exact (Below.kept (one_allocK _ _)).heap h1 (fun e => by omega)
  have r2 : W.heap[w.heap.size + 2]? = some (.cells #[.pointer (some ⟨w.heap.size + 1, 0, none⟩), .pointer (some ⟨w.heap.size + 1, 1, none⟩), .pointer (some ⟨w.heap.size + 1, 2, none⟩)] 66 (0, 0)) := by
    rw [eW]
    have h1 := heap_alloc_new ((w.alloc (.cells Z.toArray 27)).alloc (.cells Z.toArray 27)) (.cells #[.pointer (some ⟨w.heap.size + 1, 0, none⟩), .pointer (some ⟨w.heap.size + 1, 1, none⟩), .pointer (some ⟨w.heap.size + 1, 2, none⟩)] 66)
    rw [hs2] at h1
    exact h1
  have hR : IsR W g v (([boot, acc, cur].map be4).flatten ++ (be8 (up64 snap) ++ be8 (up64 log))) 0 := by
    have h2 := h.kept (Below.kept hb3) (fun e => by omega) (fun k e e' => by have := hvl k e; omega)
    simpa using h2
  have hbyW : Byts (([boot, acc, cur].map be4).flatten ++ (be8 (up64 snap) ++ be8 (up64 log))) := by simpa using hby
  have HP : Hid _ := mget32 g (w.heap.size + 1) (w.heap.size + 2) 0 v [boot, acc, cur] (be8 (up64 snap) ++ be8 (up64 log)) Z W hR hbyW r1 (fun i hi => by
    rcases (show i = 0 ∨ i = 1 ∨ i = 2 by simp at hi; omega) with rfl | rfl | rfl
    · exact cell_of_row _ _ 0 _ _ _ r2
    · exact cell_of_row _ _ 1 _ _ _ r2
    · exact cell_of_row _ _ 2 _ _ _ r2) ⟨by omega, by omega, by omega⟩ (fun k e => by have := hvl k e; omega) (by simp) (by rw [hZ]; simp) (fun i h1 h2 => by
    rw [hZ]
    rcases (show i = 0 ∨ i = 1 ∨ i = 2 by simp at h2; omega) with rfl | rfl | rfl <;> exact ⟨0, rfl⟩)
  have HX : Hid (Below w.heap.size w W ∧ W.heap[w.heap.size]? = some (.cells Z.toArray 27 (0, 0)) ∧ (∀ k, v.ownBlock = some k → k < w.heap.size) ∧ Byts (be8 (up64 snap) ++ be8 (up64 log))) := ⟨hb3, r0, hvl, fun x hx => hby x (by simp only [List.mem_append] at hx ⊢; exact .inr (.inr (.inr hx)))⟩
  have HE : Hid _ := eW
  have HZ : Hid _ := hZ
  have HM : Hid _ := hm
  rw [hZ] at HE
  clear h hby hvl r0 r1 r2 hR hbyW hb3 eW hm hs1 hs2
  go_enter Tryz.func19, Tryz.ntmps19
  go_wp2_with fail
  rw [← HE.out]
  refine Calls.mono HP.out ?_
  rintro e w1 ⟨rfl, hg1⟩
  obtain ⟨⟨v1, hR1, hs1⟩, hq1, hk1⟩ := hg1
  have e1 : cellsK Z 0 ([boot, acc, cur].map (Value.int .u32)) 3 = [.int .u32 boot, .int .u32 acc, .int .u32 cur, .int .i64 0, .int .i64 0] := by rw [HZ.out]; rfl
  rw [show [boot, acc, cur].length = 3 from rfl, e1] at hq1
  have hsz1 := hk1.size
  have r01 : w1.heap[w.heap.size]? = some (.cells Z.toArray 27 (0, 0)) := hk1.heap HX.out.2.1 (fun e => by omega)
  obtain ⟨W2, eW2⟩ : ∃ W2, W2 = w1.alloc (.cells #[.pointer (some ⟨w.heap.size + 1, 3, none⟩), .pointer (some ⟨w.heap.size + 1, 4, none⟩)] 68) := ⟨_, rfl⟩
  have hb2 : Below w1.heap.size w1 W2 := by rw [eW2]; exact one_allocK _ _
  have hsW2 : W2.heap.size = w1.heap.size + 1 := by rw [eW2, World.size_alloc]
  have r2 : W2.heap[w1.heap.size]? = some (.cells #[.pointer (some ⟨w.heap.size + 1, 3, none⟩), .pointer (some ⟨w.heap.size + 1, 4, none⟩)] 68 (0, 0)) := by rw [eW2]; exact heap_alloc_new w1 _
  have hv1 : ∀ k, v1.ownBlock = some k → k < w.heap.size := fun k e => HX.out.2.2.1 k (hs1 k e)
  have hR2 : IsR W2 g v1 (([snap, log].map (fun n => be8 (up64 n))).flatten ++ []) 0 := by
    have h2 := hR1.kept (Below.kept hb2) (fun e => by omega) (fun k e e' => by have := hv1 k e; omega)
    simpa using h2
  have hby2 : Byts (([snap, log].map (fun n => be8 (up64 n))).flatten ++ []) := by simpa using HX.out.2.2.2
  have HP2 : Hid _ := mget64 g (w.heap.size + 1) w1.heap.size 3 v1 [snap, log] [] [.int .u32 boot, .int .u32 acc, .int .u32 cur, .int .i64 0, .int .i64 0] W2 hR2 hby2 ((Below.kept hb2).heap hq1 (fun e => by omega)) (fun i hi => by
    rcases (show i = 0 ∨ i = 1 by simp at hi; omega) with rfl | rfl
    · exact cell_of_row _ _ 0 _ _ _ r2
    · exact cell_of_row _ _ 1 _ _ _ r2) (fun x hx => by
    simp at hx
    have hmm := HM.out
    rcases hx with rfl | rfl
    · exact ⟨hmm.s0, hmm.s1⟩
    · exact ⟨hmm.l0, hmm.l1⟩) ⟨by omega, by omega, by omega⟩ (fun k e => by have := hv1 k e; omega) (by simp) (by simp) (fun i h1 h2 => by
    rcases (show i = 3 ∨ i = 4 by simp at h2; omega) with rfl | rfl <;> exact ⟨0, rfl⟩)
  have HV1 : Hid _ := hv1
  have HX2 : Hid (Kept w W2 (· = g) ∧ W2.heap[w.heap.size]? = some (.cells Z.toArray 27 (0, 0))) := ⟨((Below.kept HX.out.1).trans' hk1 (fun k hk e => by omega) (fun k hk e => by rcases e with e | e; exact e; omega)).trans' (Below.kept hb2) (fun k _ e => e) (fun k hk e => by omega), (Below.kept hb2).heap r01 (fun e => by omega)⟩
  have HE2 : Hid _ := eW2
  clear hR1 hs1 hq1 hk1 e1 r01 hb2 r2 hv1 hR2 hby2 eW2
  go_wp2_with fail
  rw [← HE2.out]
  refine Calls.mono HP2.out ?_
  rintro e w2 ⟨rfl, hg2⟩
  obtain ⟨⟨v2, hR3, hs2⟩, hq2, hk2⟩ := hg2
  have e2 : cellsK [.int .u32 boot, .int .u32 acc, .int .u32 cur, .int .i64 0, .int .i64 0] 3 ([snap, log].map (Value.int .i64)) 2 = [.int .u32 boot, .int .u32 acc, .int .u32 cur, .int .i64 snap, .int .i64 log] := rfl
  rw [show [snap, log].length = 2 from rfl, e2] at hq2
  have r02 : w2.heap[w.heap.size]? = some (.cells Z.toArray 27 (0, 0)) := hk2.heap HX2.out.2 (fun e => by omega)
  rw [HZ.out] at r02
  have q0 := cell_of_row w2 _ 0 _ _ _ hq2
  have q1 := cell_of_row w2 _ 1 _ _ _ hq2
  have q2 := cell_of_row w2 _ 2 _ _ _ hq2
  have q3 := cell_of_row w2 _ 3 _ _ _ hq2
  have q4 := cell_of_row w2 _ 4 _ _ _ hq2
  have z0 := cell_of_row w2 _ 0 _ _ _ r02
  have z1 := cell_of_row w2 _ 1 _ _ _ r02
  have z2 := cell_of_row w2 _ 2 _ _ _ r02
  have z3 := cell_of_row w2 _ 3 _ _ _ r02
  have z4 := cell_of_row w2 _ 4 _ _ _ r02
  simp only [List.getElem?_toArray, List.getElem?_cons_zero, List.getElem?_cons_succ] at q0 q1 q2 q3 q4 z0 z1 z2 z3 z4
  have f0 := frozen_of_row w2 w.heap.size 0 _ _ r02
  have f1 := frozen_of_row w2 w.heap.size 1 _ _ r02
  have f2 := frozen_of_row w2 w.heap.size 2 _ _ r02
  have f3 := frozen_of_row w2 w.heap.size 3 _ _ r02
  have f4 := frozen_of_row w2 w.heap.size 4 _ _ r02
  have hlq := lt_of_block hq2
  have hlz := lt_of_block r02
  have HF : Hid ((∃ v', IsR w2 g v' [] 0 ∧ ∀ k, v'.ownBlock = some k → k < w.heap.size) ∧ Kept w w2 (· = g) ∧ w2.heap[w.heap.size]? = some (.cells #[.int .u32 0, .int .u32 0, .int .u32 0, .int .i64 0, .int .i64 0] 27 (0, 0))) := by
    refine ⟨⟨v2, hR3, fun k e => ?_⟩, HX2.out.1.trans' hk2 (fun k _ e => e) (fun k hk e => by rcases e with e | e; exact e; omega), r02⟩
    exact HV1.out k (hs2 k e)
  clear hR3 hs2 hq2 hk2 r02 HP HP2
  go_wp2_with fail
  obtain ⟨⟨v', hR, hvl⟩, hK, hrow⟩ := HF.out
  refine bodyPost_ret (v := MaD.val ⟨boot, acc, cur, snap, log⟩) (results_cell_row Tryz.results19 _ _ w.heap.size _ _ _ _ rfl (row5 hrow _ _ _ _ _) Tryz.underlying27 rfl man_size) rfl ⟨rfl, ⟨v', ?_, hvl⟩, ?_⟩
  · exact hR.kept (kept5 w2 w.heap.size _ _ _ _ _) (fun e => by omega) (fun k e e' => by have := hvl k e; omega)
  · exact hK.trans' (kept5 w2 w.heap.size _ _ _ _ _) (fun k _ e => e) (fun k hk e => by omega)
end Go.Proofs.YtjdigknhiopdeaaGreat
