/- txn.cloneRequest: every request, the same in blocks of its own. -/
import Derived.Test.YtgjjcmhlmdfccaaGreatDoorClBJ
import Derived.Deep.CutRange
import Derived.Deep.MidRow
namespace Go.Proofs.YtgjjcmhlmdfccaaGreatDoor
open Go.RowKit
set_option maxRecDepth 8000
set_option linter.unusedSimpArgs false

/-- A step that made new memory and set a cell of the box. -/
theorem cl_kept {w W W1 : World} (b : Below W.heap.size W W1) (i : Nat) (x : Value) : Kept W (W1.setCell ⟨w.heap.size, i, none⟩ x) (fun k => k = w.heap.size) :=
  (Below.kept b).transC (Kept.setCell (Kept.refl W1 (fun k => k = w.heap.size)) ⟨w.heap.size, i, none⟩ x (fun _ => rfl)) (fun k hk e => by omega) (fun _ _ e => e)

theorem en_one (acl : List EnD) : (∀ c ∈ acl.map EnD.cells, c.length = 3) ∧ ∀ c ∈ acl.map EnD.cells, ∀ u ∈ c, u.oneCell' = true := by
  refine ⟨fun c hc => ?_, fun c hc u hu => ?_⟩
  · obtain ⟨x, _, rfl⟩ := List.mem_map.1 hc; rfl
  · obtain ⟨x, _, rfl⟩ := List.mem_map.1 hc
    simp only [EnD.cells, List.mem_cons, List.not_mem_nil, or_false] at hu
    rcases hu with rfl | rfl | rfl <;> rfl
theorem id_one (who : List IdD) : (∀ c ∈ who.map IdD.cells, c.length = 2) ∧ ∀ c ∈ who.map IdD.cells, ∀ u ∈ c, u.oneCell' = true := by
  refine ⟨fun c hc => ?_, fun c hc u hu => ?_⟩
  · obtain ⟨x, _, rfl⟩ := List.mem_map.1 hc; rfl
  · obtain ⟨x, _, rfl⟩ := List.mem_map.1 hc
    simp only [IdD.cells, List.mem_cons, List.not_mem_nil, or_false] at hu
    rcases hu with rfl | rfl <;> rfl
theorem rq_one {w : World} {n : Nat} {ops : Fin n → Rq} {oc : Fin n → List Value} (h : ∀ i, SeesRq w (oc i) (ops i)) : (∀ c ∈ List.ofFn oc, c.length = 11) ∧ ∀ c ∈ List.ofFn oc, ∀ u ∈ c, u.oneCell' = true := by
  refine ⟨fun c hc => ?_, fun c hc u hu => ?_⟩
  · obtain ⟨i, rfl⟩ := List.mem_ofFn.1 hc; exact (h i).len
  · obtain ⟨i, rfl⟩ := List.mem_ofFn.1 hc
    obtain ⟨k, s, da, dl, dc, aa, al, ac, v, e, q, z, t, wa, wl, wc, oa, ol, ob, e1⟩ := rq_forms (h i)
    rw [e1] at hu
    simp only [List.mem_cons, List.not_mem_nil, or_false] at hu
    rcases hu with rfl | rfl | rfl | rfl | rfl | rfl | rfl | rfl | rfl | rfl | rfl <;> rfl

theorem clFlat_nth (z : Nat) : ∀ (cs : List (List Value)), (∀ c ∈ cs, c.length = z) → ∀ (i j : Nat) (hi : i < cs.length), j < z → cs.flatten[i * z + j]? = some (cs[i].getD j (.bool false))
  | [], _, i, j, hi, _ => by simp at hi
  | c :: cs, hz, 0, j, _, hj => by
    have hc := hz c (by simp)
    rw [List.flatten_cons, Nat.zero_mul, Nat.zero_add, List.getElem?_append_left (by omega), List.getElem?_eq_getElem (by omega)]
    simp [List.getD_eq_getElem?_getD, hc, hj]
  | c :: cs, hz, i + 1, j, hi, hj => by
    have hc := hz c (by simp)
    have e : (i + 1) * z + j - c.length = i * z + j := by rw [Nat.add_mul, Nat.one_mul, hc]; omega
    rw [List.flatten_cons, List.getElem?_append_right (by rw [Nat.add_mul, Nat.one_mul, hc]; omega), e]
    exact clFlat_nth z cs (fun c hc => hz c (by simp [hc])) i j (by simpa using hi) hj

/-- The cells that a round reads. -/
abbrev ClM (w : World) (g n o2 b : Nat) (X0 X1 X2 X3 X4 X5 X6 X7 X8 X9 X10 : Value) (w' : World) : Prop := w'.cell? ⟨b, 0, none⟩ = some X0 ∧ w'.cell? ⟨b, 1, none⟩ = some X1 ∧ w'.cell? ⟨b, 2, none⟩ = some X2 ∧ w'.cell? ⟨b, 3, none⟩ = some X3 ∧ w'.cell? ⟨b, 4, none⟩ = some X4 ∧ w'.cell? ⟨b, 5, none⟩ = some X5 ∧ w'.cell? ⟨b, 6, none⟩ = some X6 ∧ w'.cell? ⟨b, 7, none⟩ = some X7 ∧ w'.cell? ⟨b, 8, none⟩ = some X8 ∧ w'.cell? ⟨b, 9, none⟩ = some X9 ∧ w'.cell? ⟨b, 10, none⟩ = some X10 ∧ w'.cell? ⟨w.heap.size, 10, none⟩ = some (.slice (some ⟨g, 0, none⟩) n o2)

theorem clM_of {w W : World} {g n o2 b : Nat} {X0 X1 X2 X3 X4 X5 X6 X7 X8 X9 X10 : Value} {Z0 Z1 Z2 Z3 Z4 Z5 Z6 Z7 Z8 Z9 : Value} (h : W.heap[b]? = some (.cells #[X0, X1, X2, X3, X4, X5, X6, X7, X8, X9, X10] 35 (0, 0))) (h2 : W.heap[w.heap.size]? = some (.cells [Z0, Z1, Z2, Z3, Z4, Z5, Z6, Z7, Z8, Z9, .slice (some ⟨g, 0, none⟩) n o2].toArray 35 (0, 0))) : ClM w g n o2 b X0 X1 X2 X3 X4 X5 X6 X7 X8 X9 X10 W :=
  ⟨by rw [cell_of_row _ _ _ _ _ _ h]; rfl, by rw [cell_of_row _ _ _ _ _ _ h]; rfl, by rw [cell_of_row _ _ _ _ _ _ h]; rfl, by rw [cell_of_row _ _ _ _ _ _ h]; rfl, by rw [cell_of_row _ _ _ _ _ _ h]; rfl, by rw [cell_of_row _ _ _ _ _ _ h]; rfl, by rw [cell_of_row _ _ _ _ _ _ h]; rfl, by rw [cell_of_row _ _ _ _ _ _ h]; rfl, by rw [cell_of_row _ _ _ _ _ _ h]; rfl, by rw [cell_of_row _ _ _ _ _ _ h]; rfl, by rw [cell_of_row _ _ _ _ _ _ h]; rfl, by rw [cell_of_row _ _ _ _ _ _ h2]; rfl⟩

theorem clI_sees {w W4 wr : World} {g c n : Nat} {ops : Fin n → Rq} {oc : Fin n → List Value} {bx : List Value} (h : ClI w W4 wr g c n ops oc bx n) (hc : n ≤ c ∧ c ≤ 9223372036854775807) : ∃ oc' : Fin n → List Value, SeesR wr (.slice (some ⟨g, 0, none⟩) n c) 11 (List.ofFn oc') ∧ ∀ i, RqIn wr (fun q => W4.heap.size ≤ q ∧ q < wr.heap.size) (oc' i) (ops i) := by
  obtain ⟨hS, hK, fl, E, h1, h2, h3, h4⟩ := h
  refine ⟨fun i => E i.1, ⟨_, c, by rw [List.length_ofFn], by rw [List.length_ofFn]; exact hc.1, by unfold maxLen; exact hc.2, (fun e => by cases e), .inr ⟨g, 0, rfl, fun i hi j hj => ?_⟩⟩, fun i => h3 i.1 i.2 i.2⟩
  rw [List.length_ofFn] at hi
  have hfl : fl.length = n * 11 := h1.1
  have hkn : i * 11 + 11 ≤ n * 11 := by have : (i + 1) * 11 ≤ n * 11 := Nat.mul_le_mul_right 11 hi; omega
  rw [Nat.zero_add, h1.cellAt _ (by omega), h2 i hi j hj]
  simp

set_option maxHeartbeats 4000000 in
theorem cloneRq_any (r : Rq) : ∀ (cs : List Value) (w : World), SeesRq w cs r → r.parts ≤ 20000 →
    Calls Tryz.prog 31 #[.agg cs.toArray] w fun e w' => ∃ ds, e = .returned (.agg ds.toArray) ∧ RqIn w' (fun k => w.heap.size ≤ k ∧ k < w'.heap.size) ds r ∧ Below w.heap.size w w' := by
  induction r with
  | mk f n ops ih =>
    intro cs w hcs hp
    obtain ⟨dv, av, wv, ov, oc, rfl, hd, ha, hw, ho, hs⟩ := rq_inv hcs
    rw [Rq.parts_eq] at hp
    have hpn := partsTo_le ops n (Nat.le_refl _)
    have hfp : f.parts = 1 + f.data.length + f.acl.length + f.who.length := rfl
    have hpi : ∀ i : Fin n, (ops i).parts ≤ 20000 := fun i => by have := part_le ops i; omega
    obtain ⟨kind, path, data, acl, ver, eph, seq, ses, tmo, who⟩ := f
    simp only at hd ha hw hfp
    have HD : Hid (∀ W : World, Below w.heap.size w W → Calls Tryz.prog 41 #[dv] W fun e w' => ∃ v', e = .returned v' ∧ Owns w' W.heap.size v' data ∧ Below W.heap.size W w') := fun W hW => copiedB_any dv data W (hd.below hW (Nat.le_refl _)) (by omega)
    have HA : Hid (∀ W : World, Below w.heap.size w W → Calls Tryz.prog 42 #[av] W fun e w' => ∃ v', e = .returned v' ∧ w'.ownsRow W.heap.size 104 3 v' (acl.map EnD.cells).length (acl.map EnD.cells).flatten ∧ Below W.heap.size W w') := fun W hW => copiedEn_any av _ W (ha.below hW (Nat.le_refl _)) (en_one acl).1 (en_one acl).2 (by rw [List.length_map]; omega)
    have HW : Hid (∀ W : World, Below w.heap.size w W → Calls Tryz.prog 43 #[wv] W fun e w' => ∃ v', e = .returned v' ∧ w'.ownsRow W.heap.size 102 2 v' (who.map IdD.cells).length (who.map IdD.cells).flatten ∧ Below W.heap.size W w') := fun W hW => copiedId_any wv _ W (hw.below hW (Nat.le_refl _)) (id_one who).1 (id_one who).2 (by rw [List.length_map]; omega)
    have HO : Hid (∀ W : World, Below w.heap.size w W → Calls Tryz.prog 44 #[ov] W fun e w' => ∃ v', e = .returned v' ∧ w'.ownsRow W.heap.size 35 11 v' (List.ofFn oc).length (List.ofFn oc).flatten ∧ Below W.heap.size W w') := fun W hW => copiedRq_any ov _ W (ho.below hW (Nat.le_refl _)) (rq_one hs).1 (rq_one hs).2 (by rw [List.length_ofFn]; omega)
    obtain ⟨da, dl, dc, rfl⟩ := sees_form hd
    obtain ⟨aa, al, ac, rfl⟩ := seesR_form ha
    obtain ⟨wa, wl, wc', rfl⟩ := seesR_form hw
    obtain ⟨oa, occ, e3⟩ := seesR_shape ho
    rw [List.length_ofFn] at e3
    subst e3
    have hn : n ≤ 20000 := by omega
    have HI : Hid (∀ (i : Fin n) (W : World), Below w.heap.size w W → Calls Tryz.prog 31 #[.agg (oc i).toArray] W fun e w' => ∃ ds, e = .returned (.agg ds.toArray) ∧ RqIn w' (fun k => W.heap.size ≤ k ∧ k < w'.heap.size) ds (ops i) ∧ Below W.heap.size W w') := fun i W hW =>
      ih i (oc i) W ((hs i).later hW (Nat.le_refl _)) (hpi i)
    have HS : Hid (∀ i, SeesRq w (oc i) (ops i)) := hs
    clear hd ha hw hcs ho ih hs hp hpn hfp hpi
    simp only [rqCells]
    obtain ⟨V, eV⟩ : ∃ V, V = (w.alloc (.cells ([.int .i8 kind, .string path, .slice da dl dc, .slice aa al ac, .int .i32 ver, .bool eph, .bool seq, .int .i64 ses, .int .i32 tmo, .slice wa wl wc', .slice oa n occ]).toArray 35)).alloc (.cells rqZ 35) := ⟨_, rfl⟩
    have HV : Hid (ClS w V [.int .i8 kind, .string path, .slice da dl dc, .slice aa al ac, .int .i32 ver, .bool eph, .bool seq, .int .i64 ses, .int .i32 tmo, .slice wa wl wc', .slice oa n occ]) := by
      subst eV
      refine ⟨two_alloc _ _ _, ?_, ?_⟩
      · rw [Below.heap_alloc _ _ _ (by simp)]; exact heap_alloc_new _ _
      · have := heap_alloc_new (w.alloc (.cells ([.int .i8 kind, .string path, .slice da dl dc, .slice aa al ac, .int .i32 ver, .bool eph, .bool seq, .int .i64 ses, .int .i32 tmo, .slice wa wl wc', .slice oa n occ]).toArray 35)) (.cells rqZ 35)
        simpa using this
    have HE : Hid _ := eV
    clear eV
    go_enter Tryz.func31, Tryz.ntmps31
    go_upto_region 1 with fail
    rw [← HE.out]
    clear HE
    have r0 := HV.out.box
    have c0 := cell_of_row V _ 2 _ _ _ r0
    simp only [List.getElem?_toArray, List.getElem?_cons_zero, List.getElem?_cons_succ] at c0
    have l0 := lt_of_block r0
    clear r0
    go_wp2_with fail
    clear c0 l0
    refine (HD.out _ HV.out.bel).mono ?_
    rintro e w1 ⟨v1, rfl, ho, b1⟩
    obtain ⟨d0, d1, d2, rfl⟩ := owns_shape ho
    have hcl := HV.out.later b1
    obtain ⟨W1, hW1⟩ : ∃ W, W = w1.setCell ⟨w.heap.size, 2, none⟩ (.slice d0 d1 d2) := ⟨_, rfl⟩
    have hk := cl_kept (w := w) b1 2 (.slice d0 d1 d2)
    rw [← hW1] at hk
    have hsz := hk.size
    have hk1 : Kept w1 W1 (fun k => k = w.heap.size) := by rw [hW1]; exact Kept.setCell (Kept.refl _ _) ⟨w.heap.size, 2, none⟩ _ (fun _ => rfl)
    have hsz1 := hk1.size
    have hls := (HV.out).lt
    have H1 : Hid (ClS w W1 [.int .i8 kind, .string path, .slice d0 d1 d2, .slice aa al ac, .int .i32 ver, .bool eph, .bool seq, .int .i64 ses, .int .i32 tmo, .slice wa wl wc', .slice oa n occ] ∧ (Sees W1 (.slice d0 d1 d2) data ∧ (∀ k, (Value.slice d0 d1 d2).ownBlock = some k → w.heap.size + 2 ≤ k ∧ k < W1.heap.size))) := ⟨by rw [hW1]; exact hcl.set 2 (.slice d0 d1 d2), ⟨(Sees.own ho).kept hk1 (fun q e e' => by have := (ho.lt q e).1; omega), fun q e => by have := ho.lt q e; omega⟩⟩
    have c1 := cell_of_row w1 _ 2 _ _ _ hcl.box
    simp only [List.getElem?_toArray, List.getElem?_cons_zero, List.getElem?_cons_succ] at c1
    have f1 := frozen_of_row w1 w.heap.size 2 _ _ hcl.box
    have l1 := lt_of_block hcl.box
    have HA1 : Hid _ := hW1
    clear ho b1 hcl hk hk1 hW1 hsz hsz1 hls HD HV
    go_upto_region 2 with fail
    rw [← HA1.out]
    clear HA1 c1 f1 l1
    have r0 := H1.out.1.box
    have c0 := cell_of_row W1 _ 3 _ _ _ r0
    simp only [List.getElem?_toArray, List.getElem?_cons_zero, List.getElem?_cons_succ] at c0
    have l0 := lt_of_block r0
    clear r0
    go_wp2_with fail
    clear c0 l0
    refine (HA.out _ H1.out.1.bel).mono ?_
    rintro e w2 ⟨v2, rfl, ho, b2⟩
    obtain ⟨a0, a1, a2, rfl⟩ := row_shape ho
    have hcl := H1.out.1.later b2
    obtain ⟨W2, hW2⟩ : ∃ W, W = w2.setCell ⟨w.heap.size, 3, none⟩ (.slice a0 a1 a2) := ⟨_, rfl⟩
    have hk := cl_kept (w := w) b2 3 (.slice a0 a1 a2)
    rw [← hW2] at hk
    have hsz := hk.size
    have hk1 : Kept w2 W2 (fun k => k = w.heap.size) := by rw [hW2]; exact Kept.setCell (Kept.refl _ _) ⟨w.heap.size, 3, none⟩ _ (fun _ => rfl)
    have hsz1 := hk1.size
    have hls := (H1.out.1).lt
    have H2 : Hid (ClS w W2 [.int .i8 kind, .string path, .slice d0 d1 d2, .slice a0 a1 a2, .int .i32 ver, .bool eph, .bool seq, .int .i64 ses, .int .i32 tmo, .slice wa wl wc', .slice oa n occ] ∧ (Sees W2 (.slice d0 d1 d2) data ∧ (∀ k, (Value.slice d0 d1 d2).ownBlock = some k → w.heap.size + 2 ≤ k ∧ k < W2.heap.size)) ∧ (SeesR W2 (.slice a0 a1 a2) 3 (acl.map EnD.cells) ∧ (∀ k, (Value.slice a0 a1 a2).ownBlock = some k → w.heap.size + 2 ≤ k ∧ k < W2.heap.size))) := ⟨by rw [hW2]; exact hcl.set 3 (.slice a0 a1 a2), ⟨H1.out.2.1.kept hk (fun q e e' => by have := (H1.out.2.2 q e).1; omega), fun q e => by have := H1.out.2.2 q e; omega⟩, ⟨(seesR_own ho (en_one acl).1).kept hk1 (fun q e e' => by have := (ho.lt q e).1; omega), fun q e => by have := ho.lt q e; omega⟩⟩
    have c1 := cell_of_row w2 _ 3 _ _ _ hcl.box
    simp only [List.getElem?_toArray, List.getElem?_cons_zero, List.getElem?_cons_succ] at c1
    have f1 := frozen_of_row w2 w.heap.size 3 _ _ hcl.box
    have l1 := lt_of_block hcl.box
    have HA2 : Hid _ := hW2
    clear ho b2 hcl hk hk1 hW2 hsz hsz1 hls HA H1
    go_upto_region 3 with fail
    rw [← HA2.out]
    clear HA2 c1 f1 l1
    have r0 := H2.out.1.box
    have c0 := cell_of_row W2 _ 9 _ _ _ r0
    simp only [List.getElem?_toArray, List.getElem?_cons_zero, List.getElem?_cons_succ] at c0
    have l0 := lt_of_block r0
    clear r0
    go_wp2_with fail
    clear c0 l0
    refine (HW.out _ H2.out.1.bel).mono ?_
    rintro e w3 ⟨v3, rfl, ho, b3⟩
    obtain ⟨e0, e1, e2, rfl⟩ := row_shape ho
    have hcl := H2.out.1.later b3
    obtain ⟨W3, hW3⟩ : ∃ W, W = w3.setCell ⟨w.heap.size, 9, none⟩ (.slice e0 e1 e2) := ⟨_, rfl⟩
    have hk := cl_kept (w := w) b3 9 (.slice e0 e1 e2)
    rw [← hW3] at hk
    have hsz := hk.size
    have hk1 : Kept w3 W3 (fun k => k = w.heap.size) := by rw [hW3]; exact Kept.setCell (Kept.refl _ _) ⟨w.heap.size, 9, none⟩ _ (fun _ => rfl)
    have hsz1 := hk1.size
    have hls := (H2.out.1).lt
    have H3 : Hid (ClS w W3 [.int .i8 kind, .string path, .slice d0 d1 d2, .slice a0 a1 a2, .int .i32 ver, .bool eph, .bool seq, .int .i64 ses, .int .i32 tmo, .slice e0 e1 e2, .slice oa n occ] ∧ (Sees W3 (.slice d0 d1 d2) data ∧ (∀ k, (Value.slice d0 d1 d2).ownBlock = some k → w.heap.size + 2 ≤ k ∧ k < W3.heap.size)) ∧ (SeesR W3 (.slice a0 a1 a2) 3 (acl.map EnD.cells) ∧ (∀ k, (Value.slice a0 a1 a2).ownBlock = some k → w.heap.size + 2 ≤ k ∧ k < W3.heap.size)) ∧ (SeesR W3 (.slice e0 e1 e2) 2 (who.map IdD.cells) ∧ (∀ k, (Value.slice e0 e1 e2).ownBlock = some k → w.heap.size + 2 ≤ k ∧ k < W3.heap.size))) := ⟨by rw [hW3]; exact hcl.set 9 (.slice e0 e1 e2), ⟨H2.out.2.1.1.kept hk (fun q e e' => by have := (H2.out.2.1.2 q e).1; omega), fun q e => by have := H2.out.2.1.2 q e; omega⟩, ⟨H2.out.2.2.1.kept hk (fun q e e' => by have := (H2.out.2.2.2 q e).1; omega), fun q e => by have := H2.out.2.2.2 q e; omega⟩, ⟨(seesR_own ho (id_one who).1).kept hk1 (fun q e e' => by have := (ho.lt q e).1; omega), fun q e => by have := ho.lt q e; omega⟩⟩
    have c1 := cell_of_row w3 _ 9 _ _ _ hcl.box
    simp only [List.getElem?_toArray, List.getElem?_cons_zero, List.getElem?_cons_succ] at c1
    have f1 := frozen_of_row w3 w.heap.size 9 _ _ hcl.box
    have l1 := lt_of_block hcl.box
    have HA3 : Hid _ := hW3
    clear ho b3 hcl hk hk1 hW3 hsz hsz1 hls HW H2
    go_upto_region 4 with fail
    rw [← HA3.out]
    clear HA3 c1 f1 l1
    have r0 := H3.out.1.box
    have c0 := cell_of_row W3 _ 10 _ _ _ r0
    simp only [List.getElem?_toArray, List.getElem?_cons_zero, List.getElem?_cons_succ] at c0
    have l0 := lt_of_block r0
    clear r0
    go_wp2_with fail
    clear c0 l0
    refine (HO.out _ H3.out.1.bel).mono ?_
    rintro e w4 ⟨v4, rfl, ho, b4⟩
    rw [List.length_ofFn] at ho
    obtain ⟨o0, o2, ho2⟩ : ∃ a c, v4 = .slice a n c := by
      rcases ho.2 with ⟨e, e'⟩ | ⟨g, c, cur, e, _⟩
      · exact ⟨none, 0, by rw [e, e']⟩
      · exact ⟨_, c, e⟩
    subst ho2
    have hcl := H3.out.1.later b4
    obtain ⟨W4, hW4⟩ : ∃ W, W = w4.setCell ⟨w.heap.size, 10, none⟩ (.slice o0 n o2) := ⟨_, rfl⟩
    have hk := cl_kept (w := w) b4 10 (.slice o0 n o2)
    rw [← hW4] at hk
    have hsz := hk.size
    have hk1 : Kept w4 W4 (fun k => k = w.heap.size) := by rw [hW4]; exact Kept.setCell (Kept.refl _ _) ⟨w.heap.size, 10, none⟩ _ (fun _ => rfl)
    have hsz1 := hk1.size
    have hls := (H3.out.1).lt
    have H34 : Hid (W3.heap.size ≤ W4.heap.size) := hsz
    have H3L : Hid (w.heap.size + 2 ≤ W3.heap.size) := hls
    have H4 : Hid (ClS w W4 [.int .i8 kind, .string path, .slice d0 d1 d2, .slice a0 a1 a2, .int .i32 ver, .bool eph, .bool seq, .int .i64 ses, .int .i32 tmo, .slice e0 e1 e2, .slice o0 n o2] ∧ (Sees W4 (.slice d0 d1 d2) data ∧ (∀ k, (Value.slice d0 d1 d2).ownBlock = some k → w.heap.size + 2 ≤ k ∧ k < W3.heap.size)) ∧ (SeesR W4 (.slice a0 a1 a2) 3 (acl.map EnD.cells) ∧ (∀ k, (Value.slice a0 a1 a2).ownBlock = some k → w.heap.size + 2 ≤ k ∧ k < W3.heap.size)) ∧ (SeesR W4 (.slice e0 e1 e2) 2 (who.map IdD.cells) ∧ (∀ k, (Value.slice e0 e1 e2).ownBlock = some k → w.heap.size + 2 ≤ k ∧ k < W3.heap.size)) ∧ (W4.ownsRow W3.heap.size 35 11 (.slice o0 n o2) n (List.ofFn oc).flatten)) := ⟨by rw [hW4]; exact hcl.set 10 (.slice o0 n o2), ⟨H3.out.2.1.1.kept hk (fun q e e' => by have := (H3.out.2.1.2 q e).1; omega), H3.out.2.1.2⟩, ⟨H3.out.2.2.1.1.kept hk (fun q e e' => by have := (H3.out.2.2.1.2 q e).1; omega), H3.out.2.2.1.2⟩, ⟨H3.out.2.2.2.1.kept hk (fun q e e' => by have := (H3.out.2.2.2.2 q e).1; omega), H3.out.2.2.2.2⟩, ownsRow_kept ho hk1 (fun q e e' => by have := (ho.lt q e).1; omega)⟩
    have c1 := cell_of_row w4 _ 10 _ _ _ hcl.box
    simp only [List.getElem?_toArray, List.getElem?_cons_zero, List.getElem?_cons_succ] at c1
    have f1 := frozen_of_row w4 w.heap.size 10 _ _ hcl.box
    have l1 := lt_of_block hcl.box
    have HA4 : Hid _ := hW4
    clear ho b4 hcl hk hk1 hW4 hsz hsz1 hls HO H3
    go_upto_region 5 with fail
    rw [← HA4.out]
    clear HA4 c1 f1 l1
    obtain ⟨g, hg, hg0⟩ : ∃ g : Nat, (0 < n → o0 = some ⟨g, 0, none⟩ ∧ W3.heap.size ≤ g ∧ g < W4.heap.size) ∧ (n = 0 → g = W4.heap.size) := by
      by_cases h0 : n = 0
      · exact ⟨W4.heap.size, fun e => by omega, fun _ => rfl⟩
      · rcases H4.out.2.2.2.2.2 with ⟨_, e'⟩ | ⟨g, c, cur, e, e1, e2⟩
        · exact absurd e' h0
        · simp at e
          obtain ⟨rfl, rfl⟩ := e
          exact ⟨g, fun _ => ⟨rfl, e1, (H4.out.2.2.2.2.lt g rfl).2⟩, fun e => absurd e h0⟩
    have HG : Hid ((0 < n → o0 = some ⟨g, 0, none⟩ ∧ W3.heap.size ≤ g ∧ g < W4.heap.size) ∧ (n = 0 → g = W4.heap.size)) := ⟨hg, hg0⟩
    have hoc : n ≤ o2 ∧ o2 ≤ 9223372036854775807 := by
      rcases H4.out.2.2.2.2.2 with ⟨e, e'⟩ | ⟨g, c, cur, e, _, _, e2, e3, _⟩
      · simp at e
        omega
      · simp at e
        obtain ⟨_, rfl⟩ := e
        unfold maxLen at e3
        exact ⟨e2, e3⟩
    obtain ⟨hoc1, hoc2⟩ := hoc
    have H3s : Hid (w.heap.size + 2 ≤ W3.heap.size) := H3L.out
    have HI0 : Hid (ClS w W4 [.int .i8 kind, .string path, .slice d0 d1 d2, .slice a0 a1 a2, .int .i32 ver, .bool eph, .bool seq, .int .i64 ses, .int .i32 tmo, .slice e0 e1 e2, .slice o0 n o2] ∧ Kept W4 W4 (fun j => j = g ∨ W4.heap.size ≤ j) ∧ (0 < n → ClI w W4 W4 g o2 n ops oc [.int .i8 kind, .string path, .slice d0 d1 d2, .slice a0 a1 a2, .int .i32 ver, .bool eph, .bool seq, .int .i64 ses, .int .i32 tmo, .slice e0 e1 e2, .slice o0 n o2] 0)) := by
      obtain ⟨E0, hE0⟩ : ∃ E0 : Nat → List Value, ∀ i (hi : i < n), E0 i = oc ⟨i, hi⟩ := ⟨fun i => if h : i < n then oc ⟨i, h⟩ else [], fun i hi => dif_pos hi⟩
      refine ⟨H4.out.1, Kept.refl _ _, fun h0 => ⟨H4.out.1, Kept.refl _ _, (List.ofFn oc).flatten, E0, ?_, fun i hi j hj => ?_, fun i hi hk => by omega, fun i hi _ => hE0 i hi⟩⟩
      · have := H4.out.2.2.2.2
        rw [(hg h0).1] at this
        exact ⟨this.1, by
          rcases this.2 with e | ⟨g', c, cur, e, _, e2⟩
          · exact .inl e
          · exact .inr ⟨g', c, cur, e, Nat.zero_le _, e2⟩⟩
      · rw [hE0 i hi]
        have hfl := clFlat_nth 11 (List.ofFn oc) (rq_one HS.out).1 i j (by rw [List.length_ofFn]; exact hi) hj
        rw [hfl]
        simp
    clear hg hg0
    have r0 := H4.out.1.box
    have c0 := cell_of_row W4 _ 10 _ _ _ r0
    simp only [List.getElem?_toArray, List.getElem?_cons_zero, List.getElem?_cons_succ] at c0
    have l0 := lt_of_block r0
    clear r0
    go_wp2_with fail
    clear c0 l0
    go_loopw [24] (fun i wr => ∃ k : Nat, k ≤ n ∧ i = .int .i64 k ∧ Hid (ClS w wr [.int .i8 kind, .string path, .slice d0 d1 d2, .slice a0 a1 a2, .int .i32 ver, .bool eph, .bool seq, .int .i64 ses, .int .i32 tmo, .slice e0 e1 e2, .slice o0 n o2] ∧ Kept W4 wr (fun j => j = g ∨ W4.heap.size ≤ j) ∧ (0 < n → ClI w W4 wr g o2 n ops oc [.int .i8 kind, .string path, .slice d0 d1 d2, .slice a0 a1 a2, .int .i32 ver, .bool eph, .bool seq, .int .i64 ses, .int .i32 tmo, .slice e0 e1 e2, .slice o0 n o2] k))) (fun i _ => n - (intOf i).toNat)
    case atStart => exact ⟨0, Nat.zero_le _, rfl, HI0⟩
    case round =>
      clear HI0
      obtain ⟨k, hk, rfl, HK⟩ := hrel
      by_cases hlt : k < n
      · have h0 : 0 < n := by omega
        obtain ⟨rfl, hgb, hgl⟩ := HG.out.1 h0
        have HC := HK.out.2.2 h0
        obtain ⟨hS, hKK, fl, E, h1, h2, h3, h4⟩ := id HC
        obtain ⟨x0, x1, x2, x3, x4, x5, x6, x7, x8, x9, x10, x11, x12, x13, x14, x15, x16, x17, x18, hcs⟩ := rq_forms (HS.out ⟨k, hlt⟩)
        have hat : ∀ j, j < 11 → wr.cell? ⟨g, k * 11 + j, none⟩ = some (([.int .i8 x0, .string x1, .slice x2 x3 x4, .slice x5 x6 x7, .int .i32 x8, .bool x9, .bool x10, .int .i64 x11, .int .i32 x12, .slice x13 x14 x15, .slice x16 x17 x18]).getD j (.bool false)) := fun j hj => by
          have hfl : fl.length = n * 11 := h1.1
          have hkn : k * 11 + 11 ≤ n * 11 := by have : (k + 1) * 11 ≤ n * 11 := Nat.mul_le_mul_right 11 hlt; omega
          rw [h1.cellAt _ (by omega), h2 k hlt j hj, h4 k hlt (Nat.le_refl _), hcs]
        have g0 : wr.cell? ⟨g, k * 11, none⟩ = some (.int .i8 x0) := hat 0 (by omega)
        have g1 : wr.cell? ⟨g, k * 11 + 1, none⟩ = some (.string x1) := hat 1 (by omega)
        have g2 : wr.cell? ⟨g, k * 11 + 2, none⟩ = some (.slice x2 x3 x4) := hat 2 (by omega)
        have g3 : wr.cell? ⟨g, k * 11 + 3, none⟩ = some (.slice x5 x6 x7) := hat 3 (by omega)
        have g4 : wr.cell? ⟨g, k * 11 + 4, none⟩ = some (.int .i32 x8) := hat 4 (by omega)
        have g5 : wr.cell? ⟨g, k * 11 + 5, none⟩ = some (.bool x9) := hat 5 (by omega)
        have g6 : wr.cell? ⟨g, k * 11 + 6, none⟩ = some (.bool x10) := hat 6 (by omega)
        have g7 : wr.cell? ⟨g, k * 11 + 7, none⟩ = some (.int .i64 x11) := hat 7 (by omega)
        have g8 : wr.cell? ⟨g, k * 11 + 8, none⟩ = some (.int .i32 x12) := hat 8 (by omega)
        have g9 : wr.cell? ⟨g, k * 11 + 9, none⟩ = some (.slice x13 x14 x15) := hat 9 (by omega)
        have g10 : wr.cell? ⟨g, k * 11 + 10, none⟩ = some (.slice x16 x17 x18) := hat 10 (by omega)
        have hlr : w.heap.size < wr.heap.size ∧ g < wr.heap.size := ⟨by have := hS.lt; omega, by have := hKK.size; omega⟩
        obtain ⟨hlr1, hlr2⟩ := hlr
        obtain ⟨Wb, hWb⟩ : ∃ Wb, Wb = wr.alloc (.cells #[.int .i8 x0, .string x1, .slice x2 x3 x4, .slice x5 x6 x7, .int .i32 x8, .bool x9, .bool x10, .int .i64 x11, .int .i32 x12, .slice x13 x14 x15, .slice x16 x17 x18] 35) := ⟨_, rfl⟩
        have hbb : Below wr.heap.size wr Wb := by rw [hWb]; exact (Below.refl _ _).alloc (Nat.le_refl _) _
        have hrb : Wb.heap[wr.heap.size]? = some (.cells #[.int .i8 x0, .string x1, .slice x2 x3 x4, .slice x5 x6 x7, .int .i32 x8, .bool x9, .bool x10, .int .i64 x11, .int .i32 x12, .slice x13 x14 x15, .slice x16 x17 x18] 35 (0, 0)) := by rw [hWb]; exact heap_alloc_new wr _
        have hsb : Wb.heap.size = wr.heap.size + 1 := by rw [hWb]; simp
        have hSb := hS.later hbb
        have HCR := HI.out ⟨k, hlt⟩ Wb.drew (below_drewN hSb.bel 1)
        rw [hcs] at HCR
        have HX : Hid (Calls Tryz.prog 31 #[.agg #[.int .i8 x0, .string x1, .slice x2 x3 x4, .slice x5 x6 x7, .int .i32 x8, .bool x9, .bool x10, .int .i64 x11, .int .i32 x12, .slice x13 x14 x15, .slice x16 x17 x18]] Wb.drew fun e w' => ∃ (y0 : Int) (y1 : ByteArray) (y2 : Option Addr) (y3 y4 : Nat) (y5 : Option Addr) (y6 y7 : Nat) (y8 : Int) (y9 y10 : Bool) (y11 y12 : Int) (y13 : Option Addr) (y14 y15 : Nat) (y16 : Option Addr) (y17 y18 : Nat), e = .returned (.agg #[.int .i8 y0, .string y1, .slice y2 y3 y4, .slice y5 y6 y7, .int .i32 y8, .bool y9, .bool y10, .int .i64 y11, .int .i32 y12, .slice y13 y14 y15, .slice y16 y17 y18]) ∧ ClM w g n o2 wr.heap.size (.int .i8 x0) (.string x1) (.slice x2 x3 x4) (.slice x5 x6 x7) (.int .i32 x8) (.bool x9) (.bool x10) (.int .i64 x11) (.int .i32 x12) (.slice x13 x14 x15) (.slice x16 x17 x18) w' ∧ ClM w g n o2 wr.heap.size (.int .i8 x0) (.string x1) (.slice x2 x3 x4) (.slice x5 x6 x7) (.int .i32 x8) (.bool x9) (.bool x10) (.int .i64 x11) (.int .i32 x12) (.slice x13 x14 x15) (.slice x16 x17 x18) (w11 w' g (k * 11) (.int .i8 y0) (.string y1) (.slice y2 y3 y4) (.slice y5 y6 y7) (.int .i32 y8) (.bool y9) (.bool y10) (.int .i64 y11) (.int .i32 y12) (.slice y13 y14 y15) (.slice y16 y17 y18)) ∧ (∃ u, w'.cell? ⟨g, k * 11, none⟩ = some u) ∧ w'.frozen? ⟨g, k * 11, none⟩ = false ∧ (∃ u, w'.cell? ⟨g, k * 11 + 1, none⟩ = some u) ∧ w'.frozen? ⟨g, k * 11 + 1, none⟩ = false ∧ (∃ u, w'.cell? ⟨g, k * 11 + 2, none⟩ = some u) ∧ w'.frozen? ⟨g, k * 11 + 2, none⟩ = false ∧ (∃ u, w'.cell? ⟨g, k * 11 + 3, none⟩ = some u) ∧ w'.frozen? ⟨g, k * 11 + 3, none⟩ = false ∧ (∃ u, w'.cell? ⟨g, k * 11 + 4, none⟩ = some u) ∧ w'.frozen? ⟨g, k * 11 + 4, none⟩ = false ∧ (∃ u, w'.cell? ⟨g, k * 11 + 5, none⟩ = some u) ∧ w'.frozen? ⟨g, k * 11 + 5, none⟩ = false ∧ (∃ u, w'.cell? ⟨g, k * 11 + 6, none⟩ = some u) ∧ w'.frozen? ⟨g, k * 11 + 6, none⟩ = false ∧ (∃ u, w'.cell? ⟨g, k * 11 + 7, none⟩ = some u) ∧ w'.frozen? ⟨g, k * 11 + 7, none⟩ = false ∧ (∃ u, w'.cell? ⟨g, k * 11 + 8, none⟩ = some u) ∧ w'.frozen? ⟨g, k * 11 + 8, none⟩ = false ∧ (∃ u, w'.cell? ⟨g, k * 11 + 9, none⟩ = some u) ∧ w'.frozen? ⟨g, k * 11 + 9, none⟩ = false ∧ (∃ u, w'.cell? ⟨g, k * 11 + 10, none⟩ = some u) ∧ w'.frozen? ⟨g, k * 11 + 10, none⟩ = false ∧ g < w'.heap.size ∧ wr.heap.size < w'.heap.size ∧ w.heap.size < w'.heap.size ∧ Hid (ClI w W4 (w11 w' g (k * 11) (.int .i8 y0) (.string y1) (.slice y2 y3 y4) (.slice y5 y6 y7) (.int .i32 y8) (.bool y9) (.bool y10) (.int .i64 y11) (.int .i32 y12) (.slice y13 y14 y15) (.slice y16 y17 y18)) g o2 n ops oc [.int .i8 kind, .string path, .slice d0 d1 d2, .slice a0 a1 a2, .int .i32 ver, .bool eph, .bool seq, .int .i64 ses, .int .i32 tmo, .slice e0 e1 e2, .slice (some ⟨g, 0, none⟩) n o2] (k + 1))) := by
          refine HCR.mono ?_
          rintro e w5 ⟨ds, rfl, hr5, b5⟩
          obtain ⟨y0, y1, y2, y3, y4, y5, y6, y7, y8, y9, y10, y11, y12, y13, y14, y15, y16, y17, y18, rfl⟩ := rq_forms hr5.sees
          have hb5 : Below Wb.heap.size Wb w5 := (below_drewN (Below.refl Wb.heap.size Wb) 1).trans b5
          have b5' : Below wr.heap.size wr w5 := hbb.trans (hb5.mono (by omega))
          have hst := HC.step hlt ⟨by have := H4.out.1.lt; have := H3s.out; omega, hgl⟩ b5' (Nat.le_refl _) (RqIn.kept (Kept.refl w5 (fun _ => False)) (fun q hq => ⟨fun e => e, (by have := hq.1; have e9 : Wb.drew.heap.size = Wb.heap.size := rfl; omega : wr.heap.size ≤ q), hq.2⟩) hr5)
          have hrow5 := (Below.kept hb5).heap hrb (fun e => by omega)
          have hS5 := hSb.later hb5
          have ho5 := ownsRow_kept h1 (Below.kept b5') (fun q hq e => by cases hq; exact absurd (show wr.heap.size ≤ g from e) (by omega))
          have hk6 := (own11C (k := k) ho5 (.int .i8 y0) (.string y1) (.slice y2 y3 y4) (.slice y5 y6 y7) (.int .i32 y8) (.bool y9) (.bool y10) (.int .i64 y11) (.int .i32 y12) (.slice y13 y14 y15) (.slice y16 y17 y18)).2
          have hs5 := hb5.size
          have hfl : fl.length = n * 11 := h1.1
          have hkn : k * 11 + 11 ≤ n * 11 := by have : (k + 1) * 11 ≤ n * 11 := Nat.mul_le_mul_right 11 hlt; omega
          refine ⟨y0, y1, y2, y3, y4, y5, y6, y7, y8, y9, y10, y11, y12, y13, y14, y15, y16, y17, y18, rfl, clM_of hrow5 hS5.box, clM_of (hk6.heap hrow5 (fun e => by omega)) (hk6.heap hS5.box (fun e => by have := H3s.out; omega)), ⟨fl[k * 11]'(by omega), by rw [ho5.cellAt _ (by omega), List.getElem?_eq_getElem (by omega)]⟩, ho5.frozenAt _, ⟨fl[k * 11 + 1]'(by omega), by rw [ho5.cellAt _ (by omega), List.getElem?_eq_getElem (by omega)]⟩, ho5.frozenAt _, ⟨fl[k * 11 + 2]'(by omega), by rw [ho5.cellAt _ (by omega), List.getElem?_eq_getElem (by omega)]⟩, ho5.frozenAt _, ⟨fl[k * 11 + 3]'(by omega), by rw [ho5.cellAt _ (by omega), List.getElem?_eq_getElem (by omega)]⟩, ho5.frozenAt _, ⟨fl[k * 11 + 4]'(by omega), by rw [ho5.cellAt _ (by omega), List.getElem?_eq_getElem (by omega)]⟩, ho5.frozenAt _, ⟨fl[k * 11 + 5]'(by omega), by rw [ho5.cellAt _ (by omega), List.getElem?_eq_getElem (by omega)]⟩, ho5.frozenAt _, ⟨fl[k * 11 + 6]'(by omega), by rw [ho5.cellAt _ (by omega), List.getElem?_eq_getElem (by omega)]⟩, ho5.frozenAt _, ⟨fl[k * 11 + 7]'(by omega), by rw [ho5.cellAt _ (by omega), List.getElem?_eq_getElem (by omega)]⟩, ho5.frozenAt _, ⟨fl[k * 11 + 8]'(by omega), by rw [ho5.cellAt _ (by omega), List.getElem?_eq_getElem (by omega)]⟩, ho5.frozenAt _, ⟨fl[k * 11 + 9]'(by omega), by rw [ho5.cellAt _ (by omega), List.getElem?_eq_getElem (by omega)]⟩, ho5.frozenAt _, ⟨fl[k * 11 + 10]'(by omega), by rw [ho5.cellAt _ (by omega), List.getElem?_eq_getElem (by omega)]⟩, ho5.frozenAt _, by omega, by omega, by omega, hst⟩
        have k0 : ClM w g n o2 wr.heap.size (.int .i8 x0) (.string x1) (.slice x2 x3 x4) (.slice x5 x6 x7) (.int .i32 x8) (.bool x9) (.bool x10) (.int .i64 x11) (.int .i32 x12) (.slice x13 x14 x15) (.slice x16 x17 x18) Wb.drew := clM_of hrb hSb.box
        have HAb : Hid _ := hWb
        clear hcs hat HCR hrb hSb hbb hWb HC hS hKK h1 h2 h3 h4 HK
        go_upto_region 8 with fail
        rw [← HAb.out]
        clear HAb g0 g1 g2 g3 g4 g5 g6 g7 g8 g9 g10
        go_region_held (fun w' => w'.cell? ⟨wr.heap.size, 0, none⟩ = some (.int .i8 x0) ∧ w'.cell? ⟨wr.heap.size, 1, none⟩ = some (.string x1) ∧ w'.cell? ⟨wr.heap.size, 2, none⟩ = some (.slice x2 x3 x4) ∧ w'.cell? ⟨wr.heap.size, 3, none⟩ = some (.slice x5 x6 x7) ∧ w'.cell? ⟨wr.heap.size, 4, none⟩ = some (.int .i32 x8) ∧ w'.cell? ⟨wr.heap.size, 5, none⟩ = some (.bool x9) ∧ w'.cell? ⟨wr.heap.size, 6, none⟩ = some (.bool x10) ∧ w'.cell? ⟨wr.heap.size, 7, none⟩ = some (.int .i64 x11) ∧ w'.cell? ⟨wr.heap.size, 8, none⟩ = some (.int .i32 x12) ∧ w'.cell? ⟨wr.heap.size, 9, none⟩ = some (.slice x13 x14 x15) ∧ w'.cell? ⟨wr.heap.size, 10, none⟩ = some (.slice x16 x17 x18) ∧ w'.cell? ⟨w.heap.size, 10, none⟩ = some (.slice (some ⟨g, 0, none⟩) n o2)) (first | (with_reducible exact k2) | (with_reducible exact k1) | (with_reducible exact k0)) (first | (go_at_call 31; refine Calls.mono HX.out ?_; rintro e w5 ⟨y0, y1, y2, y3, y4, y5, y6, y7, y8, y9, y10, y11, y12, y13, y14, y15, y16, y17, y18, rfl, k1, k2, ⟨qq0, hu0⟩, fz0, ⟨qq1, hu1⟩, fz1, ⟨qq2, hu2⟩, fz2, ⟨qq3, hu3⟩, fz3, ⟨qq4, hu4⟩, fz4, ⟨qq5, hu5⟩, fz5, ⟨qq6, hu6⟩, fz6, ⟨qq7, hu7⟩, fz7, ⟨qq8, hu8⟩, fz8, ⟨qq9, hu9⟩, fz9, ⟨qq10, hu10⟩, fz10, lg, lb, lw, HN⟩))
        go_wp2_with fail
        go_roundw
        case rel => exact ⟨k + 1, by omega, by go_num, ⟨HN.out.1, HN.out.2.1, fun _ => HN.out⟩⟩
        case measure => simp [intOf]; omega
      · obtain rfl : k = n := by omega
        have r0 := HK.out.1.box
        have r1 := HK.out.1.res
        have c0 := cell_of_row wr _ 0 _ _ _ r0
        have c1 := cell_of_row wr _ 1 _ _ _ r0
        have c2 := cell_of_row wr _ 2 _ _ _ r0
        have c3 := cell_of_row wr _ 3 _ _ _ r0
        have c4 := cell_of_row wr _ 4 _ _ _ r0
        have c5 := cell_of_row wr _ 5 _ _ _ r0
        have c6 := cell_of_row wr _ 6 _ _ _ r0
        have c7 := cell_of_row wr _ 7 _ _ _ r0
        have c8 := cell_of_row wr _ 8 _ _ _ r0
        have c9 := cell_of_row wr _ 9 _ _ _ r0
        have c10 := cell_of_row wr _ 10 _ _ _ r0
        simp only [List.getElem?_toArray, List.getElem?_cons_zero, List.getElem?_cons_succ] at c0 c1 c2 c3 c4 c5 c6 c7 c8 c9 c10
        have z0 := cell_of_row wr _ 0 _ _ _ r1
        have z1 := cell_of_row wr _ 1 _ _ _ r1
        have z2 := cell_of_row wr _ 2 _ _ _ r1
        have z3 := cell_of_row wr _ 3 _ _ _ r1
        have z4 := cell_of_row wr _ 4 _ _ _ r1
        have z5 := cell_of_row wr _ 5 _ _ _ r1
        have z6 := cell_of_row wr _ 6 _ _ _ r1
        have z7 := cell_of_row wr _ 7 _ _ _ r1
        have z8 := cell_of_row wr _ 8 _ _ _ r1
        have z9 := cell_of_row wr _ 9 _ _ _ r1
        have z10 := cell_of_row wr _ 10 _ _ _ r1
        simp only [List.getElem?_toArray, List.getElem?_cons_zero, List.getElem?_cons_succ] at z0 z1 z2 z3 z4 z5 z6 z7 z8 z9 z10
        have p0 := frozen_of_row wr (w.heap.size + 1) 0 _ _ r1
        have p1 := frozen_of_row wr (w.heap.size + 1) 1 _ _ r1
        have p2 := frozen_of_row wr (w.heap.size + 1) 2 _ _ r1
        have p3 := frozen_of_row wr (w.heap.size + 1) 3 _ _ r1
        have p4 := frozen_of_row wr (w.heap.size + 1) 4 _ _ r1
        have p5 := frozen_of_row wr (w.heap.size + 1) 5 _ _ r1
        have p6 := frozen_of_row wr (w.heap.size + 1) 6 _ _ r1
        have p7 := frozen_of_row wr (w.heap.size + 1) 7 _ _ r1
        have p8 := frozen_of_row wr (w.heap.size + 1) 8 _ _ r1
        have p9 := frozen_of_row wr (w.heap.size + 1) 9 _ _ r1
        have p10 := frozen_of_row wr (w.heap.size + 1) 10 _ _ r1
        have l0 := lt_of_block r0
        have l1 := lt_of_block r1
        clear r0 r1
        go_wp2_with fail
        clear c0 c1 c2 c3 c4 c5 c6 c7 c8 c9 c10 z0 z1 z2 z3 z4 z5 z6 z7 z8 z9 z10 p0 p1 p2 p3 p4 p5 p6 p7 p8 p9 p10
        obtain ⟨hC, hK, hI⟩ := HK.out
        obtain ⟨hrow, hk'⟩ := stored11 (.int .i8 kind) (.string path) (.slice d0 d1 d2) (.slice a0 a1 a2) (.int .i32 ver) (.bool eph) (.bool seq) (.int .i64 ses) (.int .i32 tmo) (.slice e0 e1 e2) (.slice o0 k o2) hC.res
        have hs1 := hK.size
        have hs2 := hk'.size
        have h3s := H3s.out
        have h34 : W3.heap.size ≤ W4.heap.size := H34.out
        obtain ⟨oc', hso, hel, hvo⟩ : ∃ oc' : Fin k → List Value, SeesR wr (.slice o0 k o2) 11 (List.ofFn oc') ∧ (∀ i, RqIn wr (fun q => W4.heap.size ≤ q ∧ q < wr.heap.size) (oc' i) (ops i)) ∧ (∀ q, (Value.slice o0 k o2).ownBlock = some q → W3.heap.size ≤ q ∧ q < wr.heap.size) := by
          have hvo : ∀ q, (Value.slice o0 k o2).ownBlock = some q → W3.heap.size ≤ q ∧ q < wr.heap.size := fun q hq => by have := H4.out.2.2.2.2.lt q hq; omega
          by_cases h0 : k = 0
          · subst h0
            have h9 := seesR_own (cs := List.ofFn oc) (base := W3.heap.size) (t := 35) (w := W4) (v := .slice o0 0 o2) (z := 11) (by rw [List.length_ofFn]; exact H4.out.2.2.2.2) (rq_one HS.out).1
            obtain ⟨ao, cap, e, q1, q2, q3, _⟩ := h9
            exact ⟨oc, ⟨ao, cap, e, q1, q2, q3, .inl (by simp)⟩, fun i => i.elim0, hvo⟩
          · obtain ⟨rfl, _⟩ := HG.out.1 (by omega)
            obtain ⟨oc', h1, h2⟩ := clI_sees (hI (by omega)) ⟨hoc1, hoc2⟩
            exact ⟨oc', h1, h2, hvo⟩
        have hgk : ∀ q, q < W3.heap.size → ¬ (q = g ∨ W4.heap.size ≤ q) := fun q hq => by
          by_cases h0 : k = 0
          · have := HG.out.2 h0; omega
          · have := HG.out.1 (by omega); omega
        have hkd : ∀ q, (Value.slice d0 d1 d2).ownBlock = some q ∨ (Value.slice a0 a1 a2).ownBlock = some q ∨ (Value.slice e0 e1 e2).ownBlock = some q → ¬ (q = g ∨ W4.heap.size ≤ q) ∧ ¬ q = w.heap.size + 1 ∧ w.heap.size ≤ q ∧ q < W3.heap.size := fun q hq => by
          have h9 : w.heap.size + 2 ≤ q ∧ q < W3.heap.size := by
            rcases hq with hq | hq | hq
            · exact H4.out.2.1.2 q hq
            · exact H4.out.2.2.1.2 q hq
            · exact H4.out.2.2.2.1.2 q hq
          exact ⟨hgk q h9.2, by omega, by omega, h9.2⟩
        have hR := RqIn.mk (w := _) (F := fun q => w.heap.size ≤ q ∧ q < _) ⟨kind, path, data, acl, ver, eph, seq, ses, tmo, who⟩ k ops (.slice d0 d1 d2) (.slice a0 a1 a2) (.slice e0 e1 e2) (.slice o0 k o2) oc'
          ((H4.out.2.1.1.kept hK (fun q hq => (hkd q (.inl hq)).1)).kept hk' (fun q hq => (hkd q (.inl hq)).2.1))
          ((H4.out.2.2.1.1.kept hK (fun q hq => (hkd q (.inr (.inl hq))).1)).kept hk' (fun q hq => (hkd q (.inr (.inl hq))).2.1))
          ((H4.out.2.2.2.1.1.kept hK (fun q hq => (hkd q (.inr (.inr hq))).1)).kept hk' (fun q hq => (hkd q (.inr (.inr hq))).2.1))
          (hso.kept hk' (fun q hq e => by have := hvo q hq; omega))
          (fun q hq => by have := hkd q (.inl hq); exact ⟨this.2.2.1, Nat.lt_of_lt_of_le this.2.2.2 (Nat.le_trans h34 (Nat.le_trans hs1 hs2))⟩)
          (fun q hq => by have := hkd q (.inr (.inl hq)); exact ⟨this.2.2.1, Nat.lt_of_lt_of_le this.2.2.2 (Nat.le_trans h34 (Nat.le_trans hs1 hs2))⟩)
          (fun q hq => by have := hkd q (.inr (.inr hq)); exact ⟨this.2.2.1, Nat.lt_of_lt_of_le this.2.2.2 (Nat.le_trans h34 (Nat.le_trans hs1 hs2))⟩)
          (fun q hq => by have := hvo q hq; exact ⟨by omega, Nat.lt_of_lt_of_le this.2 hs2⟩)
          (fun i => RqIn.kept hk' (fun q hq => ⟨fun e => by omega, by omega, Nat.lt_of_lt_of_le hq.2 hs2⟩) (hel i))
        have hld := run_loadVar_row (P := Tryz.prog) _ _ _ 35 _ _ _ hrow Tryz.underlying35 rfl rq_size
        refine bodyPost_ret (v := .agg (rqCells ⟨kind, path, data, acl, ver, eph, seq, ses, tmo, who⟩ (.slice d0 d1 d2) (.slice a0 a1 a2) (.slice e0 e1 e2) (.slice o0 k o2)).toArray) ?_ rfl ⟨_, rfl, hR, hC.bel.trans (hk'.below hC.bel.size (fun q e => by omega))⟩
        rw [resCell1 Tryz.results31]
        show ((asAddr (.pointer (some ⟨w.heap.size + 1, 0, none⟩))).run Tryz.prog _).andThen _ = _
        simp only [asAddr, Sem.run_pure, Result.andThen_ok, hld]
        rfl
end Go.Proofs.YtgjjcmhlmdfccaaGreatDoor
