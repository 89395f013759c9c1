/- txn.cloneRequest: every request, the same in blocks of its own, one behind the other. -/
import Derived.Test.YtoeialngbbfoeaaGreatDoorClCJ
import Derived.Test.YtoeialngbbfoeaaGreatDoorBqCJ
namespace Go.Proofs.YtoeialngbbfoeaaGreatDoor
open Go.RowKit
set_option maxRecDepth 8000
set_option linter.unusedSimpArgs false
set_option linter.unusedVariables false

/-- k of the inner requests are cloned, each in blocks of its own. -/
def ClQ (w W4 wr : World) (g c n : Nat) (ops : Fin n → Rq) (oc : Fin n → List Value) (bx : List Value) (k : Nat) : Prop :=
  ClS w wr bx ∧ Kept W4 wr (fun j => j = g ∨ W4.heap.size ≤ j) ∧ ∃ (fl : List Value) (E : Nat → List Value), wr.ownsRow 0 33 11 (.slice (some ⟨g, 0, none⟩) n c) n fl ∧ (∀ i, i < n → ∀ j, j < 11 → fl[i * 11 + j]? = some ((E i).getD j (.bool false))) ∧
    (∃ M : Nat → Nat, M 0 = W4.heap.size ∧ (∀ i, M i ≤ M (i + 1)) ∧ (∀ i, M i ≤ wr.heap.size) ∧ ∀ i (hi : i < n), i < k → OwnQ wr (M i) (M (i + 1)) (E i) (ops ⟨i, hi⟩)) ∧ ∀ i (hi : i < n), k ≤ i → E i = oc ⟨i, hi⟩

theorem ClQ.step {w W4 wr w5 : World} {g c n k B : Nat} {ops : Fin n → Rq} {oc : Fin n → List Value} {bx : List Value} {c0 c1 c2 c3 c4 c5 c6 c7 c8 c9 c10 : Value} (h : ClQ w W4 wr g c n ops oc bx k) (hk : k < n) (hg : w.heap.size + 2 ≤ g ∧ g < W4.heap.size) (b5 : Below wr.heap.size wr w5) (hB : wr.heap.size ≤ B) (hq : OwnQ w5 B w5.heap.size [c0, c1, c2, c3, c4, c5, c6, c7, c8, c9, c10] (ops ⟨k, hk⟩)) :
    ClQ w W4 (w11 w5 g (k * 11) c0 c1 c2 c3 c4 c5 c6 c7 c8 c9 c10) g c n ops oc bx (k + 1) := by
  obtain ⟨hS, hK, fl, E, h1, h2, ⟨M, m0, m1, m2, h3⟩, h4⟩ := h
  have hs := hK.size
  have h1' := ownsRow_kept h1 (Below.kept b5) (fun q hq e => by cases hq; exact absurd (show wr.heap.size ≤ g from e) (by omega))
  obtain ⟨o1, o2⟩ := own11C (k := k) h1' c0 c1 c2 c3 c4 c5 c6 c7 c8 c9 c10
  have hfl : fl.length = n * 11 := h1.1
  have hkn : k * 11 + 11 ≤ fl.length := by
    have : (k + 1) * 11 ≤ n * 11 := Nat.mul_le_mul_right 11 hk
    omega
  obtain ⟨s1, s2⟩ := set11C fl k hkn c0 c1 c2 c3 c4 c5 c6 c7 c8 c9 c10
  have hs5 := b5.size
  have hs6 := o2.size
  have hM0 : ∀ i, W4.heap.size ≤ M i := fun i => by
    induction i with
    | zero => omega
    | succ i ih => have := m1 i; omega
  refine ⟨(hS.later b5).kept o2 (fun q e => by omega), (hK.transC (Below.kept b5) (fun j _ e => e) (fun j hj e => .inr (by omega))).transC o2 (fun j _ e => e) (fun j hj e => .inl e), _, fun i => if i = k then [c0, c1, c2, c3, c4, c5, c6, c7, c8, c9, c10] else E i, o1, fun i hn j hj => ?_, ⟨fun i => if i ≤ k then M i else w5.heap.size, ?_, fun i => ?_, fun i => ?_, fun i hi hk' => ?_⟩, fun i hi hk' => ?_⟩
  · dsimp only
    by_cases e : i = k
    · subst e
      rw [if_pos rfl]
      exact s2 j hj
    · rw [if_neg e, s1 i j e hj]
      exact h2 i hn j hj
  · dsimp only
    rw [if_pos (Nat.zero_le _)]
    exact m0
  · dsimp only
    by_cases e : i + 1 ≤ k
    · rw [if_pos (by omega), if_pos e]; exact m1 i
    · rw [if_neg e]
      by_cases e2 : i ≤ k
      · rw [if_pos e2]; exact Nat.le_trans (m2 i) hs5
      · rw [if_neg e2]; exact Nat.le_refl _
  · dsimp only
    by_cases e : i ≤ k
    · rw [if_pos e]; exact Nat.le_trans (m2 i) (Nat.le_trans hs5 hs6)
    · rw [if_neg e]; exact hs6
  · dsimp only
    by_cases e : i = k
    · subst e
      rw [if_pos rfl, if_pos (Nat.le_refl _), if_neg (by omega)]
      exact OwnQ.kept o2 (hq.mono (Nat.le_trans (m2 i) hB) (Nat.le_refl _)) (fun q q1 q2 e => by have := hM0 i; omega)
    · rw [if_neg e, if_pos (by omega), if_pos (by omega)]
      exact OwnQ.kept o2 (OwnQ.kept (Below.kept b5) (h3 i hi (by omega)) (fun q q1 q2 e => by have e9 : wr.heap.size ≤ q := e; have := m2 (i + 1); omega)) (fun q q1 q2 e => by have := hM0 i; omega)
  · dsimp only
    rw [if_neg (by omega)]
    exact h4 i hi (by omega)

set_option maxHeartbeats 4000000 in
theorem cloneRq_own (r : Rq) : ∀ (cs : List Value) (w : World), SeesRq w cs r → r.parts ≤ 20000 →
    Calls Tryz.prog 20 #[.agg cs.toArray] w fun e w' => ∃ ds, e = .returned (.agg ds.toArray) ∧ OwnQ w' w.heap.size w'.heap.size ds r ∧ Below w.heap.size w w' := by
  induction r with
  | mk f n ops ih =>
    intro cs w hcs hp
    obtain ⟨dv, av, wv, ov, oc, rfl, hd, ha, hw, ho, hs⟩ := rq_inv hcs
    rw [Rq.parts_eq] at hp
    have hpn := partsTo_le ops n (Nat.le_refl _)
    have hfp : f.parts = 1 + f.data.length + f.acl.length + f.who.length := rfl
    have hpi : ∀ i : Fin n, (ops i).parts ≤ 20000 := fun i => by have := part_le ops i; omega
    obtain ⟨kind, path, data, acl, ver, eph, seq, ses, tmo, who⟩ := f
    simp only at hd ha hw hfp
    have HD : Hid (∀ W : World, Below w.heap.size w W → Calls Tryz.prog 74 #[dv] W fun e w' => ∃ v', e = .returned v' ∧ Owns w' W.heap.size v' data ∧ Below W.heap.size W w') := fun W hW => copiedB_any dv data W (hd.below hW (Nat.le_refl _)) (by omega)
    have HA : Hid (∀ W : World, Below w.heap.size w W → Calls Tryz.prog 75 #[av] W fun e w' => ∃ v', e = .returned v' ∧ w'.ownsRow W.heap.size 105 3 v' (acl.map EnD.cells).length (acl.map EnD.cells).flatten ∧ Below W.heap.size W w') := fun W hW => copiedEn_any av _ W (ha.below hW (Nat.le_refl _)) (en_one acl).1 (en_one acl).2 (by rw [List.length_map]; omega)
    have HW : Hid (∀ W : World, Below w.heap.size w W → Calls Tryz.prog 76 #[wv] W fun e w' => ∃ v', e = .returned v' ∧ w'.ownsRow W.heap.size 103 2 v' (who.map IdD.cells).length (who.map IdD.cells).flatten ∧ Below W.heap.size W w') := fun W hW => copiedId_any wv _ W (hw.below hW (Nat.le_refl _)) (id_one who).1 (id_one who).2 (by rw [List.length_map]; omega)
    have HO : Hid (∀ W : World, Below w.heap.size w W → Calls Tryz.prog 77 #[ov] W fun e w' => ∃ v', e = .returned v' ∧ w'.ownsRow W.heap.size 33 11 v' (List.ofFn oc).length (List.ofFn oc).flatten ∧ Below W.heap.size W w') := fun W hW => copiedRq_any ov _ W (ho.below hW (Nat.le_refl _)) (rq_one hs).1 (rq_one hs).2 (by rw [List.length_ofFn]; omega)
    obtain ⟨da, dl, dc, rfl⟩ := sees_form hd
    obtain ⟨aa, al, ac, rfl⟩ := seesR_form ha
    obtain ⟨wa, wl, wc', rfl⟩ := seesR_form hw
    obtain ⟨oa, occ, e3⟩ := seesR_shape ho
    rw [List.length_ofFn] at e3
    subst e3
    have hn : n ≤ 20000 := by omega
    have HI : Hid (∀ (i : Fin n) (W : World), Below w.heap.size w W → Calls Tryz.prog 20 #[.agg (oc i).toArray] W fun e w' => ∃ ds, e = .returned (.agg ds.toArray) ∧ OwnQ w' W.heap.size w'.heap.size ds (ops i) ∧ Below W.heap.size W w') := fun i W hW =>
      ih i (oc i) W ((hs i).later hW (Nat.le_refl _)) (hpi i)
    have HS : Hid (∀ i, SeesRq w (oc i) (ops i)) := hs
    have HLen : Hid (data.length ≤ 20000 ∧ acl.length ≤ 20000 ∧ who.length ≤ 20000) := ⟨by omega, by omega, by omega⟩
    clear hd ha hw hcs ho ih hs hp hpn hfp hpi
    simp only [rqCells]
    obtain ⟨V, eV⟩ : ∃ V, V = (w.alloc (.cells ([.int .i8 kind, .string path, .slice da dl dc, .slice aa al ac, .int .i32 ver, .bool eph, .bool seq, .int .i64 ses, .int .i32 tmo, .slice wa wl wc', .slice oa n occ]).toArray 33)).alloc (.cells rqZ 33) := ⟨_, rfl⟩
    have HV : Hid (ClS w V [.int .i8 kind, .string path, .slice da dl dc, .slice aa al ac, .int .i32 ver, .bool eph, .bool seq, .int .i64 ses, .int .i32 tmo, .slice wa wl wc', .slice oa n occ]) := by
      subst eV
      refine ⟨two_alloc _ _ _, ?_, ?_⟩
      · rw [Below.heap_alloc _ _ _ (by simp)]; exact heap_alloc_new _ _
      · have := heap_alloc_new (w.alloc (.cells ([.int .i8 kind, .string path, .slice da dl dc, .slice aa al ac, .int .i32 ver, .bool eph, .bool seq, .int .i64 ses, .int .i32 tmo, .slice wa wl wc', .slice oa n occ]).toArray 33)) (.cells rqZ 33)
        simpa using this
    have HE : Hid _ := eV
    clear eV
    go_enter Tryz.func20, Tryz.ntmps20
    go_upto_region 1 with fail
    rw [← HE.out]
    clear HE
    have r0 := HV.out.box
    have c0 := cell_of_row V _ 2 _ _ _ r0
    simp only [List.getElem?_toArray, List.getElem?_cons_zero, List.getElem?_cons_succ] at c0
    have l0 := lt_of_block r0
    clear r0
    go_wp2_with fail
    clear c0 l0
    refine (HD.out _ HV.out.bel).mono ?_
    rintro e w1 ⟨v1, rfl, ho, b1⟩
    obtain ⟨d0, d1, d2, rfl⟩ := owns_shape ho
    have hcl := HV.out.later b1
    obtain ⟨W1, hW1⟩ : ∃ W, W = w1.setCell ⟨w.heap.size, 2, none⟩ (.slice d0 d1 d2) := ⟨_, rfl⟩
    have hk := cl_kept (w := w) b1 2 (.slice d0 d1 d2)
    rw [← hW1] at hk
    have hsz := hk.size
    have hk1 : Kept w1 W1 (fun k => k = w.heap.size) := by rw [hW1]; exact Kept.setCell (Kept.refl _ _) ⟨w.heap.size, 2, none⟩ _ (fun _ => rfl)
    have hsz1 := hk1.size
    have hls := (HV.out).lt
    have H1 : Hid (ClS w W1 [.int .i8 kind, .string path, .slice d0 d1 d2, .slice aa al ac, .int .i32 ver, .bool eph, .bool seq, .int .i64 ses, .int .i32 tmo, .slice wa wl wc', .slice oa n occ] ∧ (W1.ownsRow (w.heap.size + 2) 5 1 (.slice d0 d1 d2) data.length (data.map (Value.int .u8)) ∧ (∀ k, (Value.slice d0 d1 d2).ownBlock = some k → k < W1.heap.size))) := ⟨by rw [hW1]; exact hcl.set 2 (.slice d0 d1 d2), ⟨row_kept (row_lo ho (fun q e => by have := row_base ho e; omega)) hk1 (fun q e e' => by have := row_base ho e; omega), fun q e => by have := row_lt ho e; omega⟩⟩
    have HZ1 : Hid (w.heap.size + 2 ≤ W1.heap.size) := H1.out.1.lt
    have c1 := cell_of_row w1 _ 2 _ _ _ hcl.box
    simp only [List.getElem?_toArray, List.getElem?_cons_zero, List.getElem?_cons_succ] at c1
    have f1 := frozen_of_row w1 w.heap.size 2 _ _ hcl.box
    have l1 := lt_of_block hcl.box
    have HA1 : Hid _ := hW1
    clear ho b1 hcl hk hk1 hW1 hsz hsz1 hls HD HV
    go_upto_region 2 with fail
    rw [← HA1.out]
    clear HA1 c1 f1 l1
    have r0 := H1.out.1.box
    have c0 := cell_of_row W1 _ 3 _ _ _ r0
    simp only [List.getElem?_toArray, List.getElem?_cons_zero, List.getElem?_cons_succ] at c0
    have l0 := lt_of_block r0
    clear r0
    go_wp2_with fail
    clear c0 l0
    refine (HA.out _ H1.out.1.bel).mono ?_
    rintro e w2 ⟨v2, rfl, ho, b2⟩
    obtain ⟨a0, a1, a2, rfl⟩ := row_shape ho
    have hcl := H1.out.1.later b2
    obtain ⟨W2, hW2⟩ : ∃ W, W = w2.setCell ⟨w.heap.size, 3, none⟩ (.slice a0 a1 a2) := ⟨_, rfl⟩
    have hk := cl_kept (w := w) b2 3 (.slice a0 a1 a2)
    rw [← hW2] at hk
    have hsz := hk.size
    have hk1 : Kept w2 W2 (fun k => k = w.heap.size) := by rw [hW2]; exact Kept.setCell (Kept.refl _ _) ⟨w.heap.size, 3, none⟩ _ (fun _ => rfl)
    have hsz1 := hk1.size
    have hls := (H1.out.1).lt
    have hz1 := HZ1.out
    have H2 : Hid (ClS w W2 [.int .i8 kind, .string path, .slice d0 d1 d2, .slice a0 a1 a2, .int .i32 ver, .bool eph, .bool seq, .int .i64 ses, .int .i32 tmo, .slice wa wl wc', .slice oa n occ] ∧ (W2.ownsRow (w.heap.size + 2) 5 1 (.slice d0 d1 d2) data.length (data.map (Value.int .u8)) ∧ (∀ k, (Value.slice d0 d1 d2).ownBlock = some k → k < W1.heap.size)) ∧ (W2.ownsRow W1.heap.size 105 3 (.slice a0 a1 a2) (acl.map EnD.cells).length (acl.map EnD.cells).flatten ∧ (∀ k, (Value.slice a0 a1 a2).ownBlock = some k → k < W2.heap.size))) := ⟨by rw [hW2]; exact hcl.set 3 (.slice a0 a1 a2), ⟨row_kept H1.out.2.1 hk (fun q e e' => by have := row_base H1.out.2.1 e; omega), H1.out.2.2⟩, ⟨row_kept ho hk1 (fun q e e' => by have := row_base ho e; omega), fun q e => by have := row_lt ho e; omega⟩⟩
    have HZ2 : Hid (W1.heap.size ≤ W2.heap.size) := hsz
    clear hz1
    have c1 := cell_of_row w2 _ 3 _ _ _ hcl.box
    simp only [List.getElem?_toArray, List.getElem?_cons_zero, List.getElem?_cons_succ] at c1
    have f1 := frozen_of_row w2 w.heap.size 3 _ _ hcl.box
    have l1 := lt_of_block hcl.box
    have HA2 : Hid _ := hW2
    clear ho b2 hcl hk hk1 hW2 hsz hsz1 hls HA H1
    go_upto_region 3 with fail
    rw [← HA2.out]
    clear HA2 c1 f1 l1
    have r0 := H2.out.1.box
    have c0 := cell_of_row W2 _ 9 _ _ _ r0
    simp only [List.getElem?_toArray, List.getElem?_cons_zero, List.getElem?_cons_succ] at c0
    have l0 := lt_of_block r0
    clear r0
    go_wp2_with fail
    clear c0 l0
    refine (HW.out _ H2.out.1.bel).mono ?_
    rintro e w3 ⟨v3, rfl, ho, b3⟩
    obtain ⟨e0, e1, e2, rfl⟩ := row_shape ho
    have hcl := H2.out.1.later b3
    obtain ⟨W3, hW3⟩ : ∃ W, W = w3.setCell ⟨w.heap.size, 9, none⟩ (.slice e0 e1 e2) := ⟨_, rfl⟩
    have hk := cl_kept (w := w) b3 9 (.slice e0 e1 e2)
    rw [← hW3] at hk
    have hsz := hk.size
    have hk1 : Kept w3 W3 (fun k => k = w.heap.size) := by rw [hW3]; exact Kept.setCell (Kept.refl _ _) ⟨w.heap.size, 9, none⟩ _ (fun _ => rfl)
    have hsz1 := hk1.size
    have hls := (H2.out.1).lt
    have hz1 := HZ1.out
    have hz2 := HZ2.out
    have H3 : Hid (ClS w W3 [.int .i8 kind, .string path, .slice d0 d1 d2, .slice a0 a1 a2, .int .i32 ver, .bool eph, .bool seq, .int .i64 ses, .int .i32 tmo, .slice e0 e1 e2, .slice oa n occ] ∧ (W3.ownsRow (w.heap.size + 2) 5 1 (.slice d0 d1 d2) data.length (data.map (Value.int .u8)) ∧ (∀ k, (Value.slice d0 d1 d2).ownBlock = some k → k < W1.heap.size)) ∧ (W3.ownsRow W1.heap.size 105 3 (.slice a0 a1 a2) (acl.map EnD.cells).length (acl.map EnD.cells).flatten ∧ (∀ k, (Value.slice a0 a1 a2).ownBlock = some k → k < W2.heap.size)) ∧ (W3.ownsRow W2.heap.size 103 2 (.slice e0 e1 e2) (who.map IdD.cells).length (who.map IdD.cells).flatten ∧ (∀ k, (Value.slice e0 e1 e2).ownBlock = some k → k < W3.heap.size))) := ⟨by rw [hW3]; exact hcl.set 9 (.slice e0 e1 e2), ⟨row_kept H2.out.2.1.1 hk (fun q e e' => by have := row_base H2.out.2.1.1 e; omega), H2.out.2.1.2⟩, ⟨row_kept H2.out.2.2.1 hk (fun q e e' => by have := row_base H2.out.2.2.1 e; omega), H2.out.2.2.2⟩, ⟨row_kept ho hk1 (fun q e e' => by have := row_base ho e; omega), fun q e => by have := row_lt ho e; omega⟩⟩
    have HZ3 : Hid (W2.heap.size ≤ W3.heap.size) := hsz
    clear hz1 hz2
    have c1 := cell_of_row w3 _ 9 _ _ _ hcl.box
    simp only [List.getElem?_toArray, List.getElem?_cons_zero, List.getElem?_cons_succ] at c1
    have f1 := frozen_of_row w3 w.heap.size 9 _ _ hcl.box
    have l1 := lt_of_block hcl.box
    have HA3 : Hid _ := hW3
    clear ho b3 hcl hk hk1 hW3 hsz hsz1 hls HW H2
    go_upto_region 4 with fail
    rw [← HA3.out]
    clear HA3 c1 f1 l1
    have r0 := H3.out.1.box
    have c0 := cell_of_row W3 _ 10 _ _ _ r0
    simp only [List.getElem?_toArray, List.getElem?_cons_zero, List.getElem?_cons_succ] at c0
    have l0 := lt_of_block r0
    clear r0
    go_wp2_with fail
    clear c0 l0
    refine (HO.out _ H3.out.1.bel).mono ?_
    rintro e w4 ⟨v4, rfl, ho, b4⟩
    rw [List.length_ofFn] at ho
    obtain ⟨o0, o2, ho2⟩ : ∃ a c, v4 = .slice a n c := by
      rcases ho.2 with ⟨e, e'⟩ | ⟨g, c, cur, e, _⟩
      · exact ⟨none, 0, by rw [e, e']⟩
      · exact ⟨_, c, e⟩
    subst ho2
    have hcl := H3.out.1.later b4
    obtain ⟨W4, hW4⟩ : ∃ W, W = w4.setCell ⟨w.heap.size, 10, none⟩ (.slice o0 n o2) := ⟨_, rfl⟩
    have hk := cl_kept (w := w) b4 10 (.slice o0 n o2)
    rw [← hW4] at hk
    have hsz := hk.size
    have hk1 : Kept w4 W4 (fun k => k = w.heap.size) := by rw [hW4]; exact Kept.setCell (Kept.refl _ _) ⟨w.heap.size, 10, none⟩ _ (fun _ => rfl)
    have hsz1 := hk1.size
    have hls := (H3.out.1).lt
    have hz1 := HZ1.out
    have hz2 := HZ2.out
    have hz3 := HZ3.out
    have H34 : Hid (W3.heap.size ≤ W4.heap.size) := hsz
    have H3L : Hid (w.heap.size + 2 ≤ W3.heap.size) := hls
    have H4 : Hid (ClS w W4 [.int .i8 kind, .string path, .slice d0 d1 d2, .slice a0 a1 a2, .int .i32 ver, .bool eph, .bool seq, .int .i64 ses, .int .i32 tmo, .slice e0 e1 e2, .slice o0 n o2] ∧ (W4.ownsRow (w.heap.size + 2) 5 1 (.slice d0 d1 d2) data.length (data.map (Value.int .u8)) ∧ (∀ k, (Value.slice d0 d1 d2).ownBlock = some k → k < W1.heap.size)) ∧ (W4.ownsRow W1.heap.size 105 3 (.slice a0 a1 a2) (acl.map EnD.cells).length (acl.map EnD.cells).flatten ∧ (∀ k, (Value.slice a0 a1 a2).ownBlock = some k → k < W2.heap.size)) ∧ (W4.ownsRow W2.heap.size 103 2 (.slice e0 e1 e2) (who.map IdD.cells).length (who.map IdD.cells).flatten ∧ (∀ k, (Value.slice e0 e1 e2).ownBlock = some k → k < W3.heap.size)) ∧ (W4.ownsRow W3.heap.size 33 11 (.slice o0 n o2) n (List.ofFn oc).flatten)) := ⟨by rw [hW4]; exact hcl.set 10 (.slice o0 n o2), ⟨row_kept H3.out.2.1.1 hk (fun q e e' => by have := row_base H3.out.2.1.1 e; omega), H3.out.2.1.2⟩, ⟨row_kept H3.out.2.2.1.1 hk (fun q e e' => by have := row_base H3.out.2.2.1.1 e; omega), H3.out.2.2.1.2⟩, ⟨row_kept H3.out.2.2.2.1 hk (fun q e e' => by have := row_base H3.out.2.2.2.1 e; omega), H3.out.2.2.2.2⟩, ownsRow_kept ho hk1 (fun q e e' => by have := (ho.lt q e).1; omega)⟩
    clear hz1 hz2 hz3
    have c1 := cell_of_row w4 _ 10 _ _ _ hcl.box
    simp only [List.getElem?_toArray, List.getElem?_cons_zero, List.getElem?_cons_succ] at c1
    have f1 := frozen_of_row w4 w.heap.size 10 _ _ hcl.box
    have l1 := lt_of_block hcl.box
    have HA4 : Hid _ := hW4
    clear ho b4 hcl hk hk1 hW4 hsz hsz1 hls HO H3
    go_upto_region 5 with fail
    rw [← HA4.out]
    clear HA4 c1 f1 l1
    obtain ⟨g, hg, hg0⟩ : ∃ g : Nat, (0 < n → o0 = some ⟨g, 0, none⟩ ∧ W3.heap.size ≤ g ∧ g < W4.heap.size) ∧ (n = 0 → g = W4.heap.size) := by
      by_cases h0 : n = 0
      · exact ⟨W4.heap.size, fun e => by omega, fun _ => rfl⟩
      · rcases H4.out.2.2.2.2.2 with ⟨_, e'⟩ | ⟨g, c, cur, e, e1, e2⟩
        · exact absurd e' h0
        · simp at e
          obtain ⟨rfl, rfl⟩ := e
          exact ⟨g, fun _ => ⟨rfl, e1, (H4.out.2.2.2.2.lt g rfl).2⟩, fun e => absurd e h0⟩
    have HG : Hid ((0 < n → o0 = some ⟨g, 0, none⟩ ∧ W3.heap.size ≤ g ∧ g < W4.heap.size) ∧ (n = 0 → g = W4.heap.size)) := ⟨hg, hg0⟩
    have hoc : n ≤ o2 ∧ o2 ≤ 9223372036854775807 := by
      rcases H4.out.2.2.2.2.2 with ⟨e, e'⟩ | ⟨g, c, cur, e, _, _, e2, e3, _⟩
      · simp at e
        omega
      · simp at e
        obtain ⟨_, rfl⟩ := e
        unfold maxLen at e3
        exact ⟨e2, e3⟩
    obtain ⟨hoc1, hoc2⟩ := hoc
    have H3s : Hid (w.heap.size + 2 ≤ W3.heap.size) := H3L.out
    have HI0 : Hid (ClS w W4 [.int .i8 kind, .string path, .slice d0 d1 d2, .slice a0 a1 a2, .int .i32 ver, .bool eph, .bool seq, .int .i64 ses, .int .i32 tmo, .slice e0 e1 e2, .slice o0 n o2] ∧ Kept W4 W4 (fun j => j = g ∨ W4.heap.size ≤ j) ∧ (0 < n → ClQ w W4 W4 g o2 n ops oc [.int .i8 kind, .string path, .slice d0 d1 d2, .slice a0 a1 a2, .int .i32 ver, .bool eph, .bool seq, .int .i64 ses, .int .i32 tmo, .slice e0 e1 e2, .slice o0 n o2] 0)) := by
      obtain ⟨E0, hE0⟩ : ∃ E0 : Nat → List Value, ∀ i (hi : i < n), E0 i = oc ⟨i, hi⟩ := ⟨fun i => if h : i < n then oc ⟨i, h⟩ else [], fun i hi => dif_pos hi⟩
      refine ⟨H4.out.1, Kept.refl _ _, fun h0 => ⟨H4.out.1, Kept.refl _ _, (List.ofFn oc).flatten, E0, ?_, fun i hi j hj => ?_, ⟨fun _ => W4.heap.size, rfl, fun _ => Nat.le_refl _, fun _ => Nat.le_refl _, fun i hi hk => by omega⟩, fun i hi _ => hE0 i hi⟩⟩
      · have := H4.out.2.2.2.2
        rw [(hg h0).1] at this
        exact ⟨this.1, by
          rcases this.2 with e | ⟨g', c, cur, e, _, e2⟩
          · exact .inl e
          · exact .inr ⟨g', c, cur, e, Nat.zero_le _, e2⟩⟩
      · rw [hE0 i hi]
        have hfl := clFlat_nth 11 (List.ofFn oc) (rq_one HS.out).1 i j (by rw [List.length_ofFn]; exact hi) hj
        rw [hfl]
        simp
    clear hg hg0
    have r0 := H4.out.1.box
    have c0 := cell_of_row W4 _ 10 _ _ _ r0
    simp only [List.getElem?_toArray, List.getElem?_cons_zero, List.getElem?_cons_succ] at c0
    have l0 := lt_of_block r0
    clear r0
    go_wp2_with fail
    clear c0 l0
    go_loopw [24] (fun i wr => ∃ k : Nat, k ≤ n ∧ i = .int .i64 k ∧ Hid (ClS w wr [.int .i8 kind, .string path, .slice d0 d1 d2, .slice a0 a1 a2, .int .i32 ver, .bool eph, .bool seq, .int .i64 ses, .int .i32 tmo, .slice e0 e1 e2, .slice o0 n o2] ∧ Kept W4 wr (fun j => j = g ∨ W4.heap.size ≤ j) ∧ (0 < n → ClQ w W4 wr g o2 n ops oc [.int .i8 kind, .string path, .slice d0 d1 d2, .slice a0 a1 a2, .int .i32 ver, .bool eph, .bool seq, .int .i64 ses, .int .i32 tmo, .slice e0 e1 e2, .slice o0 n o2] k))) (fun i _ => n - (intOf i).toNat)
    case atStart => exact ⟨0, Nat.zero_le _, rfl, HI0⟩
    case round =>
      clear HI0
      obtain ⟨k, hk, rfl, HK⟩ := hrel
      by_cases hlt : k < n
      · have h0 : 0 < n := by omega
        obtain ⟨rfl, hgb, hgl⟩ := HG.out.1 h0
        have HC := HK.out.2.2 h0
        obtain ⟨hS, hKK, fl, E, h1, h2, h3, h4⟩ := id HC
        obtain ⟨x0, x1, x2, x3, x4, x5, x6, x7, x8, x9, x10, x11, x12, x13, x14, x15, x16, x17, x18, hcs⟩ := rq_forms (HS.out ⟨k, hlt⟩)
        have hat : ∀ j, j < 11 → wr.cell? ⟨g, k * 11 + j, none⟩ = some (([.int .i8 x0, .string x1, .slice x2 x3 x4, .slice x5 x6 x7, .int .i32 x8, .bool x9, .bool x10, .int .i64 x11, .int .i32 x12, .slice x13 x14 x15, .slice x16 x17 x18]).getD j (.bool false)) := fun j hj => by
          have hfl : fl.length = n * 11 := h1.1
          have hkn : k * 11 + 11 ≤ n * 11 := by have : (k + 1) * 11 ≤ n * 11 := Nat.mul_le_mul_right 11 hlt; omega
          rw [h1.cellAt _ (by omega), h2 k hlt j hj, h4 k hlt (Nat.le_refl _), hcs]
        have g0 : wr.cell? ⟨g, k * 11, none⟩ = some (.int .i8 x0) := hat 0 (by omega)
        have g1 : wr.cell? ⟨g, k * 11 + 1, none⟩ = some (.string x1) := hat 1 (by omega)
        have g2 : wr.cell? ⟨g, k * 11 + 2, none⟩ = some (.slice x2 x3 x4) := hat 2 (by omega)
        have g3 : wr.cell? ⟨g, k * 11 + 3, none⟩ = some (.slice x5 x6 x7) := hat 3 (by omega)
        have g4 : wr.cell? ⟨g, k * 11 + 4, none⟩ = some (.int .i32 x8) := hat 4 (by omega)
        have g5 : wr.cell? ⟨g, k * 11 + 5, none⟩ = some (.bool x9) := hat 5 (by omega)
        have g6 : wr.cell? ⟨g, k * 11 + 6, none⟩ = some (.bool x10) := hat 6 (by omega)
        have g7 : wr.cell? ⟨g, k * 11 + 7, none⟩ = some (.int .i64 x11) := hat 7 (by omega)
        have g8 : wr.cell? ⟨g, k * 11 + 8, none⟩ = some (.int .i32 x12) := hat 8 (by omega)
        have g9 : wr.cell? ⟨g, k * 11 + 9, none⟩ = some (.slice x13 x14 x15) := hat 9 (by omega)
        have g10 : wr.cell? ⟨g, k * 11 + 10, none⟩ = some (.slice x16 x17 x18) := hat 10 (by omega)
        have hlr : w.heap.size < wr.heap.size ∧ g < wr.heap.size := ⟨by have := hS.lt; omega, by have := hKK.size; omega⟩
        obtain ⟨hlr1, hlr2⟩ := hlr
        obtain ⟨Wb, hWb⟩ : ∃ Wb, Wb = wr.alloc (.cells #[.int .i8 x0, .string x1, .slice x2 x3 x4, .slice x5 x6 x7, .int .i32 x8, .bool x9, .bool x10, .int .i64 x11, .int .i32 x12, .slice x13 x14 x15, .slice x16 x17 x18] 33) := ⟨_, rfl⟩
        have hbb : Below wr.heap.size wr Wb := by rw [hWb]; exact (Below.refl _ _).alloc (Nat.le_refl _) _
        have hrb : Wb.heap[wr.heap.size]? = some (.cells #[.int .i8 x0, .string x1, .slice x2 x3 x4, .slice x5 x6 x7, .int .i32 x8, .bool x9, .bool x10, .int .i64 x11, .int .i32 x12, .slice x13 x14 x15, .slice x16 x17 x18] 33 (0, 0)) := by rw [hWb]; exact heap_alloc_new wr _
        have hsb : Wb.heap.size = wr.heap.size + 1 := by rw [hWb]; simp
        have hSb := hS.later hbb
        have HCR := HI.out ⟨k, hlt⟩ Wb.drew (below_drewN hSb.bel 1)
        rw [hcs] at HCR
        have HX : Hid (Calls Tryz.prog 20 #[.agg #[.int .i8 x0, .string x1, .slice x2 x3 x4, .slice x5 x6 x7, .int .i32 x8, .bool x9, .bool x10, .int .i64 x11, .int .i32 x12, .slice x13 x14 x15, .slice x16 x17 x18]] Wb.drew fun e w' => ∃ (y0 : Int) (y1 : ByteArray) (y2 : Option Addr) (y3 y4 : Nat) (y5 : Option Addr) (y6 y7 : Nat) (y8 : Int) (y9 y10 : Bool) (y11 y12 : Int) (y13 : Option Addr) (y14 y15 : Nat) (y16 : Option Addr) (y17 y18 : Nat), e = .returned (.agg #[.int .i8 y0, .string y1, .slice y2 y3 y4, .slice y5 y6 y7, .int .i32 y8, .bool y9, .bool y10, .int .i64 y11, .int .i32 y12, .slice y13 y14 y15, .slice y16 y17 y18]) ∧ ClM w g n o2 wr.heap.size (.int .i8 x0) (.string x1) (.slice x2 x3 x4) (.slice x5 x6 x7) (.int .i32 x8) (.bool x9) (.bool x10) (.int .i64 x11) (.int .i32 x12) (.slice x13 x14 x15) (.slice x16 x17 x18) w' ∧ ClM w g n o2 wr.heap.size (.int .i8 x0) (.string x1) (.slice x2 x3 x4) (.slice x5 x6 x7) (.int .i32 x8) (.bool x9) (.bool x10) (.int .i64 x11) (.int .i32 x12) (.slice x13 x14 x15) (.slice x16 x17 x18) (w11 w' g (k * 11) (.int .i8 y0) (.string y1) (.slice y2 y3 y4) (.slice y5 y6 y7) (.int .i32 y8) (.bool y9) (.bool y10) (.int .i64 y11) (.int .i32 y12) (.slice y13 y14 y15) (.slice y16 y17 y18)) ∧ (∃ u, w'.cell? ⟨g, k * 11, none⟩ = some u) ∧ w'.frozen? ⟨g, k * 11, none⟩ = false ∧ (∃ u, w'.cell? ⟨g, k * 11 + 1, none⟩ = some u) ∧ w'.frozen? ⟨g, k * 11 + 1, none⟩ = false ∧ (∃ u, w'.cell? ⟨g, k * 11 + 2, none⟩ = some u) ∧ w'.frozen? ⟨g, k * 11 + 2, none⟩ = false ∧ (∃ u, w'.cell? ⟨g, k * 11 + 3, none⟩ = some u) ∧ w'.frozen? ⟨g, k * 11 + 3, none⟩ = false ∧ (∃ u, w'.cell? ⟨g, k * 11 + 4, none⟩ = some u) ∧ w'.frozen? ⟨g, k * 11 + 4, none⟩ = false ∧ (∃ u, w'.cell? ⟨g, k * 11 + 5, none⟩ = some u) ∧ w'.frozen? ⟨g, k * 11 + 5, none⟩ = false ∧ (∃ u, w'.cell? ⟨g, k * 11 + 6, none⟩ = some u) ∧ w'.frozen? ⟨g, k * 11 + 6, none⟩ = false ∧ (∃ u, w'.cell? ⟨g, k * 11 + 7, none⟩ = some u) ∧ w'.frozen? ⟨g, k * 11 + 7, none⟩ = false ∧ (∃ u, w'.cell? ⟨g, k * 11 + 8, none⟩ = some u) ∧ w'.frozen? ⟨g, k * 11 + 8, none⟩ = false ∧ (∃ u, w'.cell? ⟨g, k * 11 + 9, none⟩ = some u) ∧ w'.frozen? ⟨g, k * 11 + 9, none⟩ = false ∧ (∃ u, w'.cell? ⟨g, k * 11 + 10, none⟩ = some u) ∧ w'.frozen? ⟨g, k * 11 + 10, none⟩ = false ∧ g < w'.heap.size ∧ wr.heap.size < w'.heap.size ∧ w.heap.size < w'.heap.size ∧ Hid (ClQ w W4 (w11 w' g (k * 11) (.int .i8 y0) (.string y1) (.slice y2 y3 y4) (.slice y5 y6 y7) (.int .i32 y8) (.bool y9) (.bool y10) (.int .i64 y11) (.int .i32 y12) (.slice y13 y14 y15) (.slice y16 y17 y18)) g o2 n ops oc [.int .i8 kind, .string path, .slice d0 d1 d2, .slice a0 a1 a2, .int .i32 ver, .bool eph, .bool seq, .int .i64 ses, .int .i32 tmo, .slice e0 e1 e2, .slice (some ⟨g, 0, none⟩) n o2] (k + 1))) := by
          refine HCR.mono ?_
          rintro e w5 ⟨ds, rfl, hr5, b5⟩
          obtain ⟨y0, y1, y2, y3, y4, y5, y6, y7, y8, y9, y10, y11, y12, y13, y14, y15, y16, y17, y18, rfl⟩ := rq_forms hr5.sees
          have hb5 : Below Wb.heap.size Wb w5 := (below_drewN (Below.refl Wb.heap.size Wb) 1).trans b5
          have b5' : Below wr.heap.size wr w5 := hbb.trans (hb5.mono (by omega))
          have hst := HC.step hlt ⟨by have := H4.out.1.lt; have := H3s.out; omega, hgl⟩ b5' (Nat.le_refl _) (OwnQ.mono hr5 (show wr.heap.size ≤ Wb.drew.heap.size from by have e9 : Wb.drew.heap.size = Wb.heap.size := rfl; omega) (Nat.le_refl _))
          have hrow5 := (Below.kept hb5).heap hrb (fun e => by omega)
          have hS5 := hSb.later hb5
          have ho5 := ownsRow_kept h1 (Below.kept b5') (fun q hq e => by cases hq; exact absurd (show wr.heap.size ≤ g from e) (by omega))
          have hk6 := (own11C (k := k) ho5 (.int .i8 y0) (.string y1) (.slice y2 y3 y4) (.slice y5 y6 y7) (.int .i32 y8) (.bool y9) (.bool y10) (.int .i64 y11) (.int .i32 y12) (.slice y13 y14 y15) (.slice y16 y17 y18)).2
          have hs5 := hb5.size
          have hfl : fl.length = n * 11 := h1.1
          have hkn : k * 11 + 11 ≤ n * 11 := by have : (k + 1) * 11 ≤ n * 11 := Nat.mul_le_mul_right 11 hlt; omega
          refine ⟨y0, y1, y2, y3, y4, y5, y6, y7, y8, y9, y10, y11, y12, y13, y14, y15, y16, y17, y18, rfl, clM_of hrow5 hS5.box, clM_of (hk6.heap hrow5 (fun e => by omega)) (hk6.heap hS5.box (fun e => by have := H3s.out; omega)), ⟨fl[k * 11]'(by omega), by rw [ho5.cellAt _ (by omega), List.getElem?_eq_getElem (by omega)]⟩, ho5.frozenAt _, ⟨fl[k * 11 + 1]'(by omega), by rw [ho5.cellAt _ (by omega), List.getElem?_eq_getElem (by omega)]⟩, ho5.frozenAt _, ⟨fl[k * 11 + 2]'(by omega), by rw [ho5.cellAt _ (by omega), List.getElem?_eq_getElem (by omega)]⟩, ho5.frozenAt _, ⟨fl[k * 11 + 3]'(by omega), by rw [ho5.cellAt _ (by omega), List.getElem?_eq_getElem (by omega)]⟩, ho5.frozenAt _, ⟨fl[k * 11 + 4]'(by omega), by rw [ho5.cellAt _ (by omega), List.getElem?_eq_getElem (by omega)]⟩, ho5.frozenAt _, ⟨fl[k * 11 + 5]'(by omega), by rw [ho5.cellAt _ (by omega), List.getElem?_eq_getElem (by omega)]⟩, ho5.frozenAt _, ⟨fl[k * 11 + 6]'(by omega), by rw [ho5.cellAt _ (by omega), List.getElem?_eq_getElem (by omega)]⟩, ho5.frozenAt _, ⟨fl[k * 11 + 7]'(by omega), by rw [ho5.cellAt _ (by omega), List.getElem?_eq_getElem (by omega)]⟩, ho5.frozenAt _, ⟨fl[k * 11 + 8]'(by omega), by rw [ho5.cellAt _ (by omega), List.getElem?_eq_getElem (by omega)]⟩, ho5.frozenAt _, ⟨fl[k * 11 + 9]'(by omega), by rw [ho5.cellAt _ (by omega), List.getElem?_eq_getElem (by omega)]⟩, ho5.frozenAt _, ⟨fl[k * 11 + 10]'(by omega), by rw [ho5.cellAt _ (by omega), List.getElem?_eq_getElem (by omega)]⟩, ho5.frozenAt _, by omega, by omega, by omega, hst⟩
        have k0 : ClM w g n o2 wr.heap.size (.int .i8 x0) (.string x1) (.slice x2 x3 x4) (.slice x5 x6 x7) (.int .i32 x8) (.bool x9) (.bool x10) (.int .i64 x11) (.int .i32 x12) (.slice x13 x14 x15) (.slice x16 x17 x18) Wb.drew := clM_of hrb hSb.box
        have HAb : Hid _ := hWb
        clear hcs hat HCR hrb hSb hbb hWb HC hS hKK h1 h2 h3 h4 HK
        go_upto_region 8 with fail
        rw [← HAb.out]
        clear HAb g0 g1 g2 g3 g4 g5 g6 g7 g8 g9 g10
        go_region_held (fun w' => w'.cell? ⟨wr.heap.size, 0, none⟩ = some (.int .i8 x0) ∧ w'.cell? ⟨wr.heap.size, 1, none⟩ = some (.string x1) ∧ w'.cell? ⟨wr.heap.size, 2, none⟩ = some (.slice x2 x3 x4) ∧ w'.cell? ⟨wr.heap.size, 3, none⟩ = some (.slice x5 x6 x7) ∧ w'.cell? ⟨wr.heap.size, 4, none⟩ = some (.int .i32 x8) ∧ w'.cell? ⟨wr.heap.size, 5, none⟩ = some (.bool x9) ∧ w'.cell? ⟨wr.heap.size, 6, none⟩ = some (.bool x10) ∧ w'.cell? ⟨wr.heap.size, 7, none⟩ = some (.int .i64 x11) ∧ w'.cell? ⟨wr.heap.size, 8, none⟩ = some (.int .i32 x12) ∧ w'.cell? ⟨wr.heap.size, 9, none⟩ = some (.slice x13 x14 x15) ∧ w'.cell? ⟨wr.heap.size, 10, none⟩ = some (.slice x16 x17 x18) ∧ w'.cell? ⟨w.heap.size, 10, none⟩ = some (.slice (some ⟨g, 0, none⟩) n o2)) (first | (with_reducible exact k2) | (with_reducible exact k1) | (with_reducible exact k0)) (first | (go_at_call 20; refine Calls.mono HX.out ?_; rintro e w5 ⟨y0, y1, y2, y3, y4, y5, y6, y7, y8, y9, y10, y11, y12, y13, y14, y15, y16, y17, y18, rfl, k1, k2, ⟨qq0, hu0⟩, fz0, ⟨qq1, hu1⟩, fz1, ⟨qq2, hu2⟩, fz2, ⟨qq3, hu3⟩, fz3, ⟨qq4, hu4⟩, fz4, ⟨qq5, hu5⟩, fz5, ⟨qq6, hu6⟩, fz6, ⟨qq7, hu7⟩, fz7, ⟨qq8, hu8⟩, fz8, ⟨qq9, hu9⟩, fz9, ⟨qq10, hu10⟩, fz10, lg, lb, lw, HN⟩))
        go_wp2_with fail
        go_roundw
        case rel => exact ⟨k + 1, by omega, by go_num, ⟨HN.out.1, HN.out.2.1, fun _ => HN.out⟩⟩
        case measure => simp [intOf]; omega
      · obtain rfl : k = n := by omega
        have r0 := HK.out.1.box
        have r1 := HK.out.1.res
        have c0 := cell_of_row wr _ 0 _ _ _ r0
        have c1 := cell_of_row wr _ 1 _ _ _ r0
        have c2 := cell_of_row wr _ 2 _ _ _ r0
        have c3 := cell_of_row wr _ 3 _ _ _ r0
        have c4 := cell_of_row wr _ 4 _ _ _ r0
        have c5 := cell_of_row wr _ 5 _ _ _ r0
        have c6 := cell_of_row wr _ 6 _ _ _ r0
        have c7 := cell_of_row wr _ 7 _ _ _ r0
        have c8 := cell_of_row wr _ 8 _ _ _ r0
        have c9 := cell_of_row wr _ 9 _ _ _ r0
        have c10 := cell_of_row wr _ 10 _ _ _ r0
        simp only [List.getElem?_toArray, List.getElem?_cons_zero, List.getElem?_cons_succ] at c0 c1 c2 c3 c4 c5 c6 c7 c8 c9 c10
        have z0 := cell_of_row wr _ 0 _ _ _ r1
        have z1 := cell_of_row wr _ 1 _ _ _ r1
        have z2 := cell_of_row wr _ 2 _ _ _ r1
        have z3 := cell_of_row wr _ 3 _ _ _ r1
        have z4 := cell_of_row wr _ 4 _ _ _ r1
        have z5 := cell_of_row wr _ 5 _ _ _ r1
        have z6 := cell_of_row wr _ 6 _ _ _ r1
        have z7 := cell_of_row wr _ 7 _ _ _ r1
        have z8 := cell_of_row wr _ 8 _ _ _ r1
        have z9 := cell_of_row wr _ 9 _ _ _ r1
        have z10 := cell_of_row wr _ 10 _ _ _ r1
        simp only [List.getElem?_toArray, List.getElem?_cons_zero, List.getElem?_cons_succ] at z0 z1 z2 z3 z4 z5 z6 z7 z8 z9 z10
        have p0 := frozen_of_row wr (w.heap.size + 1) 0 _ _ r1
        have p1 := frozen_of_row wr (w.heap.size + 1) 1 _ _ r1
        have p2 := frozen_of_row wr (w.heap.size + 1) 2 _ _ r1
        have p3 := frozen_of_row wr (w.heap.size + 1) 3 _ _ r1
        have p4 := frozen_of_row wr (w.heap.size + 1) 4 _ _ r1
        have p5 := frozen_of_row wr (w.heap.size + 1) 5 _ _ r1
        have p6 := frozen_of_row wr (w.heap.size + 1) 6 _ _ r1
        have p7 := frozen_of_row wr (w.heap.size + 1) 7 _ _ r1
        have p8 := frozen_of_row wr (w.heap.size + 1) 8 _ _ r1
        have p9 := frozen_of_row wr (w.heap.size + 1) 9 _ _ r1
        have p10 := frozen_of_row wr (w.heap.size + 1) 10 _ _ r1
        have l0 := lt_of_block r0
        have l1 := lt_of_block r1
        clear r0 r1
        go_wp2_with fail
        clear c0 c1 c2 c3 c4 c5 c6 c7 c8 c9 c10 z0 z1 z2 z3 z4 z5 z6 z7 z8 z9 z10 p0 p1 p2 p3 p4 p5 p6 p7 p8 p9 p10
        obtain ⟨hC, hK, hI⟩ := HK.out
        obtain ⟨hrow, hk'⟩ := stored11 (.int .i8 kind) (.string path) (.slice d0 d1 d2) (.slice a0 a1 a2) (.int .i32 ver) (.bool eph) (.bool seq) (.int .i64 ses) (.int .i32 tmo) (.slice e0 e1 e2) (.slice o0 k o2) hC.res
        have hs1 := hK.size
        have hs2 := hk'.size
        have h3s := H3s.out
        have h34 : W3.heap.size ≤ W4.heap.size := H34.out
        have hgk : ∀ q, q < W3.heap.size → ¬ (q = g ∨ W4.heap.size ≤ q) := fun q hq => by
          by_cases h0 : k = 0
          · have := HG.out.2 h0; omega
          · have := HG.out.1 (by omega); omega
        have hz1 := HZ1.out
        have hz2 := HZ2.out
        have hz3 := HZ3.out
        obtain ⟨hd1, hd2⟩ := H4.out.2.1
        obtain ⟨ha1, ha2⟩ := H4.out.2.2.1
        obtain ⟨hw1, hw2⟩ := H4.out.2.2.2.1
        have ho1 := H4.out.2.2.2.2
        obtain ⟨oc', fl', M, hro, hfl', hM0, hMm, hMt, hel⟩ : ∃ (oc' : Fin k → List Value) (fl' : List Value) (M : Nat → Nat), wr.ownsRow W3.heap.size 33 11 (.slice o0 k o2) k fl' ∧ (∀ (i : Fin k) j, j < 11 → fl'[i.1 * 11 + j]? = some ((oc' i).getD j (.bool false))) ∧ M 0 = W4.heap.size ∧ (∀ i, M i ≤ M (i + 1)) ∧ (∀ i, M i ≤ wr.heap.size) ∧ ∀ i : Fin k, OwnQ wr (M i.1) (M (i.1 + 1)) (oc' i) (ops i) := by
          by_cases h0 : k = 0
          · subst h0
            exact ⟨oc, (List.ofFn oc).flatten, fun _ => W4.heap.size, row_kept ho1 hK (fun q e e' => by have := row_lt ho1 e; have := HG.out.2 rfl; omega), fun i => i.elim0, rfl, fun _ => Nat.le_refl _, fun _ => hs1, fun i => i.elim0⟩
          · obtain ⟨rfl, hg1, hg2⟩ := HG.out.1 (by omega)
            obtain ⟨_, _, fl, E, h1, h2, ⟨M, m0, m1, m2, m3⟩, _⟩ := hI (by omega)
            exact ⟨fun i => E i.1, fl, M, row_lo h1 (fun q e => by cases e; exact hg1), fun i j hj => h2 i.1 i.2 j hj, m0, m1, m2, fun i => m3 i.1 i.2 i.2⟩
        have hMb : ∀ i, W4.heap.size ≤ M i := fun i => by
          induction i with
          | zero => omega
          | succ i ih => have := hMm i; omega
        have hln := HLen.out
        have hMk := hMt k
        have hR := (OwnQ.mk (w := _) ⟨kind, path, data, acl, ver, eph, seq, ses, tmo, who⟩ k ops (.slice d0 d1 d2) (.slice a0 a1 a2) (.slice e0 e1 e2) (.slice o0 k o2) oc' fl' w.heap.size wr.heap.size W1.heap.size W2.heap.size W3.heap.size M
          (row_lo (row_kept (row_kept hd1 hK (fun q e => hgk q (by have := hd2 q e; omega))) hk' (fun q e e' => by have := row_base hd1 e; omega)) (fun q e => by have := row_base hd1 e; omega))
          (row_kept (row_kept ha1 hK (fun q e => hgk q (by have := ha2 q e; omega))) hk' (fun q e e' => by have := row_base ha1 e; omega))
          (row_kept (row_kept hw1 hK (fun q e => hgk q (by have := hw2 q e; omega))) hk' (fun q e e' => by have := row_base hw1 e; omega))
          (row_kept hro hk' (fun q e e' => by have := row_base hro e; omega)) hfl' ⟨by show data.length ≤ _; omega, by show acl.length ≤ _; omega, by show who.length ≤ _; omega, by omega⟩ hd2 ha2 hw2
          (fun q e => by have := row_lt ho1 e; omega) ⟨by omega, hz2, hz3, by omega, hMk⟩ (fun i _ => hMm i)
          (fun i => OwnQ.kept hk' (hel i) (fun q q1 q2 e => by have := hMb i.1; omega))).mono (Nat.le_refl _) hs2
        have hld := run_loadVar_row (P := Tryz.prog) _ _ _ 33 _ _ _ hrow Tryz.underlying33 rfl rq_size
        refine bodyPost_ret (v := .agg (rqCells ⟨kind, path, data, acl, ver, eph, seq, ses, tmo, who⟩ (.slice d0 d1 d2) (.slice a0 a1 a2) (.slice e0 e1 e2) (.slice o0 k o2)).toArray) ?_ rfl ⟨_, rfl, hR, hC.bel.trans (hk'.below hC.bel.size (fun q e => by omega))⟩
        rw [resCell1 Tryz.results20]
        show ((asAddr (.pointer (some ⟨w.heap.size + 1, 0, none⟩))).run Tryz.prog _).andThen _ = _
        simp only [asAddr, Sem.run_pure, Result.andThen_ok, hld]
        rfl
end Go.Proofs.YtoeialngbbfoeaaGreatDoor
