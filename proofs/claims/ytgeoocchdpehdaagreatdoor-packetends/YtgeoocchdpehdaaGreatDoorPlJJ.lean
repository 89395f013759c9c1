import Derived.Test.YtgeoocchdpehdaaGreatDoorPlIJ
import Derived.Test.YtgeoocchdpehdaaGreatDoorPkRJ
namespace Go.Proofs.YtgeoocchdpehdaaGreatDoor
open Go.RowKit
set_option maxRecDepth 8000

set_option maxHeartbeats 8000000 in
theorem parsed_cut (p : PkD) (tz : Bool) (hz : tz = true ↔ p.tx = txN) (hg : p.good) (hby : Byts p.bys) (hc : chkP p tz = true) (rs0 tl : List Int) (hy : rs0 ++ tl = (fldsP p).flatMap (fun j => fdB j p)) (htl : tl ≠ []) (b : Value) (w : World) (hs : Sees w b (be4 (adler ([p.kind % 256] ++ rs0)) ++ ([p.kind % 256] ++ rs0))) (hn : Nam w) (hp : PNam w) :
    Calls Tryz.prog 27 #[b] w fun r w' => r = .panicked [{ v := .iface 102 (.agg #[]), recovered := false }] ∧ Below w.heap.size w w' := by
  have hall : bodyP p = [p.kind % 256] ++ (rs0 ++ tl) := by rw [hy]; rfl
  have hba : Byts (([p.kind % 256] ++ rs0) ++ tl) := by rw [List.append_assoc, ← hall]; exact body_byts p hg hby (chk_all hc)
  have hbb : Byts ([p.kind % 256] ++ rs0) := fun x hx => hba x (List.mem_append.2 (.inl hx))
  have had := adler_bd ([p.kind % 256] ++ rs0)
  have hpb : Byts (be4 (adler ([p.kind % 256] ++ rs0)) ++ ([p.kind % 256] ++ rs0)) := (byts4 _ had.1 had.2).append hbb
  have hlb : (be4 (adler ([p.kind % 256] ++ rs0)) ++ ([p.kind % 256] ++ rs0)).length = 5 + rs0.length := by simp [be4]; omega
  have hle : 1 + (rs0.length + tl.length) ≤ 8188 := by have a := body_le hc; rw [hall] at a; simp at a; omega
  have hL4 : 4 < (be4 (adler ([p.kind % 256] ++ rs0)) ++ ([p.kind % 256] ++ rs0)).length := by omega
  have hL5 : (be4 (adler ([p.kind % 256] ++ rs0)) ++ ([p.kind % 256] ++ rs0)).length ≤ 8192 := by omega
  clear hlb hle hba hall
  have HZ : Hid (rs0 ++ tl = (fldsP p).flatMap (fun j => fdB j p) ∧ tl ≠ [] ∧ Byts rs0) := ⟨hy, htl, hbb.right⟩
  have HX : Hid (p.good ∧ (tz = true ↔ p.tx = txN) ∧ chkP p tz = true ∧ Byts (be4 (adler ([p.kind % 256] ++ rs0)) ++ ([p.kind % 256] ++ rs0)) ∧ Byts ([p.kind % 256] ++ rs0) ∧ Nam w ∧ PNam w ∧ (∀ j ∈ fldsP p, rgB j p = true) ∧ Byts p.bys) := ⟨hg, hz, hc, hpb, hbb, hn, hp, chk_all hc, hby⟩
  obtain ⟨ao, cap, rfl, hcap, _⟩ := id hs
  obtain ⟨ua, m, uc, eP, hsu⟩ := cut4 hs (by omega)
  have hne : ([p.kind % 256] ++ rs0) ≠ [] := by simp
  have HSU : Hid (∀ k, (Value.slice ua m uc).ownBlock = some k → k < w.heap.size) := fun k e => hsu.lt hne k e
  clear hne
  obtain ⟨L, hL⟩ : ∃ L, L = ((be4 (adler ([p.kind % 256] ++ rs0)) ++ ([p.kind % 256] ++ rs0))).length := ⟨_, rfl⟩
  rw [← hL] at hs hL4 hL5 hcap eP ⊢
  obtain ⟨W, hW⟩ : ∃ W, W = w.alloc (.cells (zPk 0) 39) := ⟨_, rfl⟩
  have HW : Hid (Below w.heap.size w W ∧ W.heap[w.heap.size]? = some (.cells (zPk 0) 39 (0, 0)) ∧ Sees W (.slice ao L cap) ((be4 (adler ([p.kind % 256] ++ rs0)) ++ ([p.kind % 256] ++ rs0))) ∧ Sees W (.slice ua m uc) (([p.kind % 256] ++ rs0)) ∧ L = ((be4 (adler ([p.kind % 256] ++ rs0)) ++ ([p.kind % 256] ++ rs0))).length) := by
    have hb : Below w.heap.size w W := by rw [hW]; exact one_alloc _ _
    exact ⟨hb, by rw [hW]; exact heap_alloc_new _ _, hs.below hb (Nat.le_refl _), hsu.below hb (Nat.le_refl _), hL⟩
  have HA : Hid _ := hW
  have hd1 : decide ((L : Int) ≤ 8192) = true := decide_eq_true (by omega)
  have hd2 : decide ((4 : Int) < L) = true := decide_eq_true (by omega)
  clear hW hs hsu hn hp hz hg hc hby hbb hpb had hL hy htl
  go_enter Tryz.func27, Tryz.ntmps27
  go_upto_region 1 with fail
  rw [← HA.out]
  clear HA
  go_wp2_with fail
  refine (need_true _).mono ?_
  rintro _ w1 ⟨rfl, h1⟩
  rw [h1]
  clear h1 w1
  go_wp2_with fail
  refine (new_any _ ((be4 (adler ([p.kind % 256] ++ rs0)) ++ ([p.kind % 256] ++ rs0))) _ HW.out.2.2.1 (by have := HW.out.2.2.2.2; omega)).mono ?_
  rintro _ w2 ⟨g, v2, rfl, hR, hgl, ho, b2⟩
  have hsz := lt_of_block HW.out.2.1
  have H2 : Hid (PrH w g w2 ∧ IsR w2 g v2 (be4 (adler (([p.kind % 256] ++ rs0))) ++ ([p.kind % 256] ++ rs0)) 0 ∧ Sees w2 (.slice ua m uc) (([p.kind % 256] ++ rs0)) ∧ (∀ k, v2.ownBlock = some k → w.heap.size < k ∧ k < w2.heap.size)) := by
    have hb2 : Below w.heap.size w w2 := HW.out.1.trans (b2.mono HW.out.1.size)
    have l1 := HX.out.2.2.2.2.2.1.lt
    have l2 := HX.out.2.2.2.2.2.2.1.lt
    exact ⟨⟨hb2, (Below.kept b2).heap HW.out.2.1 (by omega), HX.out.2.2.2.2.2.1.below hb2 l1, HX.out.2.2.2.2.2.2.1.below hb2 l2, by omega, by omega, by omega⟩, hR, HW.out.2.2.2.1.below b2 (Nat.le_refl _), fun k e => by have := ho.lt k e; omega⟩
  clear hR hgl ho b2 HW hsz
  go_upto_region 3 with fail
  have HD : Hid (PrH w g w2.drew ∧ IsR w2.drew g v2 (be4 (adler (([p.kind % 256] ++ rs0))) ++ ([p.kind % 256] ++ rs0)) 0 ∧ Sees w2.drew (.slice ua m uc) (([p.kind % 256] ++ rs0))) := ⟨H2.out.1.later HX.out.2.2.2.2.2.1 HX.out.2.2.2.2.2.2.1 (below_drewN (Below.refl _ _) 1), H2.out.2.1.kept ((Kept.refl w2 (fun _ => False)).drewN 1) (fun h => h) (fun _ _ h => h), H2.out.2.2.1.below (below_drewN (Below.refl _ _) 1) (Nat.le_refl _)⟩
  refine wp_region_held_drew (S := (fun _ => True)) (by kernel_rfl) ?_ (fun hHeld => ?_)
  · trivial
  refine wpAnyH_take (i := 0) (oi := ⟨some 18, .move (.tmp 3), 87, "packet.go:62", #[], none⟩) (v := ?_) rfl (by kernel_rfl) (by kernel_rfl) (by kernel_rfl) (fun _ _ _ h => h) (Or.inl ⟨by rfl, ?_⟩) (by assumption) ?_
  rotate_left
  · (intro w hSw; (try dsimp only at hSw); go_simp) <;> with_reducible rfl
  try simp only [Act.put, List.setIfInBounds_toArray, List.set_cons_zero, List.set_cons_succ]
  refine wpAnyH_take (i := 2) (oi := ⟨some 20, .move (.tmp 0), 30, "packet.go:62", #[], none⟩) (v := ?_) rfl (by kernel_rfl) (by kernel_rfl) (by kernel_rfl) (fun _ _ _ h => h) (Or.inl ⟨by rfl, ?_⟩) (by assumption) ?_
  rotate_left
  · (intro w hSw; (try dsimp only at hSw); go_simp) <;> with_reducible rfl
  try simp only [Act.put, List.setIfInBounds_toArray, List.set_cons_zero, List.set_cons_succ]
  refine wpAnyH_take (i := 3) (oi := ⟨some 21, .slice 30 (.tmp 20) (some (.const (.int .i64 4))) none none, 30, "packet.go:62", #[⟨2, .data⟩], none⟩) (v := .slice ua m uc) rfl (by kernel_rfl) (by kernel_rfl) (by kernel_rfl) (fun _ _ _ h => h) (Or.inl ⟨by rfl, fun w' hSw => by rw [← eP]; go_simp; intro hlt; omega⟩) (by assumption) ?_
  try simp only [Act.put, List.setIfInBounds_toArray, List.set_cons_zero, List.set_cons_succ]
  refine wpAnyH_ready (rs := [1]) (by kernel_rfl) (by simp) ?_
  refine AllReadyH.cons (o := { dst := some 19, op := Op.call { callee := Callee.value (Operand.func 43), args := #[Operand.tmp 18], argTypes := #[87] }, type := 23, pos := "packet.go:62", after := #[{ on := 0, ground := Ground.data }], guard := none }) rfl (fun K hK => ?_) AllReadyH.nil
  go_simp
  refine (gU32 (g := g) (v := v2) (w := w2.drew) (adler (([p.kind % 256] ++ rs0))) HD.out.2.1 HX.out.2.2.2.1).mono ?_
  rintro _ w3 ⟨rfl, v3, h1, h2, h3⟩
  have H3 : Hid (PrH w g w3 ∧ IsR w3 g v3 (([p.kind % 256] ++ rs0)) 0 ∧ Sees w3 (.slice ua m uc) (([p.kind % 256] ++ rs0)) ∧ (∀ k, v3.ownBlock = some k → w.heap.size < k ∧ k < w2.heap.size) ∧ w2.heap.size ≤ w3.heap.size) := ⟨HD.out.1.kept HX.out.2.2.2.2.2.1 HX.out.2.2.2.2.2.2.1 h3 (fun k e => by have := HD.out.1.gl; omega), h1, HD.out.2.2.kept h3 (fun k e e2 => by have := HSU.out k e; have := HD.out.1.gl; omega), fun k e => H2.out.2.2.2 k (h2 k e), by have := h3.size; simpa using this⟩
  clear h1 h2 h3
  refine hK.out _ _ trivial (fun hHeld => ?_)
  clear hK K
  refine wpAnyH_ready (rs := [4]) (by kernel_rfl) (by simp) ?_
  refine AllReadyH.cons (o := { dst := some 22, op := Op.call { callee := Callee.value (Operand.func 16), args := #[Operand.tmp 21], argTypes := #[30] }, type := 23, pos := "packet.go:62", after := #[{ on := 3, ground := Ground.data }, { on := 1, ground := Ground.chain }], guard := none }) rfl (fun K hK => ?_) AllReadyH.nil
  go_simp
  refine (packSum_any _ (([p.kind % 256] ++ rs0)) _ H3.out.2.2.1 HX.out.2.2.2.2.1).mono ?_
  rintro _ w4 ⟨rfl, h4⟩
  rw [h4]
  clear h4 w4
  refine hK.out _ _ trivial (fun hHeld => ?_)
  clear hK K
  refine wpAnyH_take (i := 5) (oi := ⟨some 23, .binOp .eql 23 (.tmp 19) (.tmp 22) 23, 4, "packet.go:62", #[⟨1, .data⟩, ⟨4, .data⟩], none⟩) (v := ?_) rfl (by kernel_rfl) (by kernel_rfl) (by kernel_rfl) (fun _ _ _ h => h) (Or.inl ⟨by rfl, ?_⟩) (by assumption) ?_
  rotate_left
  · (intro w hSw; (try dsimp only at hSw); go_simp) <;> with_reducible rfl
  try simp only [Act.put, List.setIfInBounds_toArray, List.set_cons_zero, List.set_cons_succ]
  refine wpAnyH_ready (rs := [6]) (by kernel_rfl) (by simp) ?_
  refine AllReadyH.cons (o := { dst := some 24, op := Op.call { callee := Callee.value (Operand.func 41), args := #[Operand.tmp 23], argTypes := #[4] }, type := 0, pos := "packet.go:62", after := #[{ on := 5, ground := Ground.data }, { on := 4, ground := Ground.chain }], guard := none }) rfl (fun K hK => ?_) AllReadyH.nil
  go_simp
  refine (need_true _).mono ?_
  rintro _ w4 ⟨rfl, h4⟩
  rw [h4]
  clear h4 w4
  refine hK.out _ _ trivial (fun hHeld => ?_)
  clear hK K
  refine wpAnyH_done (by kernel_rfl) ?_ _
  clear hHeld HD H2 eP
  go_wp2_with fail
  refine (gI8 (g := g) (v := v3) (w := w3) (rest := rs0) p.kind H3.out.2.1 HX.out.2.2.2.2.1 HX.out.1.k0 HX.out.1.k1).mono ?_
  rintro _ w5 ⟨rfl, v5, h1, h2, h3⟩
  obtain ⟨q, hq⟩ : ∃ q, q = w5.heap.size := ⟨_, rfl⟩
  have s1 : (w5.alloc (.cells (zPk 0) 39)).heap[w5.heap.size]? = some (.cells (zPk 0) 39 (0, 0)) := heap_alloc_new _ _
  obtain ⟨V, hV⟩ : ∃ V, V = (w5.alloc (.cells (zPk 0) 39)).setRow w5.heap.size (zPk p.kind) := ⟨_, rfl⟩
  have H5 : Hid (PrH w g V ∧ IsR V g v5 rs0 0 ∧ InPk V g q w.heap.size zTx.toList (.slice none 0 0) (pkZ p.kind) ∧ g ≠ q ∧ (∀ k, v5.ownBlock = some k → k ≠ q ∧ w.heap.size < k) ∧ w.heap.size < q) := by
    have hP := H3.out.1.kept HX.out.2.2.2.2.2.1 HX.out.2.2.2.2.2.2.1 h3 (fun k e => by have := H3.out.1.gl; omega)
    have hgs := lt_of_block h1.1
    have hs5 := h3.size
    have hw5 := lt_of_block hP.res
    have ks : Kept (w5.alloc (.cells (zPk 0) 39)) V (fun k => k = w5.heap.size) := by rw [hV]; exact ⟨rfl, rfl, rfl, by simp, fun k _ hn => setRow_other _ _ _ _ hn⟩
    have k5 : Kept w5 V (fun _ => False) := ((Kept.refl w5 (fun _ => False)).alloc _).trans ks (fun k hk e => by omega)
    have hat : PkAt V q (pkZ p.kind) zTx.toList (.slice none 0 0) := by rw [hV, hq]; unfold PkAt; rw [← zPk_is]; exact setRow_heap _ _ _ _ _ _ s1
    refine ⟨hP.kept HX.out.2.2.2.2.2.1 HX.out.2.2.2.2.2.2.1 k5 (fun k e => False.elim e), h1.kept k5 (fun h => h) (fun _ _ h => h), ⟨hat, ⟨zRq.toList, rfl, rqN_in _ _⟩, sees_nil _, fun k e => by simp [Value.ownBlock] at e⟩, by omega, fun k e => ⟨by have := (H3.out.2.2.2.1 k (h2 k e)).2; have := H3.out.2.2.2.2; omega, (H3.out.2.2.2.1 k (h2 k e)).1⟩, by omega⟩
  have HV : Hid (V = (w5.alloc (.cells (zPk 0) 39)).setRow w5.heap.size (zPk p.kind) ∧ q = w5.heap.size) := ⟨hV, hq⟩
  clear hV hq h1 h2 h3 H3
  have q32k : (Tryz.prog.info? 39).map (·.size) = some (zPk p.kind).size := pkSz0
  have u1k : (zPk p.kind).all (·.oneCell') = true := by simp [Value.oneCell']
  have szk : (zPk p.kind).size = (zPk 0).size := rfl
  go_upto_region 5 with (refine wpList_store_row rfl 39 _ _ rfl w5.heap.size (zPk p.kind) rfl rfl 39 _ s1 q32k szk u1k ?_)
  clear s1 q32k u1k szk
  rw [← HV.out.1, ← HV.out.2]
  clear HV
  have c0 : V.cell? ⟨q, 0, none⟩ = some (.int .i8 p.kind) := pk_at H5.out.2.2.1.at_ rfl
  go_wp2_with fail
  refine (namedBy_any _ _ H5.out.1.pnam).mono ?_
  rintro _ w6 ⟨rfl, b6⟩
  have H6 : Hid (PrH w g w6 ∧ IsR w6 g v5 rs0 0 ∧ InPk w6 g q w.heap.size zTx.toList (.slice none 0 0) (pkZ p.kind) ∧ g ≠ q ∧ (∀ k, v5.ownBlock = some k → k ≠ q ∧ w.heap.size < k) ∧ w.heap.size < q) := pr_later HX.out.2.2.2.2.2.1 HX.out.2.2.2.2.2.2.1 H5.out b6
  clear b6 H5 c0
  obtain ⟨N, hN⟩ : ∃ N, N = nmP p.kind := ⟨_, rfl⟩
  rw [← hN]
  have HN : Hid _ := hN
  clear hN
  go_wp2_with fail
  refine (rowsOf_any N _).mono ?_
  rintro _ w7 ⟨rv, rfl, ho, b7⟩
  have H7 : Hid ((PrH w g w7 ∧ IsR w7 g v5 rs0 0 ∧ InPk w7 g q w.heap.size zTx.toList (.slice none 0 0) (pkZ p.kind) ∧ g ≠ q ∧ (∀ k, v5.ownBlock = some k → k ≠ q ∧ w.heap.size < k) ∧ w.heap.size < q) ∧ SeesR w7 rv 4 ((flN N 12).map rowC) ∧ (∀ k, rv.ownBlock = some k → k ≠ g ∧ k ≠ q)) := by
    refine ⟨pr_later HX.out.2.2.2.2.2.1 HX.out.2.2.2.2.2.2.1 H6.out b7, rows_sees ho, fun k hk => ?_⟩
    have := (ho.lt k hk).1
    have := lt_of_block H6.out.2.1.1
    have := H6.out.2.2.1.at_.lt
    exact ⟨by omega, by omega⟩
  have hlen := flN_len N 12
  obtain ⟨LL, hLL⟩ : ∃ LL, LL = flN N 12 := ⟨_, rfl⟩
  have HL : Hid (LL = fldsP p) := by show LL = fldsP p; rw [hLL, HN.out]
  rw [← hLL] at H7 hlen
  clear ho b7 H6 hLL HN
  obtain ⟨va, vc, rfl⟩ : ∃ va vc, rv = .slice va LL.length vc := by obtain ⟨ao, c, e, _⟩ := H7.out.2.1; rw [List.length_map] at e; exact ⟨ao, c, e⟩
  go_wp2_with fail
  go_loopw [33] (fun i wr => ∃ (k : Nat) (v : Value) (tc : List Value) (bv : Value) (rs : List Int), k ≤ LL.length ∧ i = .int .i64 k ∧ Hid (rs ++ tl = (LL.drop k).flatMap (fun j => fdB j p) ∧ Byts rs) ∧ Hid ((PrH w g wr ∧ IsR wr g v rs 0 ∧ InPk wr g q w.heap.size tc bv ((LL.take k).foldl (fun d j => setF j p d) (pkZ p.kind)) ∧ g ≠ q ∧ (∀ k, v.ownBlock = some k → k ≠ q ∧ w.heap.size < k) ∧ w.heap.size < q) ∧ SeesR wr (.slice va LL.length vc) 4 (LL.map rowC) ∧ (∀ k, (Value.slice va LL.length vc).ownBlock = some k → k ≠ g ∧ k ≠ q))) (fun i _ => LL.length - (intOf i).toNat)
  case atStart =>
    refine ⟨0, v5, zTx.toList, .slice none 0 0, rs0, Nat.zero_le _, rfl, ?_, H7.out⟩
    refine ⟨?_, HZ.out.2.2⟩
    rw [List.drop_zero, HL.out]
    exact HZ.out.1
  case round =>
    clear H7
    obtain ⟨k, v, tc, bv, rs, hk, rfl, HS, H⟩ := hrel
    by_cases hlt : k < LL.length
    · obtain ⟨b, off, c, e, hcl, c0, c1, c2, c3⟩ := rows_at H.out.2.1 k hlt
      simp at e
      obtain ⟨rfl, rfl⟩ := e
      obtain ⟨j, hj⟩ : ∃ j, j = LL[k] := ⟨_, rfl⟩
      rw [← hj] at c0 c1 c2 c3
      have HJ : Hid (j = LL[k] ∧ j ∈ LL) := ⟨hj, by rw [hj]; exact List.getElem_mem _⟩
      clear hj
      have hsf := store_fn15
      obtain ⟨V8, HV8⟩ : ∃ V8, Hid (V8 = wr.alloc (.cells #[.int .u16 (pw j), .func (.func (fRt j)) #[] #[], .func (.func (fPt j)) #[] #[], .func (.func (fGt j)) #[] #[]] 79)) := ⟨_, rfl⟩
      have H8 : Hid ((PrH w g V8 ∧ IsR V8 g v rs 0 ∧ InPk V8 g q w.heap.size tc bv ((LL.take k).foldl (fun d j => setF j p d) (pkZ p.kind)) ∧ g ≠ q ∧ (∀ k, v.ownBlock = some k → k ≠ q ∧ w.heap.size < k) ∧ w.heap.size < q) ∧ SeesR V8 (.slice (some ⟨b, off, none⟩) LL.length vc) 4 (LL.map rowC) ∧ (∀ k, (Value.slice (some ⟨b, off, none⟩) LL.length vc).ownBlock = some k → k ≠ g ∧ k ≠ q) ∧ V8.heap[wr.heap.size]? = some (.cells (rowC j).toArray 79 (0, 0))) := by
        rw [HV8.out]
        have a := H.out.1
        exact ⟨pr_later HX.out.2.2.2.2.2.1 HX.out.2.2.2.2.2.2.1 a (one_alloc _ _), H.out.2.1.below (one_alloc _ _) (Nat.le_refl _), H.out.2.2, heap_alloc_new _ _⟩
      go_upto_region 8 with fail
      rw [← HV8.out]
      clear HV8 c0 c1 c2 c3 H hsf
      have d1 : V8.cell? ⟨wr.heap.size, 3, none⟩ = some (fv (fGt j)) := pk_at H8.out.2.2.2 rfl
      have hen := enter_fGt j
      go_wp2_with fail
      have hrj : rgB j p = true := HX.out.2.2.2.2.2.2.2.1 j (by rw [← HL.out]; exact HJ.out.2)
      have hfl : rs ++ tl = fdB j p ++ (LL.drop (k + 1)).flatMap (fun j => fdB j p) := by
        have a := HS.out.1
        rw [List.drop_eq_getElem_cons hlt, List.flatMap_cons, ← HJ.out.1] at a
        exact a
      by_cases hfit : (fdB j p).length ≤ rs.length
      · obtain ⟨rs', hrs⟩ : fdB j p <+: rs := List.prefix_of_prefix_length_le ⟨_, hfl.symm⟩ ⟨tl, rfl⟩ hfit
        have HS' : Hid (rs' ++ tl = (LL.drop (k + 1)).flatMap (fun j => fdB j p) ∧ Byts rs') := by
          refine ⟨?_, ?_⟩
          · rw [← hrs, List.append_assoc] at hfl
            exact List.append_cancel_left hfl
          · have a := HS.out.2
            rw [← hrs] at a
            exact a.right
        have hbj : Byts (fdB j p ++ rs') := by rw [hrs]; exact HS.out.2
        refine (get_any j p g q w.heap.size v _ tc bv rs' V8 HX.out.1 hrj H8.out.1.1.nam H8.out.1.1.ng (lt_of_block H8.out.1.1.res) (by rw [hrs]; exact H8.out.1.2.1) hbj H8.out.1.2.2.1 H8.out.1.2.2.2.1 H8.out.1.2.2.2.2.1).mono ?_
        rintro _ w9 ⟨rfl, tc9, bv9, v9, hi9, hR9, hv9, hk9⟩
        have H9 : Hid ((PrH w g w9 ∧ IsR w9 g v9 rs' 0 ∧ InPk w9 g q w.heap.size tc9 bv9 ((LL.take (k + 1)).foldl (fun d j => setF j p d) (pkZ p.kind)) ∧ g ≠ q ∧ (∀ k, v9.ownBlock = some k → k ≠ q ∧ w.heap.size < k) ∧ w.heap.size < q) ∧ SeesR w9 (.slice (some ⟨b, off, none⟩) LL.length vc) 4 (LL.map rowC) ∧ (∀ k, (Value.slice (some ⟨b, off, none⟩) LL.length vc).ownBlock = some k → k ≠ g ∧ k ≠ q)) := by
          have hgl := H8.out.1.1.gl
          have hql := H8.out.1.2.2.2.2.2
          refine ⟨⟨H8.out.1.1.kept HX.out.2.2.2.2.2.1 HX.out.2.2.2.2.2.2.1 hk9 (fun k e => by omega), hR9, ?_, H8.out.1.2.2.2.1, fun k e => H8.out.1.2.2.2.2.1 k (hv9 k e), hql⟩, H8.out.2.1.kept hk9 (fun k e e2 => ?_), H8.out.2.2.1⟩
          · rw [List.take_succ_eq_append_getElem hlt, List.foldl_append, ← HJ.out.1]
            exact hi9
          · have := H8.out.2.2.1 k e
            omega
        clear hi9 hR9 hv9 hk9 H8 d1 hen hrj hbj hfl hfit hrs HS
        go_wp2_with fail
        refine (rErr_any g v9 _ 0 _ H9.out.1.2.1).mono ?_
        rintro _ w10 ⟨rfl, h10⟩
        rw [h10]
        clear h10 w10
        go_wp2_with fail
        refine (need_true _).mono ?_
        rintro _ w10 ⟨rfl, h10⟩
        rw [h10]
        clear h10 w10
        go_wp2_with fail
        go_roundw
        case rel => exact ⟨k + 1, v9, tc9, bv9, rs', by omega, by go_num, HS', H9⟩
        case measure => simp [intOf]; omega
      · have hpre : rs <+: fdB j p := List.prefix_of_prefix_length_le ⟨tl, rfl⟩ ⟨_, hfl.symm⟩ (by omega)
        have hgl := H8.out.1.1.gl
        have hql := H8.out.1.2.2.2.2.2
        refine (sh_any j p g q w.heap.size v _ tc bv rs V8 hrj H8.out.1.1.nam H8.out.1.1.ng hpre (by omega) H8.out.1.2.1 HS.out.2 H8.out.1.2.2.1 H8.out.1.2.2.2.1 H8.out.1.2.2.2.2.1).mono ?_
        rintro _ w9 (⟨rfl, v9, xs9, f9, hR9, hf9, hk9⟩ | ⟨rfl, hk9⟩)
        · have H9 : Hid (PrH w g w9 ∧ IsR w9 g v9 xs9 f9) := ⟨H8.out.1.1.kept HX.out.2.2.2.2.2.1 HX.out.2.2.2.2.2.2.1 hk9 (fun k e => by omega), hR9⟩
          have hfe : (f9 == 0) = false := by simpa using hf9
          clear hR9 hk9 H8 d1 hen hrj hfl hfit hpre HS hgl hql hf9
          go_wp2_with fail
          refine (rErr_any g v9 _ f9 _ H9.out.2).mono ?_
          rintro _ w10 ⟨rfl, h10⟩
          rw [h10]
          clear h10 w10
          go_wp2_with fail
          refine (need_false _).mono ?_
          rintro _ w10 ⟨rfl, h10⟩
          rw [h10]
          clear h10 w10
          exact ⟨rfl, rfl, H9.out.1.bel⟩
        · have H9 : Hid (PrH w g w9) := H8.out.1.1.kept HX.out.2.2.2.2.2.1 HX.out.2.2.2.2.2.2.1 hk9 (fun k e => by omega)
          exact ⟨rfl, rfl, H9.out.bel⟩
    · obtain rfl : k = LL.length := by omega
      exfalso
      have a := HS.out.1
      rw [List.drop_length, List.flatMap_nil] at a
      exact HZ.out.2.1 (List.append_eq_nil_iff.1 a).2
end Go.Proofs.YtgeoocchdpehdaaGreatDoor
