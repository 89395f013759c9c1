/- The walk of LearnNone. -/
import Derived.Test.YtgjjcmhlmdfccaaGreatDoorLnMJ
import Derived.Test.YtgjjcmhlmdfccaaGreatDoorLnNJ
import Derived.Test.YtgjjcmhlmdfccaaGreatDoorLargeTJ
namespace Go.Proofs.YtgjjcmhlmdfccaaGreatDoor
open Go.RowKit
set_option maxRecDepth 8000
set_option linter.unusedSimpArgs false
set_option linter.unusedVariables false

def brL : List Value := brZ.toList

set_option maxHeartbeats 4000000 in
theorem none_walk17 (q : PkD) (tc : List Value) (bv : Value) (w : World) (hg : q.good) (hs : SeesPk w tc bv q) (hn : Nam w) (hpn : PNam w) :
    Calls Tryz.prog 3 #[.agg (pkL q tc bv).toArray] w fun r w' => r = .returned (.bool true) ∧ Below w.heap.size w w' := by
  have hc16 := hs.tx.len
  have HT : Hid (Nam w ∧ PNam w) := ⟨hn, hpn⟩
  obtain ⟨V, hV⟩ : ∃ V, V = w.alloc (.cells (pkL q tc bv).toArray 39) := ⟨_, rfl⟩
  have hbV : Below w.heap.size w V := by rw [hV]; exact one_alloc _ _
  have rV : PkAt V w.heap.size q tc bv := by rw [hV]; exact heap_alloc_new _ _
  obtain ⟨rc, hrc, hrq⟩ := hs.tx
  have gV : V.rangeAt w.heap.size 19 rc := fun j u hj => by
    have := (PkAt.tail rV hc16).1 (5 + j) u (by rw [hrc, List.getElem?_append_right (by simp [txHead])]; simpa [txHead] using hj)
    rw [show 14 + (5 + j) = 19 + j by omega] at this
    exact this
  have q11 : (Tryz.prog.info? 35).map (·.size) = some rc.length := by rw [hrq.len]; kernel_rfl
  have HLg : Hid _ := large_any q.tx.rq rc V (hrq.later hbV (Nat.le_refl _)) hg.tx.rq
  obtain ⟨cs, hcs⟩ : ∃ cs, cs = pkL q tc bv := ⟨_, rfl⟩
  have q32 : (Tryz.prog.info? 39).map (·.size) = some cs.toArray.size := by
    have : cs.toArray.size = 32 := by rw [hcs]; simp [pkL, hc16]
    rw [this]; exact pkSz9
  have rV' : V.heap[w.heap.size]? = some (.cells cs.toArray 39 (0, 0)) := by rw [hcs]; exact rV
  have HEV : Hid (V = w.alloc (.cells cs.toArray 39)) := by rw [hcs]; exact hV
  have HV : Hid (Below w.heap.size w V ∧ V.heap[w.heap.size]? = some (.cells cs.toArray 39 (0, 0))) := ⟨hbV, rV'⟩
  rw [← hcs]
  clear hV hbV rV hs hcs hrc hrq hg hn hpn rV'
  go_enter Tryz.func3, Tryz.ntmps3
  go_upto_region 1 with fail
  rw [← HEV.out]
  clear HEV
  go_wp2_with (refine wpList_load_mid rfl 35 _ rfl w.heap.size 19 rfl rc _ gV Tryz.underlying35 rfl q11 ?_)
  go_at_call 4
  refine Calls.mono HLg.out ?_
  rintro _ w1 ⟨bl, rfl, _, b1⟩
  have H1 : Hid (Below w.heap.size w w1 ∧ w1.heap[w.heap.size]? = some (.cells cs.toArray 39 (0, 0))) := ⟨HV.out.1.trans (b1.mono HV.out.1.size), (b1.block _ (lt_of_block HV.out.2)).trans HV.out.2⟩
  clear b1 HV gV q11 HLg
  cases bl
  case true =>
    go_wp2_with fail
    go_at_call 5
    refine (lives17 w1 (HT.out.1.below H1.out.1 HT.out.1.lt) (HT.out.2.below H1.out.1 HT.out.2.lt)).mono ?_
    rintro _ w2 ⟨rfl, b2⟩
    have H2 : Hid (Below w.heap.size w w2) := H1.out.1.trans (b2.mono H1.out.1.size)
    clear b2 H1
    go_wp2
    go_ret
    exact ⟨rfl, H2.out⟩
  case false =>
    obtain ⟨w2, hw2⟩ : ∃ w2, w2 = w1.alloc (.cells (lnR 0 (.slice none 0 0) .nilFunc .nilIface (.slice none 0 0) false) 49) := ⟨_, rfl⟩
    have HE2 : Hid (w2 = w1.alloc (.cells (lnR 0 (.slice none 0 0) .nilFunc .nilIface (.slice none 0 0) false) 49)) := hw2
    have b12 : Below w1.heap.size w1 w2 := by rw [hw2]; exact one_alloc _ _
    obtain ⟨bm, hbm⟩ : ∃ bm, bm = w1.heap.size := ⟨_, rfl⟩
    have HBM : Hid (bm = w1.heap.size) := hbm
    have m2 : NoLn w2 (.pointer (some ⟨bm, 0, none⟩)) := .inr ⟨bm, 0, .slice none 0 0, .nilIface, .slice none 0 0, false, rfl, by rw [hw2, hbm]; exact heap_alloc_new _ _⟩
    have H2 : Hid (Below w.heap.size w w2 ∧ NoLn w2 (.pointer (some ⟨bm, 0, none⟩)) ∧ w2.heap[w.heap.size]? = some (.cells cs.toArray 39 (0, 0))) := ⟨H1.out.1.trans (b12.mono H1.out.1.size), m2, (b12.block _ (lt_of_block H1.out.2)).trans H1.out.2⟩
    clear hw2 b12 hbm m2 H1
    go_upto_region 5 with fail
    rw [← HE2.out, ← HBM.out]
    clear HE2 HBM
    have r2 := H2.out.2.2
    go_wp2_with (refine wpList_load_row rfl 39 _ rfl w.heap.size rfl 39 _ (0, 0) _ r2 Tryz.underlying39 rfl q32 ?_)
    go_at_call 6
    refine (take_none (w := w2) (.inl rfl) cs.toArray).mono ?_
    rintro _ w3 ⟨rfl, b3⟩
    have H3 : Hid (Below w.heap.size w w3 ∧ NoLn w3 (.pointer (some ⟨bm, 0, none⟩)) ∧ w3.heap[w.heap.size]? = some (.cells cs.toArray 39 (0, 0))) := ⟨H2.out.1.trans (b3.mono H2.out.1.size), H2.out.2.1.later b3, (b3.block _ (lt_of_block H2.out.2.2)).trans H2.out.2.2⟩
    clear b3 H2 r2
    have r3 := H3.out.2.2
    go_wp2_with (refine wpList_load_row rfl 39 _ rfl w.heap.size rfl 39 _ (0, 0) _ r3 Tryz.underlying39 rfl q32 ?_)
    go_at_call 6
    refine (take_none H3.out.2.1 cs.toArray).mono ?_
    rintro _ w4 ⟨rfl, b4⟩
    have H4 : Hid (Below w.heap.size w w4 ∧ NoLn w4 (.pointer (some ⟨bm, 0, none⟩))) := ⟨H3.out.1.trans (b4.mono H3.out.1.size), H3.out.2.1.later b4⟩
    clear b4 H3 r3 q32
    go_wp2_with fail
    go_at_call 7
    refine (brought_none (w := w4) (.inl rfl)).mono ?_
    rintro _ w5 ⟨rfl, b5⟩
    obtain ⟨w6, hw6⟩ : ∃ w6, w6 = w5.alloc (.cells brZ 54) := ⟨_, rfl⟩
    have HE6 : Hid (w6 = w5.alloc (.cells brZ 54)) := hw6
    obtain ⟨b9, hb9⟩ : ∃ b9, b9 = w5.heap.size := ⟨_, rfl⟩
    have HB9 : Hid (b9 = w5.heap.size) := hb9
    have b56 : Below w5.heap.size w5 w6 := by rw [hw6]; exact one_alloc _ _
    have r6 : w6.heap[b9]? = some (.cells brZ 54 (0, 0)) := by rw [hw6, hb9]; exact heap_alloc_new _ _
    have b46 := b5.trans (b56.mono b5.size)
    have H6 : Hid (Below w.heap.size w w6 ∧ NoLn w6 (.pointer (some ⟨bm, 0, none⟩)) ∧ w6.heap[b9]? = some (.cells brZ 54 (0, 0))) := ⟨H4.out.1.trans (b46.mono H4.out.1.size), H4.out.2.later b46, r6⟩
    clear hw6 hb9 b56 r6 b46 b5 H4
    go_upto_region 8 with fail
    rw [← HE6.out, ← HB9.out]
    clear HE6 HB9
    go_wp2_with fail
    go_at_call 7
    refine (brought_none H6.out.2.1).mono ?_
    rintro _ w7 ⟨rfl, b7⟩
    obtain ⟨wz, hwz⟩ : ∃ wz, wz = ((w7.alloc (.cells brZ 54)).alloc (.cells brZ 54)).alloc (.cells #[.int .u32 0, .int .u32 0] 27) := ⟨_, rfl⟩
    have HEz : Hid (wz = ((w7.alloc (.cells brZ 54)).alloc (.cells brZ 54)).alloc (.cells #[.int .u32 0, .int .u32 0] 27)) := hwz
    obtain ⟨b11, hb11⟩ : ∃ b11, b11 = w7.heap.size := ⟨_, rfl⟩
    obtain ⟨b13, hb13⟩ : ∃ b13, b13 = w7.heap.size + 1 := ⟨_, rfl⟩
    obtain ⟨b14, hb14⟩ : ∃ b14, b14 = w7.heap.size + 1 + 1 := ⟨_, rfl⟩
    have HBs : Hid (b11 = w7.heap.size ∧ b13 = w7.heap.size + 1 ∧ b14 = w7.heap.size + 1 + 1) := ⟨hb11, hb13, hb14⟩
    have b7z : Below w7.heap.size w7 wz := by rw [hwz]; exact ((one_alloc w7 (.cells brZ 54 (0, 0))).alloc (by simp <;> omega) _).alloc (by simp <;> omega) _
    have z11 : wz.heap[b11]? = some (.cells brZ 54 (0, 0)) := by rw [hwz, hb11, Below.heap_alloc _ _ _ (by simp <;> omega), Below.heap_alloc _ _ _ (by simp <;> omega)]; exact heap_alloc_new _ _
    have z13 : wz.heap[b13]? = some (.cells brZ 54 (0, 0)) := by
      rw [hwz, hb13, Below.heap_alloc _ _ _ (by simp)]
      have := heap_alloc_new (w7.alloc (.cells brZ 54)) (.cells brZ 54 (0, 0)); simpa using this
    have z14 : wz.heap[b14]? = some (.cells #[.int .u32 0, .int .u32 0] 27 (0, 0)) := by
      rw [hwz, hb14]
      have := heap_alloc_new ((w7.alloc (.cells brZ 54)).alloc (.cells brZ 54)) (.cells #[.int .u32 0, .int .u32 0] 27 (0, 0)); simpa using this
    have b6z := b7.trans (b7z.mono b7.size)
    have z9 := (b6z.block _ (lt_of_block H6.out.2.2)).trans H6.out.2.2
    have hrow : ∀ (W : World) (b : Nat), W.heap[b]? = some (.cells brZ 54 (0, 0)) → W.rangeAt b 0 brL := fun W b hb j u hj => by
      rw [Nat.zero_add, cell_of_row _ _ _ _ _ _ hb, ← Array.getElem?_toList]; exact hj
    have HS : Hid (∀ W, Below wz.heap.size wz W → W.rangeAt b9 0 brL ∧ W.rangeAt b11 0 brL ∧ W.rangeAt b13 0 brL ∧ W.cell? ⟨b14, 0, none⟩ = some (.int .u32 0) ∧ W.cell? ⟨b14, 1, none⟩ = some (.int .u32 0)) := fun W hW =>
      ⟨hrow W b9 ((hW.block _ (lt_of_block z9)).trans z9), hrow W b11 ((hW.block _ (lt_of_block z11)).trans z11), hrow W b13 ((hW.block _ (lt_of_block z13)).trans z13), cell_later (cell_of_row _ _ 0 _ _ _ z14) hW (Nat.le_refl _), cell_later (cell_of_row _ _ 1 _ _ _ z14) hW (Nat.le_refl _)⟩
    have HZ : Hid (Below w.heap.size w wz ∧ NoLn wz (.pointer (some ⟨bm, 0, none⟩))) := ⟨H6.out.1.trans (b6z.mono H6.out.1.size), H6.out.2.1.later b6z⟩
    have hgz : Tryz.prog.eqGuardType Tryz.prog.depth 27 = false := by kernel_rfl
    have hqz := eqZx 0 0 0 0
    simp only [and_self, decide_true] at hqz
    clear hwz hb11 hb13 hb14 b7z z11 z13 z14 b6z z9 hrow b7 H6
    go_upto_region 11 with fail
    rw [← HEz.out, ← HBs.out.2.2, ← HBs.out.2.1, ← HBs.out.1]
    clear HEz HBs
    refine wp_region_held_drew (S := (fun W => W.rangeAt b9 0 brL ∧ W.rangeAt b11 0 brL ∧ W.rangeAt b13 0 brL ∧ W.cell? ⟨b14, 0, none⟩ = some (.int .u32 0) ∧ W.cell? ⟨b14, 1, none⟩ = some (.int .u32 0))) (by kernel_rfl) ?_ (fun hHeld => ?_)
    · exact HS.out _ (below_drewN (Below.refl _ _) 1)
    refine wpAnyH_ready (rs := [0]) (by kernel_rfl) (by simp) ?_
    refine AllReadyH.cons (o := { dst := some 46, op := Op.call { callee := Callee.value (Operand.func 5), args := #[], argTypes := #[] }, type := 4, pos := "law.go:376", after := #[], guard := none }) rfl (fun K hK => ?_) AllReadyH.nil
    go_simp
    refine (lives17 wz.drew (HT.out.1.below (HZ.out.1.trans ((below_drewN (Below.refl wz.heap.size wz) 1).mono HZ.out.1.size)) HT.out.1.lt) (HT.out.2.below (HZ.out.1.trans ((below_drewN (Below.refl wz.heap.size wz) 1).mono HZ.out.1.size)) HT.out.2.lt)).mono ?_
    rintro _ wa ⟨rfl, bq⟩
    have HBwa : Hid (Below wz.heap.size wz wa) := (below_drewN (Below.refl wz.heap.size wz) 1).trans bq
    clear bq
    refine hK.out _ _ (HS.out _ HBwa.out) (fun hHeld => ?_)
    clear hK K
    refine wpAnyH_take (i := 1) (oi := { dst := some 47, op := Op.move (Operand.tmp 46), type := 4, pos := "law.go:376", after := #[{ on := 0, ground := Ground.data }, { on := 0, ground := Ground.chain }], guard := none }) (v := ?_) rfl (by kernel_rfl) (by kernel_rfl) (by kernel_rfl) (fun _ _ _ h => h) (Or.inl ⟨by rfl, ?_⟩) (by assumption) ?_
    rotate_left
    · (intro w hSw; (try dsimp only at hSw); go_simp) <;> with_reducible rfl
    try simp only [Act.put, List.setIfInBounds_toArray, List.set_cons_zero, List.set_cons_succ]
    refine wpAnyH_take (i := 2) (oi := { dst := some 48, op := Op.move (Operand.tmp 5), type := 4, pos := "law.go:376", after := #[{ on := 1, ground := Ground.guard }], guard := some (1, true) }) (v := ?_) rfl (by kernel_rfl) (by kernel_rfl) (by kernel_rfl) (fun _ _ _ h => h) (Or.inl ⟨by rfl, ?_⟩) (by assumption) ?_
    rotate_left
    · (intro w hSw; (try dsimp only at hSw); go_simp) <;> with_reducible rfl
    try simp only [Act.put, List.setIfInBounds_toArray, List.set_cons_zero, List.set_cons_succ]
    refine wpAnyH_take (i := 3) (oi := { dst := some 49, op := Op.unOp UnOp.not 4 (Operand.tmp 48), type := 4, pos := "law.go:376", after := #[{ on := 2, ground := Ground.data }, { on := 1, ground := Ground.guard }], guard := some (1, true) }) (v := ?_) rfl (by kernel_rfl) (by kernel_rfl) (by kernel_rfl) (fun _ _ _ h => h) (Or.inl ⟨by rfl, ?_⟩) (by assumption) ?_
    rotate_left
    · (intro w hSw; (try dsimp only at hSw); go_simp) <;> with_reducible rfl
    try simp only [Act.put, List.setIfInBounds_toArray, List.set_cons_zero, List.set_cons_succ]
    refine wpAnyH_take (i := 4) (oi := { dst := some 50, op := Op.pick (Operand.tmp 47) (Operand.tmp 49) (Operand.const (Value.bool false)), type := 4, pos := "law.go:376", after := #[{ on := 1, ground := Ground.data }, { on := 3, ground := Ground.data }], guard := none }) (v := ?_) rfl (by kernel_rfl) (by kernel_rfl) (by kernel_rfl) (fun _ _ _ h => h) (Or.inl ⟨by rfl, ?_⟩) (by assumption) ?_
    rotate_left
    · (intro w hSw; (try dsimp only at hSw); go_simp) <;> with_reducible rfl
    try simp only [Act.put, List.setIfInBounds_toArray, List.set_cons_zero, List.set_cons_succ]
    refine wpAnyH_take (i := 5) (oi := { dst := some 51, op := Op.move (Operand.tmp 50), type := 4, pos := "law.go:376", after := #[{ on := 4, ground := Ground.data }, { on := 1, ground := Ground.chain }], guard := none }) (v := ?_) rfl (by kernel_rfl) (by kernel_rfl) (by kernel_rfl) (fun _ _ _ h => h) (Or.inl ⟨by rfl, ?_⟩) (by assumption) ?_
    rotate_left
    · (intro w hSw; (try dsimp only at hSw); go_simp) <;> with_reducible rfl
    try simp only [Act.put, List.setIfInBounds_toArray, List.set_cons_zero, List.set_cons_succ]
    refine wpAnyH_take (i := 6) (oi := { dst := some 52, op := Op.move (Operand.tmp 7), type := 4, pos := "law.go:376", after := #[{ on := 5, ground := Ground.guard }], guard := some (5, true) }) (v := ?_) rfl (by kernel_rfl) (by kernel_rfl) (by kernel_rfl) (fun _ _ _ h => h) (Or.inl ⟨by rfl, ?_⟩) (by assumption) ?_
    rotate_left
    · (intro w hSw; (try dsimp only at hSw); go_simp) <;> with_reducible rfl
    try simp only [Act.put, List.setIfInBounds_toArray, List.set_cons_zero, List.set_cons_succ]
    refine wpAnyH_take (i := 7) (oi := { dst := some 53, op := Op.unOp UnOp.not 4 (Operand.tmp 52), type := 4, pos := "law.go:376", after := #[{ on := 6, ground := Ground.data }, { on := 5, ground := Ground.guard }], guard := some (5, true) }) (v := ?_) rfl (by kernel_rfl) (by kernel_rfl) (by kernel_rfl) (fun _ _ _ h => h) (Or.inl ⟨by rfl, ?_⟩) (by assumption) ?_
    rotate_left
    · (intro w hSw; (try dsimp only at hSw); go_simp) <;> with_reducible rfl
    try simp only [Act.put, List.setIfInBounds_toArray, List.set_cons_zero, List.set_cons_succ]
    refine wpAnyH_take (i := 8) (oi := { dst := some 54, op := Op.pick (Operand.tmp 51) (Operand.tmp 53) (Operand.const (Value.bool false)), type := 4, pos := "law.go:376", after := #[{ on := 5, ground := Ground.data }, { on := 7, ground := Ground.data }], guard := none }) (v := ?_) rfl (by kernel_rfl) (by kernel_rfl) (by kernel_rfl) (fun _ _ _ h => h) (Or.inl ⟨by rfl, ?_⟩) (by assumption) ?_
    rotate_left
    · (intro w hSw; (try dsimp only at hSw); go_simp) <;> with_reducible rfl
    try simp only [Act.put, List.setIfInBounds_toArray, List.set_cons_zero, List.set_cons_succ]
    refine wpAnyH_take (i := 9) (oi := { dst := some 55, op := Op.move (Operand.tmp 54), type := 4, pos := "law.go:376", after := #[{ on := 8, ground := Ground.data }, { on := 5, ground := Ground.chain }], guard := none }) (v := ?_) rfl (by kernel_rfl) (by kernel_rfl) (by kernel_rfl) (fun _ _ _ h => h) (Or.inl ⟨by rfl, ?_⟩) (by assumption) ?_
    rotate_left
    · (intro w hSw; (try dsimp only at hSw); go_simp) <;> with_reducible rfl
    try simp only [Act.put, List.setIfInBounds_toArray, List.set_cons_zero, List.set_cons_succ]
    refine wpAnyH_take (i := 10) (oi := { dst := some 56, op := Op.move (Operand.tmp 10), type := 4, pos := "law.go:376", after := #[{ on := 9, ground := Ground.guard }], guard := some (9, true) }) (v := ?_) rfl (by kernel_rfl) (by kernel_rfl) (by kernel_rfl) (fun _ _ _ h => h) (Or.inl ⟨by rfl, ?_⟩) (by assumption) ?_
    rotate_left
    · (intro w hSw; (try dsimp only at hSw); go_simp) <;> with_reducible rfl
    try simp only [Act.put, List.setIfInBounds_toArray, List.set_cons_zero, List.set_cons_succ]
    refine wpAnyH_take (i := 11) (oi := { dst := some 57, op := Op.unOp UnOp.not 4 (Operand.tmp 56), type := 4, pos := "law.go:376", after := #[{ on := 10, ground := Ground.data }, { on := 9, ground := Ground.guard }], guard := some (9, true) }) (v := ?_) rfl (by kernel_rfl) (by kernel_rfl) (by kernel_rfl) (fun _ _ _ h => h) (Or.inl ⟨by rfl, ?_⟩) (by assumption) ?_
    rotate_left
    · (intro w hSw; (try dsimp only at hSw); go_simp) <;> with_reducible rfl
    try simp only [Act.put, List.setIfInBounds_toArray, List.set_cons_zero, List.set_cons_succ]
    refine wpAnyH_take (i := 12) (oi := { dst := some 58, op := Op.pick (Operand.tmp 55) (Operand.tmp 57) (Operand.const (Value.bool false)), type := 4, pos := "law.go:376", after := #[{ on := 9, ground := Ground.data }, { on := 11, ground := Ground.data }], guard := none }) (v := ?_) rfl (by kernel_rfl) (by kernel_rfl) (by kernel_rfl) (fun _ _ _ h => h) (Or.inl ⟨by rfl, ?_⟩) (by assumption) ?_
    rotate_left
    · (intro w hSw; (try dsimp only at hSw); go_simp) <;> with_reducible rfl
    try simp only [Act.put, List.setIfInBounds_toArray, List.set_cons_zero, List.set_cons_succ]
    refine wpAnyH_take (i := 13) (oi := { dst := some 59, op := Op.move (Operand.tmp 58), type := 4, pos := "law.go:376", after := #[{ on := 12, ground := Ground.data }, { on := 9, ground := Ground.chain }], guard := none }) (v := ?_) rfl (by kernel_rfl) (by kernel_rfl) (by kernel_rfl) (fun _ _ _ h => h) (Or.inl ⟨by rfl, ?_⟩) (by assumption) ?_
    rotate_left
    · (intro w hSw; (try dsimp only at hSw); go_simp) <;> with_reducible rfl
    try simp only [Act.put, List.setIfInBounds_toArray, List.set_cons_zero, List.set_cons_succ]
    refine wpAnyH_take (i := 14) (oi := { dst := some 60, op := Op.move (Operand.tmp 12), type := 4, pos := "law.go:376", after := #[{ on := 13, ground := Ground.guard }], guard := some (13, true) }) (v := ?_) rfl (by kernel_rfl) (by kernel_rfl) (by kernel_rfl) (fun _ _ _ h => h) (Or.inl ⟨by rfl, ?_⟩) (by assumption) ?_
    rotate_left
    · (intro w hSw; (try dsimp only at hSw); go_simp) <;> with_reducible rfl
    try simp only [Act.put, List.setIfInBounds_toArray, List.set_cons_zero, List.set_cons_succ]
    refine wpAnyH_take (i := 15) (oi := { dst := some 61, op := Op.unOp UnOp.not 4 (Operand.tmp 60), type := 4, pos := "law.go:376", after := #[{ on := 14, ground := Ground.data }, { on := 13, ground := Ground.guard }], guard := some (13, true) }) (v := ?_) rfl (by kernel_rfl) (by kernel_rfl) (by kernel_rfl) (fun _ _ _ h => h) (Or.inl ⟨by rfl, ?_⟩) (by assumption) ?_
    rotate_left
    · (intro w hSw; (try dsimp only at hSw); go_simp) <;> with_reducible rfl
    try simp only [Act.put, List.setIfInBounds_toArray, List.set_cons_zero, List.set_cons_succ]
    refine wpAnyH_take (i := 16) (oi := { dst := some 62, op := Op.pick (Operand.tmp 59) (Operand.tmp 61) (Operand.const (Value.bool false)), type := 4, pos := "law.go:376", after := #[{ on := 13, ground := Ground.data }, { on := 15, ground := Ground.data }], guard := none }) (v := ?_) rfl (by kernel_rfl) (by kernel_rfl) (by kernel_rfl) (fun _ _ _ h => h) (Or.inl ⟨by rfl, ?_⟩) (by assumption) ?_
    rotate_left
    · (intro w hSw; (try dsimp only at hSw); go_simp) <;> with_reducible rfl
    try simp only [Act.put, List.setIfInBounds_toArray, List.set_cons_zero, List.set_cons_succ]
    refine wpAnyH_take (i := 17) (oi := { dst := some 63, op := Op.move (Operand.tmp 62), type := 4, pos := "law.go:376", after := #[{ on := 16, ground := Ground.data }, { on := 13, ground := Ground.chain }], guard := none }) (v := ?_) rfl (by kernel_rfl) (by kernel_rfl) (by kernel_rfl) (fun _ _ _ h => h) (Or.inl ⟨by rfl, ?_⟩) (by assumption) ?_
    rotate_left
    · (intro w hSw; (try dsimp only at hSw); go_simp) <;> with_reducible rfl
    try simp only [Act.put, List.setIfInBounds_toArray, List.set_cons_zero, List.set_cons_succ]
    refine wpAnyH_take (i := 18) (oi := { dst := some 64, op := Op.move (Operand.tmp 6), type := 50, pos := "law.go:376", after := #[{ on := 17, ground := Ground.guard }], guard := some (17, true) }) (v := ?_) rfl (by kernel_rfl) (by kernel_rfl) (by kernel_rfl) (fun _ _ _ h => h) (Or.inl ⟨by rfl, ?_⟩) (by assumption) ?_
    rotate_left
    · (intro w hSw; (try dsimp only at hSw); go_simp) <;> with_reducible rfl
    try simp only [Act.put, List.setIfInBounds_toArray, List.set_cons_zero, List.set_cons_succ]
    refine wpAnyH_take (i := 19) (oi := { dst := some 65, op := Op.binOp BinOp.eql 50 (Operand.tmp 64) (Operand.const (Value.int IntKind.i64 1)) 50, type := 4, pos := "law.go:376", after := #[{ on := 18, ground := Ground.data }, { on := 17, ground := Ground.guard }], guard := some (17, true) }) (v := ?_) rfl (by kernel_rfl) (by kernel_rfl) (by kernel_rfl) (fun _ _ _ h => h) (Or.inl ⟨by rfl, ?_⟩) (by assumption) ?_
    rotate_left
    · (intro w hSw; (try dsimp only at hSw); go_simp) <;> with_reducible rfl
    try simp only [Act.put, List.setIfInBounds_toArray, List.set_cons_zero, List.set_cons_succ]
    refine wpAnyH_take (i := 20) (oi := { dst := some 66, op := Op.pick (Operand.tmp 63) (Operand.tmp 65) (Operand.const (Value.bool false)), type := 4, pos := "law.go:376", after := #[{ on := 17, ground := Ground.data }, { on := 19, ground := Ground.data }], guard := none }) (v := ?_) rfl (by kernel_rfl) (by kernel_rfl) (by kernel_rfl) (fun _ _ _ h => h) (Or.inl ⟨by rfl, ?_⟩) (by assumption) ?_
    rotate_left
    · (intro w hSw; (try dsimp only at hSw); go_simp) <;> with_reducible rfl
    try simp only [Act.put, List.setIfInBounds_toArray, List.set_cons_zero, List.set_cons_succ]
    refine wpAnyH_take (i := 21) (oi := { dst := some 67, op := Op.move (Operand.tmp 66), type := 4, pos := "law.go:376", after := #[{ on := 20, ground := Ground.data }, { on := 17, ground := Ground.chain }], guard := none }) (v := ?_) rfl (by kernel_rfl) (by kernel_rfl) (by kernel_rfl) (fun _ _ _ h => h) (Or.inl ⟨by rfl, ?_⟩) (by assumption) ?_
    rotate_left
    · (intro w hSw; (try dsimp only at hSw); go_simp) <;> with_reducible rfl
    try simp only [Act.put, List.setIfInBounds_toArray, List.set_cons_zero, List.set_cons_succ]
    refine wpAnyH_take (i := 22) (oi := { dst := some 68, op := Op.move (Operand.tmp 8), type := 50, pos := "law.go:376", after := #[{ on := 21, ground := Ground.guard }], guard := some (21, true) }) (v := ?_) rfl (by kernel_rfl) (by kernel_rfl) (by kernel_rfl) (fun _ _ _ h => h) (Or.inl ⟨by rfl, ?_⟩) (by assumption) ?_
    rotate_left
    · (intro w hSw; (try dsimp only at hSw); go_simp) <;> with_reducible rfl
    try simp only [Act.put, List.setIfInBounds_toArray, List.set_cons_zero, List.set_cons_succ]
    refine wpAnyH_take (i := 23) (oi := { dst := some 69, op := Op.binOp BinOp.eql 50 (Operand.tmp 68) (Operand.const (Value.int IntKind.i64 1)) 50, type := 4, pos := "law.go:376", after := #[{ on := 22, ground := Ground.data }, { on := 21, ground := Ground.guard }], guard := some (21, true) }) (v := ?_) rfl (by kernel_rfl) (by kernel_rfl) (by kernel_rfl) (fun _ _ _ h => h) (Or.inl ⟨by rfl, ?_⟩) (by assumption) ?_
    rotate_left
    · (intro w hSw; (try dsimp only at hSw); go_simp) <;> with_reducible rfl
    try simp only [Act.put, List.setIfInBounds_toArray, List.set_cons_zero, List.set_cons_succ]
    refine wpAnyH_take (i := 24) (oi := { dst := some 70, op := Op.pick (Operand.tmp 67) (Operand.tmp 69) (Operand.const (Value.bool false)), type := 4, pos := "law.go:376", after := #[{ on := 21, ground := Ground.data }, { on := 23, ground := Ground.data }], guard := none }) (v := ?_) rfl (by kernel_rfl) (by kernel_rfl) (by kernel_rfl) (fun _ _ _ h => h) (Or.inl ⟨by rfl, ?_⟩) (by assumption) ?_
    rotate_left
    · (intro w hSw; (try dsimp only at hSw); go_simp) <;> with_reducible rfl
    try simp only [Act.put, List.setIfInBounds_toArray, List.set_cons_zero, List.set_cons_succ]
    refine wpAnyH_take (i := 25) (oi := { dst := some 71, op := Op.move (Operand.tmp 70), type := 4, pos := "law.go:376", after := #[{ on := 24, ground := Ground.data }, { on := 21, ground := Ground.chain }], guard := none }) (v := ?_) rfl (by kernel_rfl) (by kernel_rfl) (by kernel_rfl) (fun _ _ _ h => h) (Or.inl ⟨by rfl, ?_⟩) (by assumption) ?_
    rotate_left
    · (intro w hSw; (try dsimp only at hSw); go_simp) <;> with_reducible rfl
    try simp only [Act.put, List.setIfInBounds_toArray, List.set_cons_zero, List.set_cons_succ]
    refine wpAnyH_take (i := 26) (oi := { dst := some 72, op := Op.load 54 (Operand.tmp 9), type := 54, pos := "law.go:376", after := #[{ on := 25, ground := Ground.guard }], guard := some (25, true) }) (v := .agg brL.toArray) rfl (by kernel_rfl) (by kernel_rfl) (by kernel_rfl) (fun _ _ _ h => h) (yieldsIf_load_mid (by kernel_rfl) 54 _ rfl b9 0 rfl brL _ (fun _ h => h.1) Tryz.underlying54 rfl brSz) (by assumption) ?_
    try simp only [Act.put, List.setIfInBounds_toArray, List.set_cons_zero, List.set_cons_succ]
    refine wpAnyH_take (i := 27) (oi := { dst := some 73, op := Op.load 54 (Operand.tmp 13), type := 54, pos := "law.go:376", after := #[{ on := 25, ground := Ground.guard }], guard := some (25, true) }) (v := .agg brL.toArray) rfl (by kernel_rfl) (by kernel_rfl) (by kernel_rfl) (fun _ _ _ h => h) (yieldsIf_load_mid (by kernel_rfl) 54 _ rfl b13 0 rfl brL _ (fun _ h => h.2.2.1) Tryz.underlying54 rfl brSz) (by assumption) ?_
    try simp only [Act.put, List.setIfInBounds_toArray, List.set_cons_zero, List.set_cons_succ]
    refine wpAnyH_ready (rs := [28]) (by kernel_rfl) (by simp) ?_
    refine AllReadyH.cons (o := { dst := some 74, op := Op.call { callee := Callee.value (Operand.func 8), args := #[Operand.tmp 72, Operand.tmp 73], argTypes := #[54, 54] }, type := 4, pos := "law.go:376", after := #[{ on := 26, ground := Ground.data }, { on := 27, ground := Ground.data }, { on := 25, ground := Ground.chain }, { on := 25, ground := Ground.guard }], guard := some (25, true) }) rfl (fun K hK => ?_) AllReadyH.nil
    go_simp
    refine (eqBr0 wa).mono ?_
    rintro _ wb ⟨rfl, bq⟩
    have HBwb : Hid (Below wz.heap.size wz wb) := HBwa.out.trans (bq.mono HBwa.out.size)
    clear bq
    refine hK.out _ _ (HS.out _ HBwb.out) (fun hHeld => ?_)
    clear hK K
    refine wpAnyH_take (i := 29) (oi := { dst := some 75, op := Op.pick (Operand.tmp 71) (Operand.tmp 74) (Operand.const (Value.bool false)), type := 4, pos := "law.go:376", after := #[{ on := 25, ground := Ground.data }, { on := 28, ground := Ground.data }], guard := none }) (v := ?_) rfl (by kernel_rfl) (by kernel_rfl) (by kernel_rfl) (fun _ _ _ h => h) (Or.inl ⟨by rfl, ?_⟩) (by assumption) ?_
    rotate_left
    · (intro w hSw; (try dsimp only at hSw); go_simp) <;> with_reducible rfl
    try simp only [Act.put, List.setIfInBounds_toArray, List.set_cons_zero, List.set_cons_succ]
    refine wpAnyH_take (i := 30) (oi := { dst := some 76, op := Op.move (Operand.tmp 75), type := 4, pos := "law.go:376", after := #[{ on := 29, ground := Ground.data }, { on := 28, ground := Ground.chain }], guard := none }) (v := ?_) rfl (by kernel_rfl) (by kernel_rfl) (by kernel_rfl) (fun _ _ _ h => h) (Or.inl ⟨by rfl, ?_⟩) (by assumption) ?_
    rotate_left
    · (intro w hSw; (try dsimp only at hSw); go_simp) <;> with_reducible rfl
    try simp only [Act.put, List.setIfInBounds_toArray, List.set_cons_zero, List.set_cons_succ]
    refine wpAnyH_take (i := 31) (oi := { dst := some 77, op := Op.load 54 (Operand.tmp 11), type := 54, pos := "law.go:376", after := #[{ on := 30, ground := Ground.guard }], guard := some (30, true) }) (v := .agg brL.toArray) rfl (by kernel_rfl) (by kernel_rfl) (by kernel_rfl) (fun _ _ _ h => h) (yieldsIf_load_mid (by kernel_rfl) 54 _ rfl b11 0 rfl brL _ (fun _ h => h.2.1) Tryz.underlying54 rfl brSz) (by assumption) ?_
    try simp only [Act.put, List.setIfInBounds_toArray, List.set_cons_zero, List.set_cons_succ]
    refine wpAnyH_take (i := 32) (oi := { dst := some 78, op := Op.load 54 (Operand.tmp 13), type := 54, pos := "law.go:376", after := #[{ on := 30, ground := Ground.guard }], guard := some (30, true) }) (v := .agg brL.toArray) rfl (by kernel_rfl) (by kernel_rfl) (by kernel_rfl) (fun _ _ _ h => h) (yieldsIf_load_mid (by kernel_rfl) 54 _ rfl b13 0 rfl brL _ (fun _ h => h.2.2.1) Tryz.underlying54 rfl brSz) (by assumption) ?_
    try simp only [Act.put, List.setIfInBounds_toArray, List.set_cons_zero, List.set_cons_succ]
    refine wpAnyH_ready (rs := [33]) (by kernel_rfl) (by simp) ?_
    refine AllReadyH.cons (o := { dst := some 79, op := Op.call { callee := Callee.value (Operand.func 8), args := #[Operand.tmp 77, Operand.tmp 78], argTypes := #[54, 54] }, type := 4, pos := "law.go:376", after := #[{ on := 31, ground := Ground.data }, { on := 32, ground := Ground.data }, { on := 30, ground := Ground.chain }, { on := 30, ground := Ground.guard }], guard := some (30, true) }) rfl (fun K hK => ?_) AllReadyH.nil
    go_simp
    refine (eqBr0 wb).mono ?_
    rintro _ wc ⟨rfl, bq⟩
    have HBwc : Hid (Below wz.heap.size wz wc) := HBwb.out.trans (bq.mono HBwb.out.size)
    clear bq
    refine hK.out _ _ (HS.out _ HBwc.out) (fun hHeld => ?_)
    clear hK K
    refine wpAnyH_take (i := 34) (oi := { dst := some 80, op := Op.pick (Operand.tmp 76) (Operand.tmp 79) (Operand.const (Value.bool false)), type := 4, pos := "law.go:376", after := #[{ on := 30, ground := Ground.data }, { on := 33, ground := Ground.data }], guard := none }) (v := ?_) rfl (by kernel_rfl) (by kernel_rfl) (by kernel_rfl) (fun _ _ _ h => h) (Or.inl ⟨by rfl, ?_⟩) (by assumption) ?_
    rotate_left
    · (intro w hSw; (try dsimp only at hSw); go_simp) <;> with_reducible rfl
    try simp only [Act.put, List.setIfInBounds_toArray, List.set_cons_zero, List.set_cons_succ]
    refine wpAnyH_take (i := 35) (oi := { dst := some 81, op := Op.move (Operand.tmp 80), type := 4, pos := "law.go:376", after := #[{ on := 34, ground := Ground.data }, { on := 33, ground := Ground.chain }], guard := none }) (v := ?_) rfl (by kernel_rfl) (by kernel_rfl) (by kernel_rfl) (fun _ _ _ h => h) (Or.inl ⟨by rfl, ?_⟩) (by assumption) ?_
    rotate_left
    · (intro w hSw; (try dsimp only at hSw); go_simp) <;> with_reducible rfl
    try simp only [Act.put, List.setIfInBounds_toArray, List.set_cons_zero, List.set_cons_succ]
    refine wpAnyH_take (i := 36) (oi := { dst := some 82, op := Op.move (Operand.tmp 3), type := 42, pos := "law.go:376", after := #[{ on := 35, ground := Ground.guard }], guard := some (35, true) }) (v := ?_) rfl (by kernel_rfl) (by kernel_rfl) (by kernel_rfl) (fun _ _ _ h => h) (Or.inl ⟨by rfl, ?_⟩) (by assumption) ?_
    rotate_left
    · (intro w hSw; (try dsimp only at hSw); go_simp) <;> with_reducible rfl
    try simp only [Act.put, List.setIfInBounds_toArray, List.set_cons_zero, List.set_cons_succ]
    refine wpAnyH_take (i := 38) (oi := { dst := some 84, op := Op.load 27 (Operand.tmp 14), type := 27, pos := "law.go:376", after := #[{ on := 35, ground := Ground.guard }], guard := some (35, true) }) (v := ?_) rfl (by kernel_rfl) (by kernel_rfl) (by kernel_rfl) (fun _ _ _ h => h) (Or.inl ⟨by rfl, ?_⟩) (by assumption) ?_
    rotate_left
    · (intro w hSw; (try dsimp only at hSw); go_simp) <;> with_reducible rfl
    try simp only [Act.put, List.setIfInBounds_toArray, List.set_cons_zero, List.set_cons_succ]
    refine wpAnyH_ready (rs := [37]) (by kernel_rfl) (by simp) ?_
    refine AllReadyH.cons (o := { dst := some 83, op := Op.call { callee := Callee.value (Operand.func 9), args := #[Operand.tmp 82], argTypes := #[42] }, type := 27, pos := "law.go:376", after := #[{ on := 36, ground := Ground.data }, { on := 35, ground := Ground.chain }, { on := 35, ground := Ground.guard }], guard := some (35, true) }) rfl (fun K hK => ?_) AllReadyH.nil
    go_simp
    refine (lastL_none (w := wc) (.inl rfl)).mono ?_
    rintro _ wd ⟨rfl, bq⟩
    have HBwd : Hid (Below wz.heap.size wz wd) := HBwc.out.trans (bq.mono HBwc.out.size)
    clear bq
    refine hK.out _ _ (HS.out _ HBwd.out) (fun hHeld => ?_)
    clear hK K
    refine wpAnyH_take (i := 39) (oi := { dst := some 85, op := Op.binOp BinOp.eql 27 (Operand.tmp 83) (Operand.tmp 84) 27, type := 4, pos := "law.go:376", after := #[{ on := 37, ground := Ground.data }, { on := 38, ground := Ground.data }, { on := 35, ground := Ground.guard }], guard := some (35, true) }) (v := .bool true) rfl (by kernel_rfl) (by kernel_rfl) (by kernel_rfl) (fun _ _ _ h => h) (Or.inl ⟨by rfl, fun w' hSw => by go_simp⟩) (by assumption) ?_
    try simp only [Act.put, List.setIfInBounds_toArray, List.set_cons_zero, List.set_cons_succ]
    refine wpAnyH_take (i := 40) (oi := { dst := some 86, op := Op.pick (Operand.tmp 81) (Operand.tmp 85) (Operand.const (Value.bool false)), type := 4, pos := "law.go:376", after := #[{ on := 35, ground := Ground.data }, { on := 39, ground := Ground.data }], guard := none }) (v := ?_) rfl (by kernel_rfl) (by kernel_rfl) (by kernel_rfl) (fun _ _ _ h => h) (Or.inl ⟨by rfl, ?_⟩) (by assumption) ?_
    rotate_left
    · (intro w hSw; (try dsimp only at hSw); go_simp) <;> with_reducible rfl
    try simp only [Act.put, List.setIfInBounds_toArray, List.set_cons_zero, List.set_cons_succ]
    refine wpAnyH_take (i := 41) (oi := { dst := some 87, op := Op.move (Operand.tmp 86), type := 4, pos := "law.go:376", after := #[{ on := 40, ground := Ground.data }, { on := 37, ground := Ground.chain }], guard := none }) (v := ?_) rfl (by kernel_rfl) (by kernel_rfl) (by kernel_rfl) (fun _ _ _ h => h) (Or.inl ⟨by rfl, ?_⟩) (by assumption) ?_
    rotate_left
    · (intro w hSw; (try dsimp only at hSw); go_simp) <;> with_reducible rfl
    try simp only [Act.put, List.setIfInBounds_toArray, List.set_cons_zero, List.set_cons_succ]
    refine wpAnyH_take (i := 42) (oi := { dst := some 88, op := Op.move (Operand.tmp 4), type := 42, pos := "law.go:376", after := #[{ on := 41, ground := Ground.guard }], guard := some (41, true) }) (v := ?_) rfl (by kernel_rfl) (by kernel_rfl) (by kernel_rfl) (fun _ _ _ h => h) (Or.inl ⟨by rfl, ?_⟩) (by assumption) ?_
    rotate_left
    · (intro w hSw; (try dsimp only at hSw); go_simp) <;> with_reducible rfl
    try simp only [Act.put, List.setIfInBounds_toArray, List.set_cons_zero, List.set_cons_succ]
    refine wpAnyH_take (i := 44) (oi := { dst := some 90, op := Op.load 27 (Operand.tmp 14), type := 27, pos := "law.go:376", after := #[{ on := 41, ground := Ground.guard }], guard := some (41, true) }) (v := ?_) rfl (by kernel_rfl) (by kernel_rfl) (by kernel_rfl) (fun _ _ _ h => h) (Or.inl ⟨by rfl, ?_⟩) (by assumption) ?_
    rotate_left
    · (intro w hSw; (try dsimp only at hSw); go_simp) <;> with_reducible rfl
    try simp only [Act.put, List.setIfInBounds_toArray, List.set_cons_zero, List.set_cons_succ]
    refine wpAnyH_ready (rs := [43]) (by kernel_rfl) (by simp) ?_
    refine AllReadyH.cons (o := { dst := some 89, op := Op.call { callee := Callee.value (Operand.func 9), args := #[Operand.tmp 88], argTypes := #[42] }, type := 27, pos := "law.go:376", after := #[{ on := 42, ground := Ground.data }, { on := 41, ground := Ground.chain }, { on := 41, ground := Ground.guard }], guard := some (41, true) }) rfl (fun K hK => ?_) AllReadyH.nil
    go_simp
    refine (lastL_none (HZ.out.2.later HBwd.out)).mono ?_
    rintro _ we ⟨rfl, bq⟩
    have HBwe : Hid (Below wz.heap.size wz we) := HBwd.out.trans (bq.mono HBwd.out.size)
    clear bq
    refine hK.out _ _ (HS.out _ HBwe.out) (fun hHeld => ?_)
    clear hK K
    refine wpAnyH_take (i := 45) (oi := { dst := some 91, op := Op.binOp BinOp.eql 27 (Operand.tmp 89) (Operand.tmp 90) 27, type := 4, pos := "law.go:376", after := #[{ on := 43, ground := Ground.data }, { on := 44, ground := Ground.data }, { on := 41, ground := Ground.guard }], guard := some (41, true) }) (v := .bool true) rfl (by kernel_rfl) (by kernel_rfl) (by kernel_rfl) (fun _ _ _ h => h) (Or.inl ⟨by rfl, fun w' hSw => by go_simp⟩) (by assumption) ?_
    try simp only [Act.put, List.setIfInBounds_toArray, List.set_cons_zero, List.set_cons_succ]
    refine wpAnyH_take (i := 46) (oi := { dst := some 92, op := Op.pick (Operand.tmp 87) (Operand.tmp 91) (Operand.const (Value.bool false)), type := 4, pos := "law.go:376", after := #[{ on := 41, ground := Ground.data }, { on := 45, ground := Ground.data }], guard := none }) (v := ?_) rfl (by kernel_rfl) (by kernel_rfl) (by kernel_rfl) (fun _ _ _ h => h) (Or.inl ⟨by rfl, ?_⟩) (by assumption) ?_
    rotate_left
    · (intro w hSw; (try dsimp only at hSw); go_simp) <;> with_reducible rfl
    try simp only [Act.put, List.setIfInBounds_toArray, List.set_cons_zero, List.set_cons_succ]
    refine wpAnyH_take (i := 47) (oi := { dst := some 2, op := Op.assign (Operand.tmp 92), type := 4, pos := "law.go:376", after := #[{ on := 46, ground := Ground.data }, { on := 43, ground := Ground.chain }, { on := 0, ground := Ground.phase }, { on := 1, ground := Ground.phase }, { on := 2, ground := Ground.phase }, { on := 3, ground := Ground.phase }, { on := 4, ground := Ground.phase }, { on := 5, ground := Ground.phase }, { on := 6, ground := Ground.phase }, { on := 7, ground := Ground.phase }, { on := 8, ground := Ground.phase }, { on := 9, ground := Ground.phase }, { on := 10, ground := Ground.phase }, { on := 11, ground := Ground.phase }, { on := 12, ground := Ground.phase }, { on := 13, ground := Ground.phase }, { on := 14, ground := Ground.phase }, { on := 15, ground := Ground.phase }, { on := 16, ground := Ground.phase }, { on := 17, ground := Ground.phase }, { on := 18, ground := Ground.phase }, { on := 19, ground := Ground.phase }, { on := 20, ground := Ground.phase }, { on := 21, ground := Ground.phase }, { on := 22, ground := Ground.phase }, { on := 23, ground := Ground.phase }, { on := 24, ground := Ground.phase }, { on := 25, ground := Ground.phase }, { on := 26, ground := Ground.phase }, { on := 27, ground := Ground.phase }, { on := 28, ground := Ground.phase }, { on := 29, ground := Ground.phase }, { on := 30, ground := Ground.phase }, { on := 31, ground := Ground.phase }, { on := 32, ground := Ground.phase }, { on := 33, ground := Ground.phase }, { on := 34, ground := Ground.phase }, { on := 35, ground := Ground.phase }, { on := 36, ground := Ground.phase }, { on := 37, ground := Ground.phase }, { on := 38, ground := Ground.phase }, { on := 39, ground := Ground.phase }, { on := 40, ground := Ground.phase }, { on := 41, ground := Ground.phase }, { on := 42, ground := Ground.phase }, { on := 43, ground := Ground.phase }, { on := 44, ground := Ground.phase }, { on := 45, ground := Ground.phase }, { on := 46, ground := Ground.phase }], guard := none }) (v := ?_) rfl (by kernel_rfl) (by kernel_rfl) (by kernel_rfl) (fun _ _ _ h => h) (Or.inl ⟨by rfl, ?_⟩) (by assumption) ?_
    rotate_left
    · (intro w hSw; (try dsimp only at hSw); go_simp) <;> with_reducible rfl
    try simp only [Act.put, List.setIfInBounds_toArray, List.set_cons_zero, List.set_cons_succ]
    refine wpAnyH_done (by kernel_rfl) ?_ _
    clear hHeld HS HBwa HBwb HBwc HBwd
    have HY : Hid (Below w.heap.size w we) := HZ.out.1.trans (HBwe.out.mono HZ.out.1.size)
    clear HBwe HZ
    go_wp2
    go_ret
    exact ⟨rfl, HY.out⟩
end Go.Proofs.YtgjjcmhlmdfccaaGreatDoor
