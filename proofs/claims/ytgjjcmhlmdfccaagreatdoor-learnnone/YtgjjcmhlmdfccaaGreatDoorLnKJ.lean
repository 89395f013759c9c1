/- What Brought answers of a Learner that is done and has neither cut nor copied. -/
import Derived.Test.YtgjjcmhlmdfccaaGreatDoorLnJJ
namespace Go.Proofs.YtgjjcmhlmdfccaaGreatDoor
open Go.RowKit
set_option maxRecDepth 8000
set_option linter.unusedSimpArgs false
set_option linter.unusedVariables false

/-- What Brought answers. -/
def BrA (ep e n : Int) (l : List TxD) (w : World) (r : Ending) (w' : World) : Prop :=
  Below w.heap.size w w' ∧ ∃ v', r = .returned (.tuple #[.agg #[.int .u32 ep, .bool false, .slice none 0 0, .int .u32 e, .int .u32 n, v'], .bool true]) ∧ SeesTxs w' v' l

set_option maxHeartbeats 4000000 in
theorem brought_yes {p B : Nat} {w : World} {ep : Int} {hi v : Value} {f : Nat} {a b : Array Value} {e n : Int} {es : List (List Value)} {l : List TxD} (h : LnS p B w ep hi (.func (.func f) a b) (.iface 74 (zx e n)) v es l true) (hl6 : l.length ≤ 1000000) (hpt : ∀ t ∈ l, t.rq.parts ≤ 20000) :
    Calls Tryz.prog 7 #[.pointer (some ⟨p, 0, none⟩)] w (BrA ep e n l w) := by
  have hlp := lt_of_block h.at_
  obtain ⟨V, hV⟩ : ∃ V, V = w.alloc (.cells brZ 54) := ⟨_, rfl⟩
  have hbV : Below w.heap.size w V := by rw [hV]; exact one_alloc _ _
  have rV : V.heap[w.heap.size]? = some (.cells brZ 54 (0, 0)) := by rw [hV]; exact heap_alloc_new _ _
  have HEV : Hid (V = w.alloc (.cells brZ 54)) := hV
  have HL : Hid (LnS p B w ep hi (.func (.func f) a b) (.iface 74 (zx e n)) v es l true ∧ ∀ t ∈ l, t.rq.parts ≤ 20000) := ⟨h, hpt⟩
  have HNo : Hid _ := noneL_yes (h.later hbV).at_
  obtain ⟨_, _, _, c3, _, c5⟩ := (h.later hbV).cells
  have HV : Hid (Below w.heap.size w V ∧ V.heap[w.heap.size]? = some (.cells brZ 54 (0, 0))) := ⟨hbV, rV⟩
  have lpV := lt_of_block (h.later hbV).at_
  obtain ⟨ao, cap, rfl, hlc, hcm⟩ := txs_shape (full_sees h.full h.own)
  unfold maxLen at hcm
  clear hV hbV rV h hpt
  go_enter Tryz.func7, Tryz.ntmps7
  go_wp2_with fail
  go_at_call 15
  rw [← HEV.out]
  refine Calls.mono HNo.out ?_
  rintro _ w9 ⟨rfl, hw9⟩
  rw [hw9]
  clear HNo hw9 HEV
  go_wp2_with fail
  go_at_call 17
  refine (beginning_no e n V).mono ?_
  rintro _ w2 ⟨rfl, b2⟩
  have b02 : Below w.heap.size w w2 := HV.out.1.trans (b2.mono HV.out.1.size)
  have r2 := (b2.block _ (lt_of_block HV.out.2)).trans HV.out.2
  obtain ⟨w3, hw3⟩ : ∃ w3, w3 = w2.alloc (.cells #[.int .u32 0, .bool false, .slice none 0 0, .int .u32 e, .int .u32 n, .slice none 0 0] 54) := ⟨_, rfl⟩
  have HE3 : Hid (w3 = w2.alloc (.cells #[.int .u32 0, .bool false, .slice none 0 0, .int .u32 e, .int .u32 n, .slice none 0 0] 54)) := hw3
  have b23 : Below w2.heap.size w2 w3 := by rw [hw3]; exact one_alloc _ _
  have r4 : w3.heap[w2.heap.size]? = some (.cells #[.int .u32 0, .bool false, .slice none 0 0, .int .u32 e, .int .u32 n, .slice none 0 0] 54 (0, 0)) := by rw [hw3]; exact heap_alloc_new _ _
  obtain ⟨b4, hb4⟩ : ∃ b4, b4 = w2.heap.size := ⟨_, rfl⟩
  have HB4 : Hid (b4 = w2.heap.size) := hb4
  have hs2 := b02.size
  have lz := lt_of_block r2
  have hs3 := lt_of_block r4
  rw [← hb4] at r4 hs3
  have b03 : Below w.heap.size w w3 := b02.trans (b23.mono b02.size)
  have r3 := (b23.block _ lz).trans r2
  have h3 := HL.out.1.later b03
  have e0 := h3.cells.1
  have e4 := h3.cells.2.2.2.2.1
  have g0 := cell_of_row _ _ 0 _ _ _ r4
  have f0 := frozen_of_row _ _ 0 _ _ r4
  simp at g0
  have k4 : Kept w3 (w3.setCell ⟨b4, 0, none⟩ (.int .u32 ep)) (· = b4) := (Kept.refl _ _).setCell _ _ (fun _ => rfl)
  have hb4w : w.heap.size < b4 := by omega
  have H4 : Hid (Below w.heap.size w (w3.setCell ⟨b4, 0, none⟩ (.int .u32 ep)) ∧ (w3.setCell ⟨b4, 0, none⟩ (.int .u32 ep)).heap[w.heap.size]? = some (.cells brZ 54 (0, 0)) ∧ (w3.setCell ⟨b4, 0, none⟩ (.int .u32 ep)).heap[b4]? = some (.cells #[.int .u32 ep, .bool false, .slice none 0 0, .int .u32 e, .int .u32 n, .slice none 0 0] 54 (0, 0))) := ⟨b03.trans (k4.below b03.size (fun q e => by omega)), k4.heap r3 (by omega), by rw [heap_setR _ r4]; rfl⟩
  have e4' : (w3.setCell ⟨b4, 0, none⟩ (.int .u32 ep)).cell? ⟨p, 4, none⟩ = some (.slice ao l.length cap) := (World.cell?_of_block (k4.block p (lt_of_block h3.at_) (by omega))).trans e4
  have l3p := lt_of_block h3.at_
  clear b02 r2 hw3 b23 r4 b03 r3 h3 k4 b2 hb4 hs2 lz c3 c5 HV
  go_upto_region 4 with fail
  rw [← HE3.out, ← HB4.out]
  clear HE3 HB4
  go_upto_region 5 with fail
  clear e0 e4 g0 f0
  generalize w3.setCell ⟨b4, 0, none⟩ (.int .u32 ep) = w4 at *
  obtain ⟨B4, hB4⟩ : ∃ B4, B4 = w4.heap.size := ⟨_, rfl⟩
  have HB4 : Hid (B4 = w4.heap.size) := hB4
  have hbB : b4 < B4 := by rw [hB4]; exact lt_of_block H4.out.2.2
  clear hB4
  go_wp2_with fail
  go_loopw [32] (fun i wr => ∃ (k : Nat) (v' : Value) (es' : List (List Value)), k ≤ l.length ∧ i = .int .i64 k ∧ Hid (Below w.heap.size w wr ∧ wr.heap[w.heap.size]? = some (.cells brZ 54 (0, 0)) ∧ LsR b4 B4 54 #[.int .u32 ep, .bool false, .slice none 0 0, .int .u32 e, .int .u32 n, v'] 5 wr v' es' (l.take k))) (fun i _ => l.length - (intOf i).toNat)
  case atStart => exact ⟨0, .slice none 0 0, [], Nat.zero_le _, rfl, H4.out.1, H4.out.2.1, H4.out.2.2, rfl, World.ownsRow_nil _ _ _ _, FullE.nil _ _ _, hbB, by rw [HB4.out]; exact Nat.le_refl _⟩
  case round =>
    obtain ⟨k, v', es', hk, rfl, HB⟩ := hrel
    by_cases hlt : k < l.length
    · have hLw := HL.out.1.later HB.out.1
      obtain ⟨b', off, cap', xs, hv, hs, hc16, l0⟩ := txs_rowT (full_sees hLw.full hLw.own) k hlt
      have hao := (Value.slice.inj hv).1
      subst hao
      obtain ⟨t, ht⟩ : ∃ t, t = l[k] := ⟨_, rfl⟩
      rw [← ht] at hs
      have hfx : TxForm xs := by obtain ⟨rc, rfl, hr⟩ := hs; exact tx_form hr
      have q16 : (Tryz.prog.info? 37).map (·.size) = some xs.length := by rw [hc16]; exact tx16
      have q16' : (Tryz.prog.info? 37).map (·.size) = some xs.toArray.size := by rw [List.size_toArray, hc16]; exact tx16
      obtain ⟨s1, rr, bb⟩ := rowL wr 37 txZL xs.toArray
      have hsz : txZL.size = xs.toArray.size := hc16.symm.trans List.size_toArray.symm
      have hone := hfx.one
      obtain ⟨wX, hwX⟩ : ∃ wX, wX = (wr.alloc (.cells txZL 37)).setRow wr.heap.size xs.toArray := ⟨_, rfl⟩
      obtain ⟨bx, hbx⟩ : ∃ bx, bx = wr.heap.size := ⟨_, rfl⟩
      have HEX : Hid (wX = (wr.alloc (.cells txZL 37)).setRow wr.heap.size xs.toArray ∧ bx = wr.heap.size) := ⟨hwX, hbx⟩
      rw [← hwX] at rr bb
      rw [← hbx] at rr
      have lb5 : bx < wX.drew.heap.size := lt_of_block rr
      have hbx4 : bx ≠ b4 := by have := lt_of_block HB.out.2.2.at_; omega
      have hvbx : ∀ q, v'.ownBlock = some q → q ≠ bx := fun q e => by have := (HB.out.2.2.own.lt q e).2; omega
      have g5 : wX.drew.rangeAt bx 0 xs := fun j u hj => by
        have : wX.cell? ⟨bx, 0 + j, none⟩ = some u := by rw [Nat.zero_add, cell_of_row _ _ _ _ _ _ rr, List.getElem?_toArray]; exact hj
        exact this
      have hLX := (HB.out.2.2.later bb).later (below_drewN (Below.refl wX.heap.size wX) 1)
      have k5 : wX.drew.cell? ⟨b4, 5, none⟩ = some v' := (cell_of_row _ _ 5 _ _ _ hLX.at_)
      have HX : Hid (LsR b4 B4 54 #[.int .u32 ep, .bool false, .slice none 0 0, .int .u32 e, .int .u32 n, v'] 5 wX.drew v' es' (l.take k) ∧ SeesTx wX.drew xs t ∧ t.rq.parts ≤ 20000 ∧ l.take (k + 1) = l.take k ++ [t] ∧ Kept wr wX.drew (fun k => v'.ownBlock = some k ∨ k = b4)) := ⟨hLX, (hs.below bb (Nat.le_refl _)).below (below_drewN (Below.refl _ _) 1) (Nat.le_refl _), by rw [ht]; exact HL.out.2 _ (List.getElem_mem hlt), by rw [ht]; exact List.take_succ_eq_append_getElem hlt, (Below.kept (below_drewN bb 1)).mono (fun k h1 h2 => by omega)⟩
      clear hv hs ht hfx rr bb hwX hbx hLX hLw
      go_upto_region 8 with (first
        | (refine wpList_load_mid rfl 37 _ rfl b' (off + k * 16) rfl xs _ l0 Tryz.underlying37 rfl q16 ?_)
        | (refine wpList_store_row rfl 37 _ _ rfl wr.heap.size xs.toArray rfl rfl 37 _ s1 q16' hsz hone ?_))
      rw [← HEX.out.1, ← HEX.out.2]
      clear HEX s1 q16' hsz hone l0
      refine wp_region_held_drew (S := (fun W => W.rangeAt bx 0 xs)) (by kernel_rfl) ?_ (fun hHeld => ?_)
      · exact g5
      refine wpAnyH_take (i := 0) (oi := { dst := some 36, op := Op.fieldAddr 54 (Operand.tmp 4) 4, type := 0, pos := "learn.go:61", after := #[], guard := none }) (v := ?_) rfl (by kernel_rfl) (by kernel_rfl) (by kernel_rfl) (fun _ _ _ h => h) (Or.inl ⟨by rfl, ?_⟩) (by assumption) ?_
      rotate_left
      · (intro w hSw; (try dsimp only at hSw); go_simp) <;> with_reducible rfl
      try simp only [Act.put, List.setIfInBounds_toArray, List.set_cons_zero, List.set_cons_succ]
      refine wpAnyH_take (i := 2) (oi := { dst := some 38, op := Op.load 37 (Operand.tmp 6), type := 37, pos := "learn.go:61", after := #[], guard := none }) (v := .agg xs.toArray) rfl (by kernel_rfl) (by kernel_rfl) (by kernel_rfl) (fun _ _ _ h => h) (yieldsIf_load_mid rfl 37 _ rfl bx 0 rfl xs _ (fun _ h => h) Tryz.underlying37 rfl q16) (by assumption) ?_
      try simp only [Act.put, List.setIfInBounds_toArray, List.set_cons_zero, List.set_cons_succ]
      refine wpAnyH_ready (rs := [1, 3]) (by kernel_rfl) (by simp) ?_
      refine AllReadyH.cons (o := { dst := some 37, op := Op.load 47 (Operand.tmp 36), type := 47, pos := "learn.go:61", after := #[{ on := 0, ground := Ground.data }], guard := none }) rfl (fun K hK => ?_) (AllReadyH.cons (o := { dst := some 39, op := Op.call { callee := Callee.value (Operand.func 18), args := #[Operand.tmp 38], argTypes := #[37] }, type := 37, pos := "learn.go:61", after := #[{ on := 2, ground := Ground.data }], guard := none }) rfl (fun K hK => ?_) AllReadyH.nil)
      · go_simp
        refine hK.out _ _ (by first | (with_reducible exact g7) | (with_reducible exact g6) | (with_reducible exact g5)) (fun hHeld => ?_)
        clear hK K
        refine wpAnyH_ready (rs := [3]) (by kernel_rfl) (by simp) ?_
        refine AllReadyH.cons (o := { dst := some 39, op := Op.call { callee := Callee.value (Operand.func 18), args := #[Operand.tmp 38], argTypes := #[37] }, type := 37, pos := "learn.go:61", after := #[{ on := 2, ground := Ground.data }], guard := none }) rfl (fun K hK => ?_) AllReadyH.nil
        go_simp
        refine (txClone_any xs t _ HX.out.2.1 HX.out.2.2.1).mono ?_
        rintro _ w6 ⟨ds, rfl, hr6, b6⟩
        obtain ⟨v9, w7, hrun, hc7, hf7, hG7, hkk, hk7, ⟨vb, vc, hv9⟩, hvo⟩ := LsR.grow HX.out.1 t ds b6 hr6 (by rw [List.length_take]; omega)
        have g6 : w6.rangeAt bx 0 xs := fun j u hj => cell_later (g5 j u hj) b6 (Nat.le_refl _)
        have k6 : w6.cell? ⟨b4, 5, none⟩ = some v' := cell_later k5 b6 (Nat.le_refl _)
        have hbs := bsl16 (tx_form hr6.sees) w6
        have g7 : (w6.alloc (.cells (txHead t ++ ds).toArray 37)).rangeAt bx 0 xs := fun j u hj => cell_later (g6 j u hj) (one_alloc w6 (.cells (txHead t ++ ds).toArray 37 (0, 0))) (Nat.le_refl _)
        have k7 : (w6.alloc (.cells (txHead t ++ ds).toArray 37)).cell? ⟨b4, 5, none⟩ = some v' := cell_later k6 (one_alloc w6 (.cells (txHead t ++ ds).toArray 37 (0, 0))) (Nat.le_refl _)
        have nbx : v'.ownBlock ≠ some bx := fun e => hvbx bx e rfl
        have g8 : w7.rangeAt bx 0 xs := fun j u hj => (World.cell?_of_block (hkk.block bx lb5 nbx)).trans (g5 j u hj)
        have g9 : (w7.setCell ⟨b4, 5, none⟩ v9).rangeAt bx 0 xs := fun j u hj => (World.cell?_of_block (Below.heap_setCell _ _ _ _ hbx4)).trans (g8 j u hj)
        have H7 : Hid (LsR b4 B4 54 (#[.int .u32 ep, .bool false, .slice none 0 0, .int .u32 e, .int .u32 n, v'].setIfInBounds 5 v9) 5 (w7.setCell ⟨b4, 5, none⟩ v9) v9 (es' ++ [txHead t ++ ds]) (l.take k ++ [t]) ∧ Kept wX.drew (w7.setCell ⟨b4, 5, none⟩ v9) (fun k => v'.ownBlock = some k ∨ k = b4) ∧ ∀ k, v'.ownBlock = some k → B4 ≤ k ∧ k < wX.drew.heap.size) := ⟨hG7, hk7, hvo⟩
        rw [show (l.take k).length = k from by rw [List.length_take]; omega] at hv9
        subst hv9
        clear hr6 b6 hG7 hk7 hkk hvo
        refine hK.out _ _ g6 (fun hHeld => ?_)
        clear hK K
        refine wpAnyH_ready (rs := [4]) (by kernel_rfl) (by simp) ?_
        refine AllReadyH.cons (o := { dst := some 40, op := Op.buildSlice 47 1 #[(0, Operand.tmp 39)], type := 47, pos := "learn.go:61", after := #[{ on := 3, ground := Ground.data }], guard := none }) rfl (fun K hK => ?_) AllReadyH.nil
        refine (if_pos (by kernel_rfl)).mpr ?_
        refine wp_bsl1 47 _ rfl (.agg (txHead t ++ ds).toArray) _ _ rfl hbs ?_
        refine hK.out _ _ g7 (fun hHeld => ?_)
        clear hK K
        refine wpAnyH_ready (rs := [5]) (by kernel_rfl) (by simp) ?_
        refine AllReadyH.cons (o := { dst := some 41, op := Op.call { callee := Callee.builtin Builtin.append, args := #[Operand.tmp 37, Operand.tmp 40], argTypes := #[47, 47] }, type := 47, pos := "learn.go:61", after := #[{ on := 1, ground := Ground.data }, { on := 4, ground := Ground.data }, { on := 3, ground := Ground.chain }], guard := none }) rfl (fun K hK => ?_) AllReadyH.nil
        refine (if_pos (by kernel_rfl)).mpr ?_
        refine wp_appR _ _ 47 rfl v' _ _ w7 rfl rfl hrun ?_
        refine hK.out _ _ g8 (fun hHeld => ?_)
        clear hK K
        refine wpAnyH_take (i := 6) (oi := { dst := some 42, op := Op.fieldAddr 54 (Operand.tmp 4) 4, type := 0, pos := "learn.go:61", after := #[{ on := 0, ground := Ground.phase }, { on := 1, ground := Ground.phase }, { on := 2, ground := Ground.phase }, { on := 3, ground := Ground.phase }, { on := 4, ground := Ground.phase }, { on := 5, ground := Ground.phase }], guard := none }) (v := ?_) rfl (by kernel_rfl) (by kernel_rfl) (by kernel_rfl) (fun _ _ _ h => h) (Or.inl ⟨by rfl, ?_⟩) (by assumption) ?_
        rotate_left
        · (intro w hSw; (try dsimp only at hSw); go_simp) <;> with_reducible rfl
        try simp only [Act.put, List.setIfInBounds_toArray, List.set_cons_zero, List.set_cons_succ]
        refine wpAnyH_ready (rs := [7]) (by kernel_rfl) (by simp) ?_
        refine AllReadyH.cons (o := { dst := none, op := Op.store 47 (Operand.tmp 42) (Operand.tmp 41), type := 0, pos := "learn.go:61", after := #[{ on := 6, ground := Ground.data }, { on := 5, ground := Ground.data }, { on := 5, ground := Ground.chain }, { on := 0, ground := Ground.phase }, { on := 1, ground := Ground.phase }, { on := 2, ground := Ground.phase }, { on := 3, ground := Ground.phase }, { on := 4, ground := Ground.phase }, { on := 5, ground := Ground.phase }], guard := none }) rfl (fun K hK => ?_) AllReadyH.nil
        go_simp
        refine hK.out _ _ g9 (fun hHeld => ?_)
        clear hK K
        refine wpAnyH_done (by kernel_rfl) ?_ _
        clear hHeld g5 g6 g7 g8 g9 k5 k6 k7 hc7 hf7 hbs hrun
        have kX : Kept wr (w7.setCell ⟨b4, 5, none⟩ (.slice vb (k + 1) vc)) (fun k => v'.ownBlock = some k ∨ k = b4) := HX.out.2.2.2.2.trans H7.out.2.1 (fun k _ e => e)
        have H8 : Hid (Below w.heap.size w (w7.setCell ⟨b4, 5, none⟩ (.slice vb (k + 1) vc)) ∧ (w7.setCell ⟨b4, 5, none⟩ (.slice vb (k + 1) vc)).heap[w.heap.size]? = some (.cells brZ 54 (0, 0)) ∧ LsR b4 B4 54 #[.int .u32 ep, .bool false, .slice none 0 0, .int .u32 e, .int .u32 n, (.slice vb (k + 1) vc)] 5 (w7.setCell ⟨b4, 5, none⟩ (.slice vb (k + 1) vc)) (.slice vb (k + 1) vc) (es' ++ [txHead t ++ ds]) (l.take (k + 1))) := by
          refine ⟨HB.out.1.trans (kX.below HB.out.1.size (fun q e => ?_)), kX.heap HB.out.2.1 (fun e => ?_), by rw [HX.out.2.2.2.1]; exact H7.out.1⟩
          · rcases e with e | e
            · have := (HB.out.2.2.own.lt q e).1; omega
            · omega
          · rcases e with e | e
            · have := (HB.out.2.2.own.lt _ e).1; omega
            · omega
        clear H7 kX
        generalize w7.setCell ⟨b4, 5, none⟩ (.slice vb (k + 1) vc) = w8 at *
        go_wp2_with fail
        go_roundw
        case rel => exact ⟨k + 1, _, _, by omega, by go_num, H8⟩
        case measure => simp [intOf]; omega
      · go_simp
        refine (txClone_any xs t _ HX.out.2.1 HX.out.2.2.1).mono ?_
        rintro _ w6 ⟨ds, rfl, hr6, b6⟩
        obtain ⟨v9, w7, hrun, hc7, hf7, hG7, hkk, hk7, ⟨vb, vc, hv9⟩, hvo⟩ := LsR.grow HX.out.1 t ds b6 hr6 (by rw [List.length_take]; omega)
        have g6 : w6.rangeAt bx 0 xs := fun j u hj => cell_later (g5 j u hj) b6 (Nat.le_refl _)
        have k6 : w6.cell? ⟨b4, 5, none⟩ = some v' := cell_later k5 b6 (Nat.le_refl _)
        have hbs := bsl16 (tx_form hr6.sees) w6
        have g7 : (w6.alloc (.cells (txHead t ++ ds).toArray 37)).rangeAt bx 0 xs := fun j u hj => cell_later (g6 j u hj) (one_alloc w6 (.cells (txHead t ++ ds).toArray 37 (0, 0))) (Nat.le_refl _)
        have k7 : (w6.alloc (.cells (txHead t ++ ds).toArray 37)).cell? ⟨b4, 5, none⟩ = some v' := cell_later k6 (one_alloc w6 (.cells (txHead t ++ ds).toArray 37 (0, 0))) (Nat.le_refl _)
        have nbx : v'.ownBlock ≠ some bx := fun e => hvbx bx e rfl
        have g8 : w7.rangeAt bx 0 xs := fun j u hj => (World.cell?_of_block (hkk.block bx lb5 nbx)).trans (g5 j u hj)
        have g9 : (w7.setCell ⟨b4, 5, none⟩ v9).rangeAt bx 0 xs := fun j u hj => (World.cell?_of_block (Below.heap_setCell _ _ _ _ hbx4)).trans (g8 j u hj)
        have H7 : Hid (LsR b4 B4 54 (#[.int .u32 ep, .bool false, .slice none 0 0, .int .u32 e, .int .u32 n, v'].setIfInBounds 5 v9) 5 (w7.setCell ⟨b4, 5, none⟩ v9) v9 (es' ++ [txHead t ++ ds]) (l.take k ++ [t]) ∧ Kept wX.drew (w7.setCell ⟨b4, 5, none⟩ v9) (fun k => v'.ownBlock = some k ∨ k = b4) ∧ ∀ k, v'.ownBlock = some k → B4 ≤ k ∧ k < wX.drew.heap.size) := ⟨hG7, hk7, hvo⟩
        rw [show (l.take k).length = k from by rw [List.length_take]; omega] at hv9
        subst hv9
        clear hr6 b6 hG7 hk7 hkk hvo
        refine hK.out _ _ g6 (fun hHeld => ?_)
        clear hK K
        refine wpAnyH_ready (rs := [1, 4]) (by kernel_rfl) (by simp) ?_
        refine AllReadyH.cons (o := { dst := some 37, op := Op.load 47 (Operand.tmp 36), type := 47, pos := "learn.go:61", after := #[{ on := 0, ground := Ground.data }], guard := none }) rfl (fun K hK => ?_) (AllReadyH.cons (o := { dst := some 40, op := Op.buildSlice 47 1 #[(0, Operand.tmp 39)], type := 47, pos := "learn.go:61", after := #[{ on := 3, ground := Ground.data }], guard := none }) rfl (fun K hK => ?_) AllReadyH.nil)
        · go_simp
          refine hK.out _ _ (by first | (with_reducible exact g7) | (with_reducible exact g6) | (with_reducible exact g5)) (fun hHeld => ?_)
          clear hK K
          refine wpAnyH_ready (rs := [4]) (by kernel_rfl) (by simp) ?_
          refine AllReadyH.cons (o := { dst := some 40, op := Op.buildSlice 47 1 #[(0, Operand.tmp 39)], type := 47, pos := "learn.go:61", after := #[{ on := 3, ground := Ground.data }], guard := none }) rfl (fun K hK => ?_) AllReadyH.nil
          refine (if_pos (by kernel_rfl)).mpr ?_
          refine wp_bsl1 47 _ rfl (.agg (txHead t ++ ds).toArray) _ _ rfl hbs ?_
          refine hK.out _ _ g7 (fun hHeld => ?_)
          clear hK K
          refine wpAnyH_ready (rs := [5]) (by kernel_rfl) (by simp) ?_
          refine AllReadyH.cons (o := { dst := some 41, op := Op.call { callee := Callee.builtin Builtin.append, args := #[Operand.tmp 37, Operand.tmp 40], argTypes := #[47, 47] }, type := 47, pos := "learn.go:61", after := #[{ on := 1, ground := Ground.data }, { on := 4, ground := Ground.data }, { on := 3, ground := Ground.chain }], guard := none }) rfl (fun K hK => ?_) AllReadyH.nil
          refine (if_pos (by kernel_rfl)).mpr ?_
          refine wp_appR _ _ 47 rfl v' _ _ w7 rfl rfl hrun ?_
          refine hK.out _ _ g8 (fun hHeld => ?_)
          clear hK K
          refine wpAnyH_take (i := 6) (oi := { dst := some 42, op := Op.fieldAddr 54 (Operand.tmp 4) 4, type := 0, pos := "learn.go:61", after := #[{ on := 0, ground := Ground.phase }, { on := 1, ground := Ground.phase }, { on := 2, ground := Ground.phase }, { on := 3, ground := Ground.phase }, { on := 4, ground := Ground.phase }, { on := 5, ground := Ground.phase }], guard := none }) (v := ?_) rfl (by kernel_rfl) (by kernel_rfl) (by kernel_rfl) (fun _ _ _ h => h) (Or.inl ⟨by rfl, ?_⟩) (by assumption) ?_
          rotate_left
          · (intro w hSw; (try dsimp only at hSw); go_simp) <;> with_reducible rfl
          try simp only [Act.put, List.setIfInBounds_toArray, List.set_cons_zero, List.set_cons_succ]
          refine wpAnyH_ready (rs := [7]) (by kernel_rfl) (by simp) ?_
          refine AllReadyH.cons (o := { dst := none, op := Op.store 47 (Operand.tmp 42) (Operand.tmp 41), type := 0, pos := "learn.go:61", after := #[{ on := 6, ground := Ground.data }, { on := 5, ground := Ground.data }, { on := 5, ground := Ground.chain }, { on := 0, ground := Ground.phase }, { on := 1, ground := Ground.phase }, { on := 2, ground := Ground.phase }, { on := 3, ground := Ground.phase }, { on := 4, ground := Ground.phase }, { on := 5, ground := Ground.phase }], guard := none }) rfl (fun K hK => ?_) AllReadyH.nil
          go_simp
          refine hK.out _ _ g9 (fun hHeld => ?_)
          clear hK K
          refine wpAnyH_done (by kernel_rfl) ?_ _
          clear hHeld g5 g6 g7 g8 g9 k5 k6 k7 hc7 hf7 hbs hrun
          have kX : Kept wr (w7.setCell ⟨b4, 5, none⟩ (.slice vb (k + 1) vc)) (fun k => v'.ownBlock = some k ∨ k = b4) := HX.out.2.2.2.2.trans H7.out.2.1 (fun k _ e => e)
          have H8 : Hid (Below w.heap.size w (w7.setCell ⟨b4, 5, none⟩ (.slice vb (k + 1) vc)) ∧ (w7.setCell ⟨b4, 5, none⟩ (.slice vb (k + 1) vc)).heap[w.heap.size]? = some (.cells brZ 54 (0, 0)) ∧ LsR b4 B4 54 #[.int .u32 ep, .bool false, .slice none 0 0, .int .u32 e, .int .u32 n, (.slice vb (k + 1) vc)] 5 (w7.setCell ⟨b4, 5, none⟩ (.slice vb (k + 1) vc)) (.slice vb (k + 1) vc) (es' ++ [txHead t ++ ds]) (l.take (k + 1))) := by
            refine ⟨HB.out.1.trans (kX.below HB.out.1.size (fun q e => ?_)), kX.heap HB.out.2.1 (fun e => ?_), by rw [HX.out.2.2.2.1]; exact H7.out.1⟩
            · rcases e with e | e
              · have := (HB.out.2.2.own.lt q e).1; omega
              · omega
            · rcases e with e | e
              · have := (HB.out.2.2.own.lt _ e).1; omega
              · omega
          clear H7 kX
          generalize w7.setCell ⟨b4, 5, none⟩ (.slice vb (k + 1) vc) = w8 at *
          go_wp2_with fail
          go_roundw
          case rel => exact ⟨k + 1, _, _, by omega, by go_num, H8⟩
          case measure => simp [intOf]; omega
        · refine (if_pos (by kernel_rfl)).mpr ?_
          refine wp_bsl1 47 _ rfl (.agg (txHead t ++ ds).toArray) _ _ rfl hbs ?_
          refine hK.out _ _ g7 (fun hHeld => ?_)
          clear hK K
          refine wpAnyH_ready (rs := [1]) (by kernel_rfl) (by simp) ?_
          refine AllReadyH.cons (o := { dst := some 37, op := Op.load 47 (Operand.tmp 36), type := 47, pos := "learn.go:61", after := #[{ on := 0, ground := Ground.data }], guard := none }) rfl (fun K hK => ?_) AllReadyH.nil
          go_simp
          refine hK.out _ _ (by first | (with_reducible exact g7) | (with_reducible exact g6) | (with_reducible exact g5)) (fun hHeld => ?_)
          clear hK K
          refine wpAnyH_ready (rs := [5]) (by kernel_rfl) (by simp) ?_
          refine AllReadyH.cons (o := { dst := some 41, op := Op.call { callee := Callee.builtin Builtin.append, args := #[Operand.tmp 37, Operand.tmp 40], argTypes := #[47, 47] }, type := 47, pos := "learn.go:61", after := #[{ on := 1, ground := Ground.data }, { on := 4, ground := Ground.data }, { on := 3, ground := Ground.chain }], guard := none }) rfl (fun K hK => ?_) AllReadyH.nil
          refine (if_pos (by kernel_rfl)).mpr ?_
          refine wp_appR _ _ 47 rfl v' _ _ w7 rfl rfl hrun ?_
          refine hK.out _ _ g8 (fun hHeld => ?_)
          clear hK K
          refine wpAnyH_take (i := 6) (oi := { dst := some 42, op := Op.fieldAddr 54 (Operand.tmp 4) 4, type := 0, pos := "learn.go:61", after := #[{ on := 0, ground := Ground.phase }, { on := 1, ground := Ground.phase }, { on := 2, ground := Ground.phase }, { on := 3, ground := Ground.phase }, { on := 4, ground := Ground.phase }, { on := 5, ground := Ground.phase }], guard := none }) (v := ?_) rfl (by kernel_rfl) (by kernel_rfl) (by kernel_rfl) (fun _ _ _ h => h) (Or.inl ⟨by rfl, ?_⟩) (by assumption) ?_
          rotate_left
          · (intro w hSw; (try dsimp only at hSw); go_simp) <;> with_reducible rfl
          try simp only [Act.put, List.setIfInBounds_toArray, List.set_cons_zero, List.set_cons_succ]
          refine wpAnyH_ready (rs := [7]) (by kernel_rfl) (by simp) ?_
          refine AllReadyH.cons (o := { dst := none, op := Op.store 47 (Operand.tmp 42) (Operand.tmp 41), type := 0, pos := "learn.go:61", after := #[{ on := 6, ground := Ground.data }, { on := 5, ground := Ground.data }, { on := 5, ground := Ground.chain }, { on := 0, ground := Ground.phase }, { on := 1, ground := Ground.phase }, { on := 2, ground := Ground.phase }, { on := 3, ground := Ground.phase }, { on := 4, ground := Ground.phase }, { on := 5, ground := Ground.phase }], guard := none }) rfl (fun K hK => ?_) AllReadyH.nil
          go_simp
          refine hK.out _ _ g9 (fun hHeld => ?_)
          clear hK K
          refine wpAnyH_done (by kernel_rfl) ?_ _
          clear hHeld g5 g6 g7 g8 g9 k5 k6 k7 hc7 hf7 hbs hrun
          have kX : Kept wr (w7.setCell ⟨b4, 5, none⟩ (.slice vb (k + 1) vc)) (fun k => v'.ownBlock = some k ∨ k = b4) := HX.out.2.2.2.2.trans H7.out.2.1 (fun k _ e => e)
          have H8 : Hid (Below w.heap.size w (w7.setCell ⟨b4, 5, none⟩ (.slice vb (k + 1) vc)) ∧ (w7.setCell ⟨b4, 5, none⟩ (.slice vb (k + 1) vc)).heap[w.heap.size]? = some (.cells brZ 54 (0, 0)) ∧ LsR b4 B4 54 #[.int .u32 ep, .bool false, .slice none 0 0, .int .u32 e, .int .u32 n, (.slice vb (k + 1) vc)] 5 (w7.setCell ⟨b4, 5, none⟩ (.slice vb (k + 1) vc)) (.slice vb (k + 1) vc) (es' ++ [txHead t ++ ds]) (l.take (k + 1))) := by
            refine ⟨HB.out.1.trans (kX.below HB.out.1.size (fun q e => ?_)), kX.heap HB.out.2.1 (fun e => ?_), by rw [HX.out.2.2.2.1]; exact H7.out.1⟩
            · rcases e with e | e
              · have := (HB.out.2.2.own.lt q e).1; omega
              · omega
            · rcases e with e | e
              · have := (HB.out.2.2.own.lt _ e).1; omega
              · omega
          clear H7 kX
          generalize w7.setCell ⟨b4, 5, none⟩ (.slice vb (k + 1) vc) = w8 at *
          go_wp2_with fail
          go_roundw
          case rel => exact ⟨k + 1, _, _, by omega, by go_num, H8⟩
          case measure => simp [intOf]; omega
    · obtain rfl : k = l.length := by omega
      rw [List.take_length] at HB
      have rT := HB.out.2.1
      have r4 := HB.out.2.2.at_
      have hso : v'.oneCell' = true := by
        obtain ⟨_, _, e, _⟩ := txs_shape (full_sees HB.out.2.2.full HB.out.2.2.own)
        rw [e]; rfl
      have hall : (#[.int .u32 ep, .bool false, .slice none 0 0, .int .u32 e, .int .u32 n, v'] : Array Value).all (·.oneCell') = true := by simp [Value.oneCell']; exact hso
      have v0 := setRow_heap _ w.heap.size _ #[.int .u32 ep, .bool false, .slice none 0 0, .int .u32 e, .int .u32 n, v'] _ _ rT
      have kT : Kept wr (wr.setRow w.heap.size #[.int .u32 ep, .bool false, .slice none 0 0, .int .u32 e, .int .u32 n, v']) (fun k => k = w.heap.size) := ⟨rfl, rfl, rfl, by simp, fun k _ hn => setRow_other _ _ _ _ hn⟩
      have HZ : Hid (Below w.heap.size w (wr.setRow w.heap.size #[.int .u32 ep, .bool false, .slice none 0 0, .int .u32 e, .int .u32 n, v']) ∧ SeesTxs (wr.setRow w.heap.size #[.int .u32 ep, .bool false, .slice none 0 0, .int .u32 e, .int .u32 n, v']) v' l) := by
        refine ⟨HB.out.1.trans (kT.below HB.out.1.size (fun q e => by omega)), ?_⟩
        obtain ⟨h1, h2⟩ := full_kept HB.out.2.2.full HB.out.2.2.own kT (fun q e => .inl (by omega))
        exact full_sees h1 h2
      clear kT HB
      go_wp2_with (first
        | (refine wpList_load_row rfl 54 _ rfl b4 rfl 54 _ (0, 0) _ r4 Tryz.underlying54 rfl brSz ?_)
        | (refine wpList_store_row rfl 54 _ _ rfl w.heap.size _ rfl rfl 54 _ rT brSz rfl hall ?_))
      refine bodyPost_ret (v := .tuple #[.agg #[.int .u32 ep, .bool false, .slice none 0 0, .int .u32 e, .int .u32 n, v'], .bool true]) ?_ rfl ⟨HZ.out.1, v', rfl, HZ.out.2⟩
      have hres : Tryz.f7.results = #[.cell 2 54, .tmp 3] := by kernel_rfl
      have l2 := run_loadVar_row (P := Tryz.prog) _ w.heap.size 54 54 _ _ _ v0 Tryz.underlying54 rfl brSz
      simp only [results, hres]
      simp [Sem.run_bind, Result.andThen, asAddr, l2]
end Go.Proofs.YtgjjcmhlmdfccaaGreatDoor
