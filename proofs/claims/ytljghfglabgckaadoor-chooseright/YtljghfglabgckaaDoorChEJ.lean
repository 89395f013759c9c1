/- Do zxids rise: what a loop over them answers. -/
import Derived.Test.YtljghfglabgckaaDoorChCJ
namespace Go.Proofs.YtljghfglabgckaaDoor
open Go.RowKit
set_option maxRecDepth 8000

theorem lawRises_any_zflip (e n f m : Int) : decide (0 < zcmp f m e n) = decide (zcmp e n f m = -1) := by
  unfold zcmp
  by_cases h1 : e < f ∨ (e = f ∧ n < m)
  · rw [if_pos h1, if_neg (by omega), if_neg (by omega)]; rfl
  · rw [if_neg h1]
    by_cases h2 : e = f ∧ n = m
    · rw [if_pos h2, if_neg (by omega), if_pos (by omega)]; rfl
    · rw [if_neg h2, if_pos (by omega)]; rfl

set_option maxHeartbeats 2000000 in
theorem lawRises_any (e n : Int) (v : Value) (l : List TxD) (w : World) (h : SeesTxs w v l) :
    Calls Tryd.prog 8 #[zx e n, v] w fun r w' => r = .returned (.bool (rises e n l)) ∧ Below w.heap.size w w' := by
  obtain ⟨ao, cap, rfl, hlc, hcm⟩ := txs_shape h
  have H : Hid (SeesTxs w (.slice ao l.length cap) l) := h
  unfold maxLen at hcm
  clear h
  go_enter Tryd.func8, Tryd.ntmps8
  go_wp2_with fail
  go_loopw [4, 5] (fun _ i wr => ∃ (k : Nat) (ea na : Int), k ≤ l.length ∧ i = .int .i64 k ∧ Hid (rises e n l = rises ea na (l.drop k)) ∧ Hid (Below w.heap.size w wr ∧ wr.heap[w.heap.size]? = some (.cells #[.int .u32 ea, .int .u32 na] 30 (0, 0)))) (fun _ i _ => l.length - (intOf i).toNat)
  case atStart => exact ⟨0, e, n, Nat.zero_le _, rfl, rfl, one_alloc _ _, heap_alloc_new _ _⟩
  case round =>
    obtain ⟨k, ea, na, hk, rfl, HQ, HB⟩ := hrel
    by_cases hlt : k < l.length
    · have hd : l.drop k = l[k] :: l.drop (k + 1) := List.drop_eq_getElem_cons hlt
      have HR : Hid (rises e n l = (decide (0 < zcmp l[k].ep l[k].n ea na) && rises l[k].ep l[k].n (l.drop (k + 1)))) := by show rises e n l = _; rw [HQ.out, hd]; rfl
      obtain ⟨b, off, cap', rc, hv, _, _, _, hat⟩ := txs_at (H.out.below HB.out.1 (Nat.le_refl _)) k hlt
      simp at hv
      obtain ⟨rfl, rfl⟩ := hv
      have HS : Hid (∀ W, Below wr.heap.size wr W → W.cell? ⟨w.heap.size, 0, none⟩ = some (.int .u32 ea) ∧ W.cell? ⟨w.heap.size, 1, none⟩ = some (.int .u32 na) ∧ W.cell? ⟨b, off + k * 16, none⟩ = some (.int .u32 l[k].ep) ∧ W.cell? ⟨b, off + k * 16 + 1, none⟩ = some (.int .u32 l[k].n)) := fun W hW =>
        ⟨cell_later (cellAt HB.out.2 rfl) hW (Nat.le_refl _), cell_later (cellAt HB.out.2 rfl) hW (Nat.le_refl _), cell_later (hat 0 (by omega)) hW (Nat.le_refl _), cell_later (hat 1 (by omega)) hW (Nat.le_refl _)⟩
      clear hd hat HQ
      generalize l[k] = t at *
      go_upto_region 4 with fail
      refine wp_region_held_drew (S := (fun W => W.cell? ⟨w.heap.size, 0, none⟩ = some (.int .u32 ea) ∧ W.cell? ⟨w.heap.size, 1, none⟩ = some (.int .u32 na) ∧ W.cell? ⟨b, off + k * 16, none⟩ = some (.int .u32 t.ep) ∧ W.cell? ⟨b, off + k * 16 + 1, none⟩ = some (.int .u32 t.n))) (by kernel_rfl) ?_ (fun hHeld => ?_)
      · exact HS.out _ (below_drewN (Below.refl _ _) 1)
      refine wpAnyH_take (i := 0) (oi := { dst := some 12, op := Op.load 30 (Operand.tmp 2), type := 30, pos := "law.go:94", after := #[], guard := none }) (v := ?_) rfl (by kernel_rfl) (by kernel_rfl) (by kernel_rfl) (fun _ _ _ h => h) (Or.inl ⟨by rfl, ?_⟩) (by assumption) ?_
      rotate_left
      · (intro w hSw; (try dsimp only at hSw); go_simp) <;> with_reducible rfl
      try simp only [Act.put, List.setIfInBounds_toArray, List.set_cons_zero, List.set_cons_succ]
      refine wpAnyH_take (i := 1) (oi := { dst := some 13, op := Op.move (Operand.tmp 1), type := 22, pos := "law.go:94", after := #[], guard := none }) (v := ?_) rfl (by kernel_rfl) (by kernel_rfl) (by kernel_rfl) (fun _ _ _ h => h) (Or.inl ⟨by rfl, ?_⟩) (by assumption) ?_
      rotate_left
      · (intro w hSw; (try dsimp only at hSw); go_simp) <;> with_reducible rfl
      try simp only [Act.put, List.setIfInBounds_toArray, List.set_cons_zero, List.set_cons_succ]
      refine wpAnyH_take (i := 2) (oi := { dst := some 14, op := Op.move (Operand.tmp 5), type := 3, pos := "law.go:94", after := #[], guard := none }) (v := ?_) rfl (by kernel_rfl) (by kernel_rfl) (by kernel_rfl) (fun _ _ _ h => h) (Or.inl ⟨by rfl, ?_⟩) (by assumption) ?_
      rotate_left
      · (intro w hSw; (try dsimp only at hSw); go_simp) <;> with_reducible rfl
      try simp only [Act.put, List.setIfInBounds_toArray, List.set_cons_zero, List.set_cons_succ]
      refine wpAnyH_take (i := 3) (oi := { dst := some 15, op := Op.indexAddr 22 (Operand.tmp 13) (Operand.tmp 14), type := 0, pos := "law.go:94", after := #[{ on := 1, ground := Ground.data }, { on := 2, ground := Ground.data }], guard := none }) (v := ?_) rfl (by kernel_rfl) (by kernel_rfl) (by kernel_rfl) (fun _ _ _ h => h) (Or.inl ⟨by rfl, ?_⟩) (by assumption) ?_
      rotate_left
      · (intro w hSw; (try dsimp only at hSw); go_simp) <;> with_reducible rfl
      try simp only [Act.put, List.setIfInBounds_toArray, List.set_cons_zero, List.set_cons_succ]
      refine wpAnyH_take (i := 4) (oi := { dst := some 16, op := Op.fieldAddr 49 (Operand.tmp 15) 0, type := 0, pos := "law.go:94", after := #[{ on := 3, ground := Ground.data }], guard := none }) (v := ?_) rfl (by kernel_rfl) (by kernel_rfl) (by kernel_rfl) (fun _ _ _ h => h) (Or.inl ⟨by rfl, ?_⟩) (by assumption) ?_
      rotate_left
      · (intro w hSw; (try dsimp only at hSw); go_simp) <;> with_reducible rfl
      try simp only [Act.put, List.setIfInBounds_toArray, List.set_cons_zero, List.set_cons_succ]
      refine wpAnyH_take (i := 5) (oi := { dst := some 17, op := Op.load 30 (Operand.tmp 16), type := 30, pos := "law.go:94", after := #[{ on := 4, ground := Ground.data }], guard := none }) (v := ?_) rfl (by kernel_rfl) (by kernel_rfl) (by kernel_rfl) (fun _ _ _ h => h) (Or.inl ⟨by rfl, ?_⟩) (by assumption) ?_
      rotate_left
      · (intro w hSw; (try dsimp only at hSw); go_simp) <;> with_reducible rfl
      try simp only [Act.put, List.setIfInBounds_toArray, List.set_cons_zero, List.set_cons_succ]
      refine wpAnyH_ready (rs := [6]) (by kernel_rfl) (by simp) ?_
      refine AllReadyH.cons (o := { dst := some 18, op := Op.call { callee := Callee.value (Operand.func 22), args := #[Operand.tmp 12, Operand.tmp 17], argTypes := #[30, 30] }, type := 3, pos := "law.go:94", after := #[{ on := 0, ground := Ground.data }, { on := 5, ground := Ground.data }], guard := none }) rfl (fun K hK => ?_) AllReadyH.nil
      go_simp
      refine (refCompare_any ea na t.ep t.n _).mono ?_
      rintro _ w1 ⟨rfl, b1⟩
      have HB1 : Hid (Below wr.heap.size wr w1) := (below_drewN (Below.refl wr.heap.size wr) 1).trans b1
      clear b1
      refine hK.out _ _ (HS.out _ HB1.out) (fun hHeld => ?_)
      clear hK K
      refine wpAnyH_take (i := 7) (oi := { dst := some 19, op := Op.binOp BinOp.geq 3 (Operand.tmp 18) (Operand.const (Value.int IntKind.i64 0)) 3, type := 4, pos := "law.go:94", after := #[{ on := 6, ground := Ground.data }], guard := none }) (v := ?_) rfl (by kernel_rfl) (by kernel_rfl) (by kernel_rfl) (fun _ _ _ h => h) (Or.inl ⟨by rfl, ?_⟩) (by assumption) ?_
      rotate_left
      · (intro w hSw; (try dsimp only at hSw); go_simp) <;> with_reducible rfl
      try simp only [Act.put, List.setIfInBounds_toArray, List.set_cons_zero, List.set_cons_succ]
      refine wpAnyH_done (by kernel_rfl) ?_ _
      obtain ⟨x0, x1, g0, g1⟩ := hHeld
      have HF : Hid (Below w.heap.size w w1 ∧ w1.heap[w.heap.size]? = some (.cells #[.int .u32 ea, .int .u32 na] 30 (0, 0))) := ⟨HB.out.1.trans (HB1.out.mono HB.out.1.size), (Below.kept HB1.out).heap HB.out.2 (by have := lt_of_block HB.out.2; omega)⟩
      have f0 : w1.frozen? ⟨w.heap.size, 0, none⟩ = false := frozen_of_row _ _ _ _ _ HF.out.2
      have f1 : w1.frozen? ⟨w.heap.size, 1, none⟩ = false := frozen_of_row _ _ _ _ _ HF.out.2
      clear HB1 HB HS
      by_cases hc : zcmp ea na t.ep t.n = -1
      · have HT : Hid (decide (0 < zcmp t.ep t.n ea na) = true) := by show decide _ = true; rw [lawRises_any_zflip, hc]; rfl
        have hc' : decide (0 ≤ zcmp ea na t.ep t.n) = false := by rw [hc]; rfl
        clear hc
        generalize hZ : decide (0 ≤ zcmp ea na t.ep t.n) = Z at *
        clear hZ
        subst hc'
        go_wp2_with fail
        go_roundw
        case rel =>
          refine ⟨k + 1, t.ep, t.n, by omega, by go_num, by show rises e n l = _; rw [HR.out, HT.out]; rfl, ?_, ?_⟩
          · refine HF.out.1.trans (((Kept.refl w1 (fun k => k = w.heap.size)).setCell ⟨w.heap.size, 0, none⟩ _ (fun _ => rfl)).setCell ⟨w.heap.size, 1, none⟩ _ (fun _ => rfl) |>.below HF.out.1.size (fun k e => by omega))
          · rw [heap_setR _ (heap_setR _ HF.out.2)]; rfl
        case measure => simp [intOf]; omega
      · have HT : Hid (decide (0 < zcmp t.ep t.n ea na) = false) := by show decide _ = false; rw [lawRises_any_zflip]; exact decide_eq_false hc
        have hc' : decide (0 ≤ zcmp ea na t.ep t.n) = true := by
          apply decide_eq_true
          have : zcmp ea na t.ep t.n = -1 ∨ zcmp ea na t.ep t.n = 0 ∨ zcmp ea na t.ep t.n = 1 := by
            unfold zcmp
            split
            · exact .inl rfl
            · split
              · exact .inr (.inl rfl)
              · exact .inr (.inr rfl)
          omega
        clear hc
        generalize hZ : decide (0 ≤ zcmp ea na t.ep t.n) = Z at *
        clear hZ
        subst hc'
        go_wp2_with fail
        go_ret
        exact ⟨by rw [HR.out, HT.out]; rfl, HF.out.1⟩
    · obtain rfl : k = l.length := by omega
      have HR : Hid (rises e n l = true) := by show rises e n l = true; rw [HQ.out, List.drop_length]; rfl
      have HB' : Hid (Below w.heap.size w wr) := HB.out.1
      clear HQ HB
      go_wp2_with fail
      go_ret
      exact ⟨by rw [HR.out]; rfl, HB'.out⟩
end Go.Proofs.YtljghfglabgckaaDoor
