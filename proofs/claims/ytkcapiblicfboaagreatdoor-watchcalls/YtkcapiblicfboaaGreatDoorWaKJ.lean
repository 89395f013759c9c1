/- What a board's shrink and Clear answer. -/
import Derived.Test.YtkcapiblicfboaaGreatDoorWaGJ
import Derived.Deep.RegionHeld
namespace Go.Proofs.YtkcapiblicfboaaGreatDoor
open Go.RowKit Go.Shelf
set_option maxRecDepth 8000
set_option linter.unusedSimpArgs false

set_option maxHeartbeats 2000000 in
theorem shrink_any {w : World} {b m : Nat} {v : Value} {l l' : List WaT} (h : Bo w b m v l l') (hl : l.length ≤ 1000) :
    Calls Tryz.prog 52 #[.pointer (some ⟨b, 0, none⟩)] w fun e w' => e = .returned (.tuple #[]) ∧ ∃ v', Bo w' b m v' (l.filter (keepB l')) l' ∧ Kept w w' (Ft b m v) ∧ v'.ownBlock = v.ownBlock := by
  have hB : Below w.heap.size w (w.alloc (.cells #[.pointer (some ⟨b, 0, none⟩)] 25)).drew := below_drewN ((Below.refl _ w).alloc (Nat.le_refl _) _) 1
  have hp : (w.alloc (.cells #[.pointer (some ⟨b, 0, none⟩)] 25)).drew.heap[w.heap.size]? = some (.cells #[.pointer (some ⟨b, 0, none⟩)] 25 (0, 0)) := heap_alloc_new w _
  have h1 := h.below hB
  obtain ⟨vo, vc, rfl⟩ := rowS h.ho
  have hnp : (Value.slice vo l.length vc).ownBlock ≠ some w.heap.size := fun e => by have := h.lt (.inr (.inr e)); omega
  have HD : Hid _ := deleteFW (pb := w.heap.size) ⟨hp, ⟨_, h1.hb⟩, h1.hm⟩ _ l h1.ho hl ⟨hnp, h1.ne.2.1, h1.ne.2.2⟩
  have q0 : (w.alloc (.cells #[.pointer (some ⟨b, 0, none⟩)] 25)).drew.cell? ⟨b, 0, none⟩ = some (.slice vo l.length vc) := h1.c0
  have g0 : (w.alloc (.cells #[.pointer (some ⟨b, 0, none⟩)] 25)).drew.cell? ⟨w.heap.size, 0, none⟩ = some (.pointer (some ⟨b, 0, none⟩)) := by rw [cell_of_row _ _ 0 _ _ _ hp]; rfl
  have HB : Hid (Bo (w.alloc (.cells #[.pointer (some ⟨b, 0, none⟩)] 25)).drew b m (.slice vo l.length vc) l l' ∧ Kept w (w.alloc (.cells #[.pointer (some ⟨b, 0, none⟩)] 25)).drew (Ft b m (.slice vo l.length vc)) ∧ (Value.slice vo l.length vc).ownBlock ≠ some w.heap.size ∧ w.heap.size ≠ b) :=
    ⟨h1, (Below.kept hB).mono (fun k h1 h2 => by omega), hnp, fun e => by have := lt_of_block h.hb; omega⟩
  have hz := lt_of_block hp
  have hz2 := lt_of_block h1.hb
  clear h hB hp h1 hnp hl
  go_enter Tryz.func52, Tryz.ntmps52
  go_upto_region 1 with fail
  obtain ⟨pb, hpb⟩ : ∃ pb, pb = w.heap.size := ⟨_, rfl⟩
  rw [← hpb] at HD g0 HB hz ⊢
  clear hpb
  refine wp_region_held_drew (S := (fun W => W.cell? ⟨pb, 0, none⟩ = some (.pointer (some ⟨b, 0, none⟩)))) (by kernel_rfl) ?_ (fun hHeld => ?_)
  · exact g0
  generalize (w.alloc (.cells #[.pointer (some ⟨b, 0, none⟩)] 25)).drew = U at *
  refine wpAnyH_take (i := 0) (oi := { dst := some 2, op := Op.load 25 (Operand.tmp 1), type := 25, pos := "watch.go:108", after := #[], guard := none }) (v := ?_) rfl (by kernel_rfl) (by kernel_rfl) (by kernel_rfl) (fun _ _ _ h => h) (Or.inl ⟨by rfl, ?_⟩) (by assumption) ?_
  rotate_left
  · (intro w hSw; (try dsimp only at hSw); go_simp) <;> with_reducible rfl
  try simp only [Act.put, List.setIfInBounds_toArray, List.set_cons_zero, List.set_cons_succ]
  refine wpAnyH_take (i := 1) (oi := { dst := some 3, op := Op.load 25 (Operand.tmp 1), type := 25, pos := "watch.go:108", after := #[], guard := none }) (v := ?_) rfl (by kernel_rfl) (by kernel_rfl) (by kernel_rfl) (fun _ _ _ h => h) (Or.inl ⟨by rfl, ?_⟩) (by assumption) ?_
  rotate_left
  · (intro w hSw; (try dsimp only at hSw); go_simp) <;> with_reducible rfl
  try simp only [Act.put, List.setIfInBounds_toArray, List.set_cons_zero, List.set_cons_succ]
  refine wpAnyH_take (i := 2) (oi := { dst := some 4, op := Op.nilCheck (Operand.tmp 3), type := 0, pos := "watch.go:108", after := #[{ on := 1, ground := Ground.data }], guard := none }) (v := ?_) rfl (by kernel_rfl) (by kernel_rfl) (by kernel_rfl) (fun _ _ _ h => h) (Or.inl ⟨by rfl, ?_⟩) (by assumption) ?_
  rotate_left
  · (intro w hSw; (try dsimp only at hSw); go_simp) <;> with_reducible rfl
  try simp only [Act.put, List.setIfInBounds_toArray, List.set_cons_zero, List.set_cons_succ]
  refine wpAnyH_take (i := 3) (oi := { dst := some 5, op := Op.fieldAddr 80 (Operand.tmp 4) 0, type := 0, pos := "watch.go:108", after := #[{ on := 2, ground := Ground.data }], guard := none }) (v := ?_) rfl (by kernel_rfl) (by kernel_rfl) (by kernel_rfl) (fun _ _ _ h => h) (Or.inl ⟨by rfl, ?_⟩) (by assumption) ?_
  rotate_left
  · (intro w hSw; (try dsimp only at hSw); go_simp) <;> with_reducible rfl
  try simp only [Act.put, List.setIfInBounds_toArray, List.set_cons_zero, List.set_cons_succ]
  refine wpAnyH_take (i := 5) (oi := { dst := some 7, op := Op.makeFunc (Fn.func 81) #[] #[Operand.tmp 1], type := 112, pos := "watch.go:108", after := #[], guard := none }) (v := ?_) rfl (by kernel_rfl) (by kernel_rfl) (by kernel_rfl) (fun _ _ _ h => h) (Or.inl ⟨by rfl, ?_⟩) (by assumption) ?_
  rotate_left
  · (intro w hSw; (try dsimp only at hSw); go_simp) <;> with_reducible rfl
  try simp only [Act.put, List.setIfInBounds_toArray, List.set_cons_zero, List.set_cons_succ]
  refine wpAnyH_ready (rs := [4]) (by kernel_rfl) (by simp) ?_
  refine AllReadyH.cons (o := { dst := some 6, op := Op.load 64 (Operand.tmp 5), type := 64, pos := "watch.go:108", after := #[{ on := 3, ground := Ground.data }], guard := none }) rfl (fun K hK => ?_) AllReadyH.nil
  go_simp
  refine hK.out _ _ g0 (fun hHeld => ?_)
  clear hK K
  refine wpAnyH_ready (rs := [6]) (by kernel_rfl) (by simp) ?_
  refine AllReadyH.cons (o := { dst := some 8, op := Op.call { callee := Callee.value (Operand.func 80), args := #[Operand.tmp 6, Operand.tmp 7], argTypes := #[64, 112] }, type := 64, pos := "watch.go:108", after := #[{ on := 4, ground := Ground.data }, { on := 5, ground := Ground.data }], guard := none }) rfl (fun K hK => ?_) AllReadyH.nil
  go_simp
  refine Calls.mono HD.out ?_
  rintro _ w2 ⟨v', rfl, ho2, hnr, hk2⟩
  have g2 : w2.cell? ⟨pb, 0, none⟩ = some (.pointer (some ⟨b, 0, none⟩)) := hk2.cell g0 HB.out.2.2.1
  have hb2 := hk2.heap HB.out.1.hb HB.out.1.ne.2.1
  have hm2 := HB.out.1.hm.kept hk2 HB.out.1.ne.2.2
  obtain ⟨hS, hkS⟩ := Bo.set hb2 hm2 ho2
  have q2 : w2.cell? ⟨b, 0, none⟩ = some (.slice vo l.length vc) := by rw [cell_of_row w2 b 0 _ _ _ hb2]; rfl
  have f2 := frozen_of_row w2 b 0 _ _ hb2
  obtain ⟨vo', ln, vc', rfl⟩ : ∃ a n c, v' = .slice a n c := by
    obtain ⟨a, c, e⟩ := rowS ho2
    exact ⟨a, _, c, e⟩
  have g3 : (w2.setCell ⟨b, 0, none⟩ (.slice vo' ln vc')).cell? ⟨pb, 0, none⟩ = some (.pointer (some ⟨b, 0, none⟩)) := hkS.cell g2 HB.out.2.2.2
  have HR : Hid (Bo (w2.setCell ⟨b, 0, none⟩ (.slice vo' ln vc')) b m (.slice vo' ln vc') (l.filter (keepB l')) l' ∧ Kept w (w2.setCell ⟨b, 0, none⟩ (.slice vo' ln vc')) (Ft b m (.slice vo l.length vc)) ∧ (Value.slice vo' ln vc').ownBlock = (Value.slice vo l.length vc).ownBlock) := ⟨hS, (HB.out.2.1.trans hk2 (fun _ _ h => .inr (.inr h))).trans hkS (fun _ _ h => .inl h), hnr⟩
  clear hS hkS hb2 hm2 ho2 hk2 hnr HD HB
  refine hK.out _ _ g2 (fun hHeld => ?_)
  clear hK K
  refine wpAnyH_take (i := 7) (oi := { dst := some 9, op := Op.nilCheck (Operand.tmp 2), type := 0, pos := "watch.go:108", after := #[{ on := 0, ground := Ground.data }, { on := 0, ground := Ground.phase }, { on := 1, ground := Ground.phase }, { on := 2, ground := Ground.phase }, { on := 3, ground := Ground.phase }, { on := 4, ground := Ground.phase }, { on := 5, ground := Ground.phase }, { on := 6, ground := Ground.phase }], guard := none }) (v := ?_) rfl (by kernel_rfl) (by kernel_rfl) (by kernel_rfl) (fun _ _ _ h => h) (Or.inl ⟨by rfl, ?_⟩) (by assumption) ?_
  rotate_left
  · (intro w hSw; (try dsimp only at hSw); go_simp) <;> with_reducible rfl
  try simp only [Act.put, List.setIfInBounds_toArray, List.set_cons_zero, List.set_cons_succ]
  refine wpAnyH_take (i := 8) (oi := { dst := some 10, op := Op.fieldAddr 80 (Operand.tmp 9) 0, type := 0, pos := "watch.go:108", after := #[{ on := 7, ground := Ground.data }, { on := 0, ground := Ground.phase }, { on := 1, ground := Ground.phase }, { on := 2, ground := Ground.phase }, { on := 3, ground := Ground.phase }, { on := 4, ground := Ground.phase }, { on := 5, ground := Ground.phase }, { on := 6, ground := Ground.phase }], guard := none }) (v := ?_) rfl (by kernel_rfl) (by kernel_rfl) (by kernel_rfl) (fun _ _ _ h => h) (Or.inl ⟨by rfl, ?_⟩) (by assumption) ?_
  rotate_left
  · (intro w hSw; (try dsimp only at hSw); go_simp) <;> with_reducible rfl
  try simp only [Act.put, List.setIfInBounds_toArray, List.set_cons_zero, List.set_cons_succ]
  refine wpAnyH_ready (rs := [9]) (by kernel_rfl) (by simp) ?_
  refine AllReadyH.cons (o := { dst := none, op := Op.store 64 (Operand.tmp 10) (Operand.tmp 8), type := 0, pos := "watch.go:108", after := #[{ on := 8, ground := Ground.data }, { on := 6, ground := Ground.data }, { on := 6, ground := Ground.chain }, { on := 0, ground := Ground.phase }, { on := 1, ground := Ground.phase }, { on := 2, ground := Ground.phase }, { on := 3, ground := Ground.phase }, { on := 4, ground := Ground.phase }, { on := 5, ground := Ground.phase }, { on := 6, ground := Ground.phase }], guard := none }) rfl (fun K hK => ?_) AllReadyH.nil
  go_simp
  refine hK.out _ _ g3 (fun hHeld => ?_)
  clear hK K
  refine wpAnyH_done (by kernel_rfl) ?_ _
  go_wp2
  go_end0
  exact ⟨rfl, _, HR.out⟩

end Go.Proofs.YtkcapiblicfboaaGreatDoor
