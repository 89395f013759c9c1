/- lagoonref00's SpareAcl and SpareIds over a request's lists: the marks behind a wide list stand. -/
import Derived.Test.YtobnggkgpenmfaaGreatDoorWeCJ
import Derived.Deep.RegionHeld
namespace Go.Proofs.YtobnggkgpenmfaaGreatDoor
open Go.RowKit Go.Shelf
set_option maxRecDepth 8000

set_option maxHeartbeats 1000000 in
theorem spareAcl_rq (g : Nat) (l : List EnD) (w : World) (h : WidE w g l) (hreach : l.length ≤ 2000000000) (ht : Tab w) (hg0 : 1 < w.heap.size) :
    Calls Tryz.prog 37 #[.slice (some ⟨g, 0, none⟩) l.length (l.length + 64)] w fun e w' => e = .returned (.bool true) ∧ Below w.heap.size w w' := by
  have HT : Hid (Tab w ∧ 1 < w.heap.size) := ⟨ht, hg0⟩
  have HW : Hid (WidE w g l) := h
  clear ht hg0 h
  go_enter Tryz.func37, Tryz.ntmps37
  go_wp2
  go_loopw [4] (fun i wr => ∃ k : Nat, l.length ≤ k ∧ k ≤ l.length + 64 ∧ i = .int .i64 k ∧ Hid (Below w.heap.size w wr ∧ WidE wr g l)) (fun i _ => l.length + 64 - (intOf i).toNat)
  case atStart => exact ⟨l.length, Nat.le_refl _, by omega, rfl, Below.refl _ _, HW.out⟩
  case round =>
    obtain ⟨k, hk0, hk, rfl, HB⟩ := hrel
    by_cases hlt : k < l.length + 64
    · have hd : decide ((k : Int) < ((l.length : Int) + 64)) = true := by simp; omega
      obtain ⟨ms, hms⟩ : ∃ ms, ms = markS (-3000000 - (k : Int)) := ⟨_, rfl⟩
      have hcell : Hid (∀ V, Below w.heap.size w V → WidE V g l → V.cell? ⟨g, k * 3 + 2, none⟩ = some (.string ms)) := fun V _ hV => by
        obtain ⟨cs, h1, h2⟩ := hV
        have := (h2 k hlt).2.2
        rw [h1.cellAt _ (by omega), this]
        unfold weE
        rw [List.getD_eq_getElem?_getD, List.getElem?_eq_none hk0, hms]
        rfl
      have hmm : (ms.toList == (markS (-3000000 - (k : Int))).toList) = true := by rw [hms]; simp
      have HWr : Hid (IntKind.i64.wrap (-3000000 - (k : Int)) = -3000000 - (k : Int)) := by
        show _ = _
        simp [IntKind.wrap, IntKind.bits, IntKind.signed]
        omega
      have i0 : (0 : Int) ≤ (k : Int) := by omega
      have i1 : (k : Int) < (l.length : Int) + 64 := by omega
      go_wp2
      refine wp_region_held_drew (S := fun V' => V'.cell? ⟨g, k * 3 + 2, none⟩ = some (.string ms)) (by kernel_rfl) ?_ (fun hHeld => ?_)
      · exact hcell.out wr.drew (below_drewN HB.out.1 1) (HB.out.2.below (below_drewN (Below.refl _ _) 1))
      refine wpAnyH_take (i := 0) (oi := { dst := some 18, op := Op.move (Operand.tmp 3), type := 43, pos := "spare.go:152", after := #[], guard := none }) (v := ?_) rfl (by kernel_rfl) (by kernel_rfl) (by kernel_rfl) (fun _ _ _ h => h) (Or.inl ⟨by rfl, ?_⟩) (by assumption) ?_
      rotate_left
      · (intro w hSw; (try dsimp only at hSw); go_simp) <;> with_reducible rfl
      try simp only [Act.put, List.setIfInBounds_toArray, List.set_cons_zero, List.set_cons_succ]
      refine wpAnyH_take (i := 1) (oi := { dst := some 19, op := Op.move (Operand.tmp 4), type := 3, pos := "spare.go:152", after := #[], guard := none }) (v := ?_) rfl (by kernel_rfl) (by kernel_rfl) (by kernel_rfl) (fun _ _ _ h => h) (Or.inl ⟨by rfl, ?_⟩) (by assumption) ?_
      rotate_left
      · (intro w hSw; (try dsimp only at hSw); go_simp) <;> with_reducible rfl
      try simp only [Act.put, List.setIfInBounds_toArray, List.set_cons_zero, List.set_cons_succ]
      refine wpAnyH_take (i := 2) (oi := { dst := some 20, op := Op.indexAddr 43 (Operand.tmp 18) (Operand.tmp 19), type := 0, pos := "spare.go:152", after := #[{ on := 0, ground := Ground.data }, { on := 1, ground := Ground.data }], guard := none }) (v := ?_) rfl (by kernel_rfl) (by kernel_rfl) (by kernel_rfl) (fun _ _ _ h => h) (Or.inl ⟨by rfl, ?_⟩) (by assumption) ?_
      rotate_left
      · (intro w hSw; (try dsimp only at hSw); go_simp) <;> with_reducible rfl
      try simp only [Act.put, List.setIfInBounds_toArray, List.set_cons_zero, List.set_cons_succ]
      refine wpAnyH_take (i := 3) (oi := { dst := some 21, op := Op.fieldAddr 103 (Operand.tmp 20) 1, type := 0, pos := "spare.go:152", after := #[{ on := 2, ground := Ground.data }], guard := none }) (v := ?_) rfl (by kernel_rfl) (by kernel_rfl) (by kernel_rfl) (fun _ _ _ h => h) (Or.inl ⟨by rfl, ?_⟩) (by assumption) ?_
      rotate_left
      · (intro w hSw; (try dsimp only at hSw); go_simp) <;> with_reducible rfl
      try simp only [Act.put, List.setIfInBounds_toArray, List.set_cons_zero, List.set_cons_succ]
      refine wpAnyH_take (i := 4) (oi := { dst := some 22, op := Op.fieldAddr 101 (Operand.tmp 21) 1, type := 0, pos := "spare.go:152", after := #[{ on := 3, ground := Ground.data }], guard := none }) (v := ?_) rfl (by kernel_rfl) (by kernel_rfl) (by kernel_rfl) (fun _ _ _ h => h) (Or.inl ⟨by rfl, ?_⟩) (by assumption) ?_
      rotate_left
      · (intro w hSw; (try dsimp only at hSw); go_simp) <;> with_reducible rfl
      try simp only [Act.put, List.setIfInBounds_toArray, List.set_cons_zero, List.set_cons_succ]
      refine wpAnyH_take (i := 5) (oi := { dst := some 23, op := Op.load 9 (Operand.tmp 22), type := 9, pos := "spare.go:152", after := #[{ on := 4, ground := Ground.data }], guard := none }) (v := ?_) rfl (by kernel_rfl) (by kernel_rfl) (by kernel_rfl) (fun _ _ _ h => h) (Or.inl ⟨by rfl, ?_⟩) (by assumption) ?_
      rotate_left
      · (intro w hSw; (try dsimp only at hSw); go_simp) <;> with_reducible rfl
      try simp only [Act.put, List.setIfInBounds_toArray, List.set_cons_zero, List.set_cons_succ]
      refine wpAnyH_take (i := 6) (oi := { dst := some 24, op := Op.move (Operand.tmp 4), type := 3, pos := "spare.go:152", after := #[], guard := none }) (v := ?_) rfl (by kernel_rfl) (by kernel_rfl) (by kernel_rfl) (fun _ _ _ h => h) (Or.inl ⟨by rfl, ?_⟩) (by assumption) ?_
      rotate_left
      · (intro w hSw; (try dsimp only at hSw); go_simp) <;> with_reducible rfl
      try simp only [Act.put, List.setIfInBounds_toArray, List.set_cons_zero, List.set_cons_succ]
      refine wpAnyH_take (i := 7) (oi := { dst := some 25, op := Op.binOp BinOp.sub 3 (Operand.const (Value.int IntKind.i64 (-3000000))) (Operand.tmp 24) 3, type := 3, pos := "spare.go:152", after := #[{ on := 6, ground := Ground.data }], guard := none }) (v := ?_) rfl (by kernel_rfl) (by kernel_rfl) (by kernel_rfl) (fun _ _ _ h => h) (Or.inl ⟨by rfl, ?_⟩) (by assumption) ?_
      rotate_left
      · (intro w hSw; (try dsimp only at hSw); go_simp; (rw [HWr.out]) <;> with_reducible rfl)
      try simp only [Act.put, List.setIfInBounds_toArray, List.set_cons_zero, List.set_cons_succ]
      refine wpAnyH_ready (rs := [8]) (by kernel_rfl) (by simp) ?_
      refine AllReadyH.cons (o := { dst := some 26, op := Op.call { callee := Callee.value (Operand.func 63), args := #[Operand.tmp 25], argTypes := #[3] }, type := 9, pos := "spare.go:152", after := #[{ on := 7, ground := Ground.data }], guard := none }) rfl (fun K hK => ?_) AllReadyH.nil
      go_simp
      refine (mark_is _ _ (by omega) (by omega) (HT.out.1.below (below_drewN HB.out.1 1) HT.out.2)).mono ?_
      rintro e wc ⟨rfl, hb⟩
      have HB2 : Hid (Below w.heap.size w wc ∧ WidE wc g l) := ⟨(below_drewN HB.out.1 1).trans (hb.mono (below_drewN HB.out.1 1).size), (HB.out.2.below (below_drewN (Below.refl _ _) 1)).below hb⟩
      clear hHeld
      refine hK.out _ _ (hcell.out wc HB2.out.1 HB2.out.2) (fun hHeld => ?_)
      clear hK K
      refine wpAnyH_take (i := 9) (oi := { dst := some 27, op := Op.binOp BinOp.eql 9 (Operand.tmp 23) (Operand.tmp 26) 9, type := 4, pos := "spare.go:152", after := #[{ on := 5, ground := Ground.data }, { on := 8, ground := Ground.data }], guard := none }) (v := ?_) rfl (by kernel_rfl) (by kernel_rfl) (by kernel_rfl) (fun _ _ _ h => h) (Or.inl ⟨by rfl, ?_⟩) (by assumption) ?_
      rotate_left
      · (intro w hSw; (try dsimp only at hSw); go_simp) <;> with_reducible rfl
      try simp only [Act.put, List.setIfInBounds_toArray, List.set_cons_zero, List.set_cons_succ]
      refine wpAnyH_take (i := 10) (oi := { dst := some 28, op := Op.unOp UnOp.not 4 (Operand.tmp 27), type := 4, pos := "spare.go:152", after := #[{ on := 9, ground := Ground.data }], guard := none }) (v := ?_) rfl (by kernel_rfl) (by kernel_rfl) (by kernel_rfl) (fun _ _ _ h => h) (Or.inl ⟨by rfl, ?_⟩) (by assumption) ?_
      rotate_left
      · (intro w hSw; (try dsimp only at hSw); go_simp) <;> with_reducible rfl
      try simp only [Act.put, List.setIfInBounds_toArray, List.set_cons_zero, List.set_cons_succ]
      refine wpAnyH_done (by kernel_rfl) ?_ _
      go_wp2
      go_roundw
      case rel => exact ⟨k + 1, by omega, by omega, by go_num, HB2⟩
      case measure => simp [intOf]; omega
    · have hd : decide ((k : Int) < ((l.length : Int) + 64)) = false := by simp; omega
      go_wp2
      go_ret
      exact ⟨rfl, HB.out.1⟩

set_option maxHeartbeats 1000000 in
theorem spareIds_rq (g : Nat) (l : List IdD) (w : World) (h : WidI w g l) (hreach : l.length ≤ 2000000000) (ht : Tab w) (hg0 : 1 < w.heap.size) :
    Calls Tryz.prog 38 #[.slice (some ⟨g, 0, none⟩) l.length (l.length + 64)] w fun e w' => e = .returned (.bool true) ∧ Below w.heap.size w w' := by
  have HT : Hid (Tab w ∧ 1 < w.heap.size) := ⟨ht, hg0⟩
  have HW : Hid (WidI w g l) := h
  clear ht hg0 h
  go_enter Tryz.func38, Tryz.ntmps38
  go_wp2
  go_loopw [4] (fun i wr => ∃ k : Nat, l.length ≤ k ∧ k ≤ l.length + 64 ∧ i = .int .i64 k ∧ Hid (Below w.heap.size w wr ∧ WidI wr g l)) (fun i _ => l.length + 64 - (intOf i).toNat)
  case atStart => exact ⟨l.length, Nat.le_refl _, by omega, rfl, Below.refl _ _, HW.out⟩
  case round =>
    obtain ⟨k, hk0, hk, rfl, HB⟩ := hrel
    by_cases hlt : k < l.length + 64
    · have hd : decide ((k : Int) < ((l.length : Int) + 64)) = true := by simp; omega
      obtain ⟨ms, hms⟩ : ∃ ms, ms = markS (-3000000 - (k : Int)) := ⟨_, rfl⟩
      have hcell : Hid (∀ V, Below w.heap.size w V → WidI V g l → V.cell? ⟨g, k * 2 + 1, none⟩ = some (.string ms)) := fun V _ hV => by
        obtain ⟨cs, h1, h2⟩ := hV
        have := (h2 k hlt).2
        rw [h1.cellAt _ (by omega), this]
        unfold weI
        rw [List.getD_eq_getElem?_getD, List.getElem?_eq_none hk0, hms]
        rfl
      have hmm : (ms.toList == (markS (-3000000 - (k : Int))).toList) = true := by rw [hms]; simp
      have HWr : Hid (IntKind.i64.wrap (-3000000 - (k : Int)) = -3000000 - (k : Int)) := by
        show _ = _
        simp [IntKind.wrap, IntKind.bits, IntKind.signed]
        omega
      have i0 : (0 : Int) ≤ (k : Int) := by omega
      have i1 : (k : Int) < (l.length : Int) + 64 := by omega
      go_wp2
      refine wp_region_held_drew (S := fun V' => V'.cell? ⟨g, k * 2 + 1, none⟩ = some (.string ms)) (by kernel_rfl) ?_ (fun hHeld => ?_)
      · exact hcell.out wr.drew (below_drewN HB.out.1 1) (HB.out.2.below (below_drewN (Below.refl _ _) 1))
      refine wpAnyH_take (i := 0) (oi := { dst := some 18, op := Op.move (Operand.tmp 3), type := 44, pos := "spare.go:128", after := #[], guard := none }) (v := ?_) rfl (by kernel_rfl) (by kernel_rfl) (by kernel_rfl) (fun _ _ _ h => h) (Or.inl ⟨by rfl, ?_⟩) (by assumption) ?_
      rotate_left
      · (intro w hSw; (try dsimp only at hSw); go_simp) <;> with_reducible rfl
      try simp only [Act.put, List.setIfInBounds_toArray, List.set_cons_zero, List.set_cons_succ]
      refine wpAnyH_take (i := 1) (oi := { dst := some 19, op := Op.move (Operand.tmp 4), type := 3, pos := "spare.go:128", after := #[], guard := none }) (v := ?_) rfl (by kernel_rfl) (by kernel_rfl) (by kernel_rfl) (fun _ _ _ h => h) (Or.inl ⟨by rfl, ?_⟩) (by assumption) ?_
      rotate_left
      · (intro w hSw; (try dsimp only at hSw); go_simp) <;> with_reducible rfl
      try simp only [Act.put, List.setIfInBounds_toArray, List.set_cons_zero, List.set_cons_succ]
      refine wpAnyH_take (i := 2) (oi := { dst := some 20, op := Op.indexAddr 44 (Operand.tmp 18) (Operand.tmp 19), type := 0, pos := "spare.go:128", after := #[{ on := 0, ground := Ground.data }, { on := 1, ground := Ground.data }], guard := none }) (v := ?_) rfl (by kernel_rfl) (by kernel_rfl) (by kernel_rfl) (fun _ _ _ h => h) (Or.inl ⟨by rfl, ?_⟩) (by assumption) ?_
      rotate_left
      · (intro w hSw; (try dsimp only at hSw); go_simp) <;> with_reducible rfl
      try simp only [Act.put, List.setIfInBounds_toArray, List.set_cons_zero, List.set_cons_succ]
      refine wpAnyH_take (i := 3) (oi := { dst := some 21, op := Op.fieldAddr 101 (Operand.tmp 20) 1, type := 0, pos := "spare.go:128", after := #[{ on := 2, ground := Ground.data }], guard := none }) (v := ?_) rfl (by kernel_rfl) (by kernel_rfl) (by kernel_rfl) (fun _ _ _ h => h) (Or.inl ⟨by rfl, ?_⟩) (by assumption) ?_
      rotate_left
      · (intro w hSw; (try dsimp only at hSw); go_simp) <;> with_reducible rfl
      try simp only [Act.put, List.setIfInBounds_toArray, List.set_cons_zero, List.set_cons_succ]
      refine wpAnyH_take (i := 4) (oi := { dst := some 22, op := Op.load 9 (Operand.tmp 21), type := 9, pos := "spare.go:128", after := #[{ on := 3, ground := Ground.data }], guard := none }) (v := ?_) rfl (by kernel_rfl) (by kernel_rfl) (by kernel_rfl) (fun _ _ _ h => h) (Or.inl ⟨by rfl, ?_⟩) (by assumption) ?_
      rotate_left
      · (intro w hSw; (try dsimp only at hSw); go_simp) <;> with_reducible rfl
      try simp only [Act.put, List.setIfInBounds_toArray, List.set_cons_zero, List.set_cons_succ]
      refine wpAnyH_take (i := 5) (oi := { dst := some 23, op := Op.move (Operand.tmp 4), type := 3, pos := "spare.go:128", after := #[], guard := none }) (v := ?_) rfl (by kernel_rfl) (by kernel_rfl) (by kernel_rfl) (fun _ _ _ h => h) (Or.inl ⟨by rfl, ?_⟩) (by assumption) ?_
      rotate_left
      · (intro w hSw; (try dsimp only at hSw); go_simp) <;> with_reducible rfl
      try simp only [Act.put, List.setIfInBounds_toArray, List.set_cons_zero, List.set_cons_succ]
      refine wpAnyH_take (i := 6) (oi := { dst := some 24, op := Op.binOp BinOp.sub 3 (Operand.const (Value.int IntKind.i64 (-3000000))) (Operand.tmp 23) 3, type := 3, pos := "spare.go:128", after := #[{ on := 5, ground := Ground.data }], guard := none }) (v := ?_) rfl (by kernel_rfl) (by kernel_rfl) (by kernel_rfl) (fun _ _ _ h => h) (Or.inl ⟨by rfl, ?_⟩) (by assumption) ?_
      rotate_left
      · (intro w hSw; (try dsimp only at hSw); go_simp; (rw [HWr.out]) <;> with_reducible rfl)
      try simp only [Act.put, List.setIfInBounds_toArray, List.set_cons_zero, List.set_cons_succ]
      refine wpAnyH_ready (rs := [7]) (by kernel_rfl) (by simp) ?_
      refine AllReadyH.cons (o := { dst := some 25, op := Op.call { callee := Callee.value (Operand.func 63), args := #[Operand.tmp 24], argTypes := #[3] }, type := 9, pos := "spare.go:128", after := #[{ on := 6, ground := Ground.data }], guard := none }) rfl (fun K hK => ?_) AllReadyH.nil
      go_simp
      refine (mark_is _ _ (by omega) (by omega) (HT.out.1.below (below_drewN HB.out.1 1) HT.out.2)).mono ?_
      rintro e wc ⟨rfl, hb⟩
      have HB2 : Hid (Below w.heap.size w wc ∧ WidI wc g l) := ⟨(below_drewN HB.out.1 1).trans (hb.mono (below_drewN HB.out.1 1).size), (HB.out.2.below (below_drewN (Below.refl _ _) 1)).below hb⟩
      clear hHeld
      refine hK.out _ _ (hcell.out wc HB2.out.1 HB2.out.2) (fun hHeld => ?_)
      clear hK K
      refine wpAnyH_take (i := 8) (oi := { dst := some 26, op := Op.binOp BinOp.eql 9 (Operand.tmp 22) (Operand.tmp 25) 9, type := 4, pos := "spare.go:128", after := #[{ on := 4, ground := Ground.data }, { on := 7, ground := Ground.data }], guard := none }) (v := ?_) rfl (by kernel_rfl) (by kernel_rfl) (by kernel_rfl) (fun _ _ _ h => h) (Or.inl ⟨by rfl, ?_⟩) (by assumption) ?_
      rotate_left
      · (intro w hSw; (try dsimp only at hSw); go_simp) <;> with_reducible rfl
      try simp only [Act.put, List.setIfInBounds_toArray, List.set_cons_zero, List.set_cons_succ]
      refine wpAnyH_take (i := 9) (oi := { dst := some 27, op := Op.unOp UnOp.not 4 (Operand.tmp 26), type := 4, pos := "spare.go:128", after := #[{ on := 8, ground := Ground.data }], guard := none }) (v := ?_) rfl (by kernel_rfl) (by kernel_rfl) (by kernel_rfl) (fun _ _ _ h => h) (Or.inl ⟨by rfl, ?_⟩) (by assumption) ?_
      rotate_left
      · (intro w hSw; (try dsimp only at hSw); go_simp) <;> with_reducible rfl
      try simp only [Act.put, List.setIfInBounds_toArray, List.set_cons_zero, List.set_cons_succ]
      refine wpAnyH_done (by kernel_rfl) ?_ _
      go_wp2
      go_roundw
      case rel => exact ⟨k + 1, by omega, by omega, by go_num, HB2⟩
      case measure => simp [intOf]; omega
    · have hd : decide ((k : Int) < ((l.length : Int) + 64)) = false := by simp; omega
      go_wp2
      go_ret
      exact ⟨rfl, HB.out.1⟩

end Go.Proofs.YtobnggkgpenmfaaGreatDoor
