/- What acl's isOfEntry and isOfClient answer, for every id. -/
import Derived.Test.YtapnaknbidmnmaaDoorQcBJ
import Derived.Test.YtapnaknbidmnmaaDoorQaEJ
namespace Go.Proofs.YtapnaknbidmnmaaDoor
open Go.RowKit Go.Shelf
set_option maxRecDepth 8000

/-- An id in memory; what lay below lies as it lay. -/
def PIc (sc nm : ByteArray) (w V : World) : Prop := V.heap[w.heap.size]? = some (.cells #[.string sc, .string nm] 26 (0, 0)) ∧ Below w.heap.size w V

theorem PIc.below {sc nm : ByteArray} {w V V' : World} (h : PIc sc nm w V) (hB : Below V.heap.size V V') : PIc sc nm w V' :=
  ⟨(hB.block _ (lt_of_block h.1)).trans h.1, h.2.trans (hB.mono h.2.size)⟩

theorem PIc.cells {sc nm : ByteArray} {w V : World} (h : PIc sc nm w V) : V.cell? ⟨w.heap.size, 0, none⟩ = some (.string sc) ∧ V.cell? ⟨w.heap.size, 1, none⟩ = some (.string nm) :=
  ⟨cell_of_row V w.heap.size 0 _ _ _ h.1, cell_of_row V w.heap.size 1 _ _ _ h.1⟩

theorem PIc.start (sc nm : ByteArray) (w : World) : PIc sc nm w (w.alloc (.cells #[.string sc, .string nm] 26)).drew := ⟨heap_alloc_new w _, ⟨rfl, rfl, rfl, by show w.heap.size ≤ (w.alloc _).heap.size; simp, fun k hk => Below.heap_alloc _ _ _ hk⟩⟩

set_option maxHeartbeats 1000000 in
theorem isOfEntry_world (nm : ByteArray) (w : World) : Calls Tryd.prog 29 #[.agg #[.string worldB, .string nm]] w fun e w' => e = .returned (.bool (decide (nm.data.toList = anyB.data.toList))) ∧ Below w.heap.size w w' := by
  obtain ⟨b, hb⟩ : ∃ b : Bool, b = decide (nm.data.toList = anyB.data.toList) := ⟨_, rfl⟩
  have HS : Hid (∀ V, Hid (PIc worldB nm w V) → Calls Tryd.prog 31 #[.agg #[.string worldB, .string nm]] V fun e w' => ∃ c, e = .returned (.agg #[.string worldB, fnV 39, fn1 50 c, fnV 43]) ∧ Hid (PIc worldB nm w w' ∧ Cau c w' ∧ c + 6 ≤ w'.heap.size)) := fun V hV =>
    (schemeOf_world nm V).mono (fun e w' ⟨c, g1, g2, g3, _, g5⟩ => ⟨c, g1, hV.out.below g2, g3, g5⟩)
  have HR : Hid (∀ (c : Nat) (V : World), Hid (PIc worldB nm w V ∧ Cau c V ∧ c + 6 ≤ V.heap.size) → Calls Tryd.prog 50 #[.string nm, .pointer (some ⟨c, 0, none⟩)] V fun e w' => e = .returned (.bool b) ∧ Hid (PIc worldB nm w w')) := fun c V hV => by
    rw [hb]
    exact (only1_any nm anyB c V (cell_of_row V c 0 _ _ _ hV.out.2.1.1)).mono (fun e w' h => ⟨h.1, h.2 ▸ hV.out.1⟩)
  rw [← hb]
  clear hb
  have HW : Hid (PIc worldB nm w (w.alloc (.cells #[.string worldB, .string nm] 26)).drew) := PIc.start worldB nm w
  have hfd : ∀ (c : Nat) (W : World), (Instr.field 60 (.agg #[.string worldB, fnV 39, fn1 50 c, fnV 43]) 2).run Tryd.prog W = .ok (fn1 50 c) W := fun c W => by kernel_rfl
  go_enter Tryd.func29, Tryd.ntmps29
  go_wp2_with fail
  refine wp_region_held_drew (S := fun w' => w'.cell? ⟨w.heap.size, 0, none⟩ = some (.string worldB) ∧ w'.cell? ⟨w.heap.size, 1, none⟩ = some (.string nm)) (by kernel_rfl) ?_ (fun hHeld => ?_)
  · exact HW.out.cells
  refine wpAnyH_take (i := 0) (oi := { dst := some 3, op := Op.load 26 (Operand.tmp 1), type := 26, pos := "scheme.go:45", after := #[], guard := none }) (v := ?_) rfl (by kernel_rfl) (by kernel_rfl) (by kernel_rfl) (fun _ _ _ h => h) (Or.inl ⟨by rfl, ?_⟩) (by assumption) ?_
  rotate_left
  · (intro w hSw; (try dsimp only at hSw); go_simp) <;> with_reducible rfl
  try simp only [Act.put, List.setIfInBounds_toArray, List.set_cons_zero, List.set_cons_succ]
  refine wpAnyH_take (i := 3) (oi := { dst := some 6, op := Op.fieldAddr 26 (Operand.tmp 1) 1, type := 0, pos := "scheme.go:45", after := #[], guard := none }) (v := ?_) rfl (by kernel_rfl) (by kernel_rfl) (by kernel_rfl) (fun _ _ _ h => h) (Or.inl ⟨by rfl, ?_⟩) (by assumption) ?_
  rotate_left
  · (intro w hSw; (try dsimp only at hSw); go_simp) <;> with_reducible rfl
  try simp only [Act.put, List.setIfInBounds_toArray, List.set_cons_zero, List.set_cons_succ]
  refine wpAnyH_take (i := 4) (oi := { dst := some 7, op := Op.load 9 (Operand.tmp 6), type := 9, pos := "scheme.go:45", after := #[{ on := 3, ground := Ground.data }], guard := none }) (v := ?_) rfl (by kernel_rfl) (by kernel_rfl) (by kernel_rfl) (fun _ _ _ h => h) (Or.inl ⟨by rfl, ?_⟩) (by assumption) ?_
  rotate_left
  · (intro w hSw; (try dsimp only at hSw); go_simp) <;> with_reducible rfl
  try simp only [Act.put, List.setIfInBounds_toArray, List.set_cons_zero, List.set_cons_succ]
  refine wpAnyH_ready (rs := [1]) (by kernel_rfl) (by simp) ?_
  refine AllReadyH.cons (o := { dst := some 4, op := Op.call { callee := Callee.value (Operand.func 31), args := #[Operand.tmp 3], argTypes := #[26] }, type := 60, pos := "scheme.go:45", after := #[{ on := 0, ground := Ground.data }], guard := none }) rfl (fun K hK => ?_) AllReadyH.nil
  go_simp
  refine (HS.out _ HW).mono ?_
  rintro e w1 ⟨c, rfl, HS1⟩
  clear hHeld
  refine hK.out _ _ HS1.out.1.cells (fun hHeld => ?_)
  clear hK K
  refine wpAnyH_take (i := 2) (oi := { dst := some 5, op := Op.field 60 (Operand.tmp 4) 2, type := 57, pos := "scheme.go:45", after := #[{ on := 1, ground := Ground.data }], guard := none }) (v := ?_) rfl (by kernel_rfl) (by kernel_rfl) (by kernel_rfl) (fun _ _ _ h => h) (Or.inl ⟨by rfl, ?_⟩) (by assumption) ?_
  rotate_left
  · (intro w hSw; (try dsimp only at hSw); go_simp) <;> with_reducible rfl
  try simp only [Act.put, List.setIfInBounds_toArray, List.set_cons_zero, List.set_cons_succ]
  refine wpAnyH_ready (rs := [5]) (by kernel_rfl) (by simp) ?_
  refine AllReadyH.cons (o := { dst := some 8, op := Op.call { callee := Callee.value (Operand.tmp 5), args := #[Operand.tmp 7], argTypes := #[9] }, type := 4, pos := "scheme.go:45", after := #[{ on := 2, ground := Ground.data }, { on := 4, ground := Ground.data }, { on := 1, ground := Ground.chain }], guard := none }) rfl (fun K hK => ?_) AllReadyH.nil
  go_simp
  refine (HR.out c _ HS1).mono ?_
  rintro e w2 ⟨rfl, HS2⟩
  clear hHeld
  refine hK.out _ _ HS2.out.cells (fun hHeld => ?_)
  clear hK K
  refine wpAnyH_take (i := 6) (oi := { dst := some 2, op := Op.assign (Operand.tmp 8), type := 4, pos := "scheme.go:45", after := #[{ on := 5, ground := Ground.data }, { on := 5, ground := Ground.chain }, { on := 0, ground := Ground.phase }, { on := 1, ground := Ground.phase }, { on := 2, ground := Ground.phase }, { on := 3, ground := Ground.phase }, { on := 4, ground := Ground.phase }, { on := 5, ground := Ground.phase }], guard := none }) (v := ?_) rfl (by kernel_rfl) (by kernel_rfl) (by kernel_rfl) (fun _ _ _ h => h) (Or.inl ⟨by rfl, ?_⟩) (by assumption) ?_
  rotate_left
  · (intro w hSw; (try dsimp only at hSw); go_simp) <;> with_reducible rfl
  try simp only [Act.put, List.setIfInBounds_toArray, List.set_cons_zero, List.set_cons_succ]
  refine wpAnyH_done (by kernel_rfl) ?_ _
  all_goals go_wp2
  all_goals (go_ret; exact ⟨rfl, HS2.out.2⟩)

set_option maxHeartbeats 1000000 in
theorem isOfEntry_auth (nm : ByteArray) (w : World) : Calls Tryd.prog 29 #[.agg #[.string authB, .string nm]] w fun e w' => e = .returned (.bool (decide (nm.data.toList = (⟨#[]⟩ : ByteArray).data.toList))) ∧ Below w.heap.size w w' := by
  obtain ⟨b, hb⟩ : ∃ b : Bool, b = decide (nm.data.toList = (⟨#[]⟩ : ByteArray).data.toList) := ⟨_, rfl⟩
  have HS : Hid (∀ V, Hid (PIc authB nm w V) → Calls Tryd.prog 31 #[.agg #[.string authB, .string nm]] V fun e w' => ∃ c, e = .returned (.agg #[.string authB, fnV 39, fn1 50 (c + 5), fnV 40]) ∧ Hid (PIc authB nm w w' ∧ Cau c w' ∧ c + 6 ≤ w'.heap.size)) := fun V hV =>
    (schemeOf_auth nm V).mono (fun e w' ⟨c, g1, g2, g3, _, g5⟩ => ⟨c, g1, hV.out.below g2, g3, g5⟩)
  have HR : Hid (∀ (c : Nat) (V : World), Hid (PIc authB nm w V ∧ Cau c V ∧ c + 6 ≤ V.heap.size) → Calls Tryd.prog 50 #[.string nm, .pointer (some ⟨c + 5, 0, none⟩)] V fun e w' => e = .returned (.bool b) ∧ Hid (PIc authB nm w w')) := fun c V hV => by
    rw [hb]
    exact (only1_any nm ⟨#[]⟩ (c + 5) V (cell_of_row V (c + 5) 0 _ _ _ hV.out.2.1.2.2.2.2.2)).mono (fun e w' h => ⟨h.1, h.2 ▸ hV.out.1⟩)
  rw [← hb]
  clear hb
  have HW : Hid (PIc authB nm w (w.alloc (.cells #[.string authB, .string nm] 26)).drew) := PIc.start authB nm w
  have hfd : ∀ (c : Nat) (W : World), (Instr.field 60 (.agg #[.string authB, fnV 39, fn1 50 (c + 5), fnV 40]) 2).run Tryd.prog W = .ok (fn1 50 (c + 5)) W := fun c W => by kernel_rfl
  go_enter Tryd.func29, Tryd.ntmps29
  go_wp2_with fail
  refine wp_region_held_drew (S := fun w' => w'.cell? ⟨w.heap.size, 0, none⟩ = some (.string authB) ∧ w'.cell? ⟨w.heap.size, 1, none⟩ = some (.string nm)) (by kernel_rfl) ?_ (fun hHeld => ?_)
  · exact HW.out.cells
  refine wpAnyH_take (i := 0) (oi := { dst := some 3, op := Op.load 26 (Operand.tmp 1), type := 26, pos := "scheme.go:45", after := #[], guard := none }) (v := ?_) rfl (by kernel_rfl) (by kernel_rfl) (by kernel_rfl) (fun _ _ _ h => h) (Or.inl ⟨by rfl, ?_⟩) (by assumption) ?_
  rotate_left
  · (intro w hSw; (try dsimp only at hSw); go_simp) <;> with_reducible rfl
  try simp only [Act.put, List.setIfInBounds_toArray, List.set_cons_zero, List.set_cons_succ]
  refine wpAnyH_take (i := 3) (oi := { dst := some 6, op := Op.fieldAddr 26 (Operand.tmp 1) 1, type := 0, pos := "scheme.go:45", after := #[], guard := none }) (v := ?_) rfl (by kernel_rfl) (by kernel_rfl) (by kernel_rfl) (fun _ _ _ h => h) (Or.inl ⟨by rfl, ?_⟩) (by assumption) ?_
  rotate_left
  · (intro w hSw; (try dsimp only at hSw); go_simp) <;> with_reducible rfl
  try simp only [Act.put, List.setIfInBounds_toArray, List.set_cons_zero, List.set_cons_succ]
  refine wpAnyH_take (i := 4) (oi := { dst := some 7, op := Op.load 9 (Operand.tmp 6), type := 9, pos := "scheme.go:45", after := #[{ on := 3, ground := Ground.data }], guard := none }) (v := ?_) rfl (by kernel_rfl) (by kernel_rfl) (by kernel_rfl) (fun _ _ _ h => h) (Or.inl ⟨by rfl, ?_⟩) (by assumption) ?_
  rotate_left
  · (intro w hSw; (try dsimp only at hSw); go_simp) <;> with_reducible rfl
  try simp only [Act.put, List.setIfInBounds_toArray, List.set_cons_zero, List.set_cons_succ]
  refine wpAnyH_ready (rs := [1]) (by kernel_rfl) (by simp) ?_
  refine AllReadyH.cons (o := { dst := some 4, op := Op.call { callee := Callee.value (Operand.func 31), args := #[Operand.tmp 3], argTypes := #[26] }, type := 60, pos := "scheme.go:45", after := #[{ on := 0, ground := Ground.data }], guard := none }) rfl (fun K hK => ?_) AllReadyH.nil
  go_simp
  refine (HS.out _ HW).mono ?_
  rintro e w1 ⟨c, rfl, HS1⟩
  clear hHeld
  refine hK.out _ _ HS1.out.1.cells (fun hHeld => ?_)
  clear hK K
  refine wpAnyH_take (i := 2) (oi := { dst := some 5, op := Op.field 60 (Operand.tmp 4) 2, type := 57, pos := "scheme.go:45", after := #[{ on := 1, ground := Ground.data }], guard := none }) (v := ?_) rfl (by kernel_rfl) (by kernel_rfl) (by kernel_rfl) (fun _ _ _ h => h) (Or.inl ⟨by rfl, ?_⟩) (by assumption) ?_
  rotate_left
  · (intro w hSw; (try dsimp only at hSw); go_simp) <;> with_reducible rfl
  try simp only [Act.put, List.setIfInBounds_toArray, List.set_cons_zero, List.set_cons_succ]
  refine wpAnyH_ready (rs := [5]) (by kernel_rfl) (by simp) ?_
  refine AllReadyH.cons (o := { dst := some 8, op := Op.call { callee := Callee.value (Operand.tmp 5), args := #[Operand.tmp 7], argTypes := #[9] }, type := 4, pos := "scheme.go:45", after := #[{ on := 2, ground := Ground.data }, { on := 4, ground := Ground.data }, { on := 1, ground := Ground.chain }], guard := none }) rfl (fun K hK => ?_) AllReadyH.nil
  go_simp
  refine (HR.out c _ HS1).mono ?_
  rintro e w2 ⟨rfl, HS2⟩
  clear hHeld
  refine hK.out _ _ HS2.out.cells (fun hHeld => ?_)
  clear hK K
  refine wpAnyH_take (i := 6) (oi := { dst := some 2, op := Op.assign (Operand.tmp 8), type := 4, pos := "scheme.go:45", after := #[{ on := 5, ground := Ground.data }, { on := 5, ground := Ground.chain }, { on := 0, ground := Ground.phase }, { on := 1, ground := Ground.phase }, { on := 2, ground := Ground.phase }, { on := 3, ground := Ground.phase }, { on := 4, ground := Ground.phase }, { on := 5, ground := Ground.phase }], guard := none }) (v := ?_) rfl (by kernel_rfl) (by kernel_rfl) (by kernel_rfl) (fun _ _ _ h => h) (Or.inl ⟨by rfl, ?_⟩) (by assumption) ?_
  rotate_left
  · (intro w hSw; (try dsimp only at hSw); go_simp) <;> with_reducible rfl
  try simp only [Act.put, List.setIfInBounds_toArray, List.set_cons_zero, List.set_cons_succ]
  refine wpAnyH_done (by kernel_rfl) ?_ _
  all_goals go_wp2
  all_goals (go_ret; exact ⟨rfl, HS2.out.2⟩)

set_option maxHeartbeats 1000000 in
theorem isOfEntry_name (nm : ByteArray) (w : World) : Calls Tryd.prog 29 #[.agg #[.string nameB, .string nm]] w fun e w' => e = .returned (.bool (nmR nm.data.toList)) ∧ Below w.heap.size w w' := by
  obtain ⟨b, hb⟩ : ∃ b : Bool, b = nmR nm.data.toList := ⟨_, rfl⟩
  have HS : Hid (∀ V, Hid (PIc nameB nm w V) → Calls Tryd.prog 31 #[.agg #[.string nameB, .string nm]] V fun e w' => ∃ c, e = .returned (.agg #[.string nameB, fnV 48, fnV 48, fn2 53 (c + 3)]) ∧ Hid (PIc nameB nm w w' ∧ Cau c w' ∧ c + 6 ≤ w'.heap.size)) := fun V hV =>
    (schemeOf_name nm V).mono (fun e w' ⟨c, g1, g2, g3, _, g5⟩ => ⟨c, g1, hV.out.below g2, g3, g5⟩)
  have HR : Hid (∀ (c : Nat) (V : World), Hid (PIc nameB nm w V ∧ Cau c V ∧ c + 6 ≤ V.heap.size) → Calls Tryd.prog 48 #[.string nm] V fun e w' => e = .returned (.bool b) ∧ Hid (PIc nameB nm w w')) := fun c V hV => by
    rw [hb]
    exact (aclIsName nm V).mono (fun e w' h => ⟨h.1, hV.out.1.below h.2⟩)
  rw [← hb]
  clear hb
  have HW : Hid (PIc nameB nm w (w.alloc (.cells #[.string nameB, .string nm] 26)).drew) := PIc.start nameB nm w
  have hfd : ∀ (c : Nat) (W : World), (Instr.field 60 (.agg #[.string nameB, fnV 48, fnV 48, fn2 53 (c + 3)]) 2).run Tryd.prog W = .ok (fnV 48) W := fun c W => by kernel_rfl
  go_enter Tryd.func29, Tryd.ntmps29
  go_wp2_with fail
  refine wp_region_held_drew (S := fun w' => w'.cell? ⟨w.heap.size, 0, none⟩ = some (.string nameB) ∧ w'.cell? ⟨w.heap.size, 1, none⟩ = some (.string nm)) (by kernel_rfl) ?_ (fun hHeld => ?_)
  · exact HW.out.cells
  refine wpAnyH_take (i := 0) (oi := { dst := some 3, op := Op.load 26 (Operand.tmp 1), type := 26, pos := "scheme.go:45", after := #[], guard := none }) (v := ?_) rfl (by kernel_rfl) (by kernel_rfl) (by kernel_rfl) (fun _ _ _ h => h) (Or.inl ⟨by rfl, ?_⟩) (by assumption) ?_
  rotate_left
  · (intro w hSw; (try dsimp only at hSw); go_simp) <;> with_reducible rfl
  try simp only [Act.put, List.setIfInBounds_toArray, List.set_cons_zero, List.set_cons_succ]
  refine wpAnyH_take (i := 3) (oi := { dst := some 6, op := Op.fieldAddr 26 (Operand.tmp 1) 1, type := 0, pos := "scheme.go:45", after := #[], guard := none }) (v := ?_) rfl (by kernel_rfl) (by kernel_rfl) (by kernel_rfl) (fun _ _ _ h => h) (Or.inl ⟨by rfl, ?_⟩) (by assumption) ?_
  rotate_left
  · (intro w hSw; (try dsimp only at hSw); go_simp) <;> with_reducible rfl
  try simp only [Act.put, List.setIfInBounds_toArray, List.set_cons_zero, List.set_cons_succ]
  refine wpAnyH_take (i := 4) (oi := { dst := some 7, op := Op.load 9 (Operand.tmp 6), type := 9, pos := "scheme.go:45", after := #[{ on := 3, ground := Ground.data }], guard := none }) (v := ?_) rfl (by kernel_rfl) (by kernel_rfl) (by kernel_rfl) (fun _ _ _ h => h) (Or.inl ⟨by rfl, ?_⟩) (by assumption) ?_
  rotate_left
  · (intro w hSw; (try dsimp only at hSw); go_simp) <;> with_reducible rfl
  try simp only [Act.put, List.setIfInBounds_toArray, List.set_cons_zero, List.set_cons_succ]
  refine wpAnyH_ready (rs := [1]) (by kernel_rfl) (by simp) ?_
  refine AllReadyH.cons (o := { dst := some 4, op := Op.call { callee := Callee.value (Operand.func 31), args := #[Operand.tmp 3], argTypes := #[26] }, type := 60, pos := "scheme.go:45", after := #[{ on := 0, ground := Ground.data }], guard := none }) rfl (fun K hK => ?_) AllReadyH.nil
  go_simp
  refine (HS.out _ HW).mono ?_
  rintro e w1 ⟨c, rfl, HS1⟩
  clear hHeld
  refine hK.out _ _ HS1.out.1.cells (fun hHeld => ?_)
  clear hK K
  refine wpAnyH_take (i := 2) (oi := { dst := some 5, op := Op.field 60 (Operand.tmp 4) 2, type := 57, pos := "scheme.go:45", after := #[{ on := 1, ground := Ground.data }], guard := none }) (v := ?_) rfl (by kernel_rfl) (by kernel_rfl) (by kernel_rfl) (fun _ _ _ h => h) (Or.inl ⟨by rfl, ?_⟩) (by assumption) ?_
  rotate_left
  · (intro w hSw; (try dsimp only at hSw); go_simp) <;> with_reducible rfl
  try simp only [Act.put, List.setIfInBounds_toArray, List.set_cons_zero, List.set_cons_succ]
  refine wpAnyH_ready (rs := [5]) (by kernel_rfl) (by simp) ?_
  refine AllReadyH.cons (o := { dst := some 8, op := Op.call { callee := Callee.value (Operand.tmp 5), args := #[Operand.tmp 7], argTypes := #[9] }, type := 4, pos := "scheme.go:45", after := #[{ on := 2, ground := Ground.data }, { on := 4, ground := Ground.data }, { on := 1, ground := Ground.chain }], guard := none }) rfl (fun K hK => ?_) AllReadyH.nil
  go_simp
  refine (HR.out c _ HS1).mono ?_
  rintro e w2 ⟨rfl, HS2⟩
  clear hHeld
  refine hK.out _ _ HS2.out.cells (fun hHeld => ?_)
  clear hK K
  refine wpAnyH_take (i := 6) (oi := { dst := some 2, op := Op.assign (Operand.tmp 8), type := 4, pos := "scheme.go:45", after := #[{ on := 5, ground := Ground.data }, { on := 5, ground := Ground.chain }, { on := 0, ground := Ground.phase }, { on := 1, ground := Ground.phase }, { on := 2, ground := Ground.phase }, { on := 3, ground := Ground.phase }, { on := 4, ground := Ground.phase }, { on := 5, ground := Ground.phase }], guard := none }) (v := ?_) rfl (by kernel_rfl) (by kernel_rfl) (by kernel_rfl) (fun _ _ _ h => h) (Or.inl ⟨by rfl, ?_⟩) (by assumption) ?_
  rotate_left
  · (intro w hSw; (try dsimp only at hSw); go_simp) <;> with_reducible rfl
  try simp only [Act.put, List.setIfInBounds_toArray, List.set_cons_zero, List.set_cons_succ]
  refine wpAnyH_done (by kernel_rfl) ?_ _
  all_goals go_wp2
  all_goals (go_ret; exact ⟨rfl, HS2.out.2⟩)

set_option maxHeartbeats 1000000 in
theorem isOfEntry_other (sc nm : ByteArray) (h0 : sc.data.toList ≠ worldB.data.toList) (h1 : sc.data.toList ≠ ipB.data.toList) (h2 : sc.data.toList ≠ nameB.data.toList) (h3 : sc.data.toList ≠ authB.data.toList) (w : World) : Calls Tryd.prog 29 #[.agg #[.string sc, .string nm]] w fun e w' => e = .returned (.bool (false)) ∧ Below w.heap.size w w' := by
  obtain ⟨b, hb⟩ : ∃ b : Bool, b = false := ⟨_, rfl⟩
  have HS : Hid (∀ V, Hid (PIc sc nm w V) → Calls Tryd.prog 31 #[.agg #[.string sc, .string nm]] V fun e w' => e = .returned (.agg #[.string sc, fnV 39, fnV 39, fnV 40]) ∧ Hid (PIc sc nm w w')) := fun V hV =>
    (schemeOf_other sc nm h0 h1 h2 h3 V).mono (fun e w' hh => ⟨hh.1, hV.out.below hh.2⟩)
  have HR : Hid (∀ (c : Nat) (V : World), Hid (PIc sc nm w V) → Calls Tryd.prog 39 #[.string nm] V fun e w' => e = .returned (.bool b) ∧ Hid (PIc sc nm w w')) := fun c V hV => by
    rw [hb]
    exact (isNone_any nm V).mono (fun e w' h => ⟨h.1, h.2 ▸ hV.out⟩)
  rw [← hb]
  clear hb h0 h1 h2 h3
  have HW : Hid (PIc sc nm w (w.alloc (.cells #[.string sc, .string nm] 26)).drew) := PIc.start sc nm w
  have hfd : ∀ (W : World), (Instr.field 60 (.agg #[.string sc, fnV 39, fnV 39, fnV 40]) 2).run Tryd.prog W = .ok (fnV 39) W := fun W => by kernel_rfl
  go_enter Tryd.func29, Tryd.ntmps29
  go_wp2_with fail
  refine wp_region_held_drew (S := fun w' => w'.cell? ⟨w.heap.size, 0, none⟩ = some (.string sc) ∧ w'.cell? ⟨w.heap.size, 1, none⟩ = some (.string nm)) (by kernel_rfl) ?_ (fun hHeld => ?_)
  · exact HW.out.cells
  refine wpAnyH_take (i := 0) (oi := { dst := some 3, op := Op.load 26 (Operand.tmp 1), type := 26, pos := "scheme.go:45", after := #[], guard := none }) (v := ?_) rfl (by kernel_rfl) (by kernel_rfl) (by kernel_rfl) (fun _ _ _ h => h) (Or.inl ⟨by rfl, ?_⟩) (by assumption) ?_
  rotate_left
  · (intro w hSw; (try dsimp only at hSw); go_simp) <;> with_reducible rfl
  try simp only [Act.put, List.setIfInBounds_toArray, List.set_cons_zero, List.set_cons_succ]
  refine wpAnyH_take (i := 3) (oi := { dst := some 6, op := Op.fieldAddr 26 (Operand.tmp 1) 1, type := 0, pos := "scheme.go:45", after := #[], guard := none }) (v := ?_) rfl (by kernel_rfl) (by kernel_rfl) (by kernel_rfl) (fun _ _ _ h => h) (Or.inl ⟨by rfl, ?_⟩) (by assumption) ?_
  rotate_left
  · (intro w hSw; (try dsimp only at hSw); go_simp) <;> with_reducible rfl
  try simp only [Act.put, List.setIfInBounds_toArray, List.set_cons_zero, List.set_cons_succ]
  refine wpAnyH_take (i := 4) (oi := { dst := some 7, op := Op.load 9 (Operand.tmp 6), type := 9, pos := "scheme.go:45", after := #[{ on := 3, ground := Ground.data }], guard := none }) (v := ?_) rfl (by kernel_rfl) (by kernel_rfl) (by kernel_rfl) (fun _ _ _ h => h) (Or.inl ⟨by rfl, ?_⟩) (by assumption) ?_
  rotate_left
  · (intro w hSw; (try dsimp only at hSw); go_simp) <;> with_reducible rfl
  try simp only [Act.put, List.setIfInBounds_toArray, List.set_cons_zero, List.set_cons_succ]
  refine wpAnyH_ready (rs := [1]) (by kernel_rfl) (by simp) ?_
  refine AllReadyH.cons (o := { dst := some 4, op := Op.call { callee := Callee.value (Operand.func 31), args := #[Operand.tmp 3], argTypes := #[26] }, type := 60, pos := "scheme.go:45", after := #[{ on := 0, ground := Ground.data }], guard := none }) rfl (fun K hK => ?_) AllReadyH.nil
  go_simp
  refine (HS.out _ HW).mono ?_
  rintro e w1 ⟨rfl, HS1⟩
  clear hHeld
  refine hK.out _ _ HS1.out.cells (fun hHeld => ?_)
  clear hK K
  refine wpAnyH_take (i := 2) (oi := { dst := some 5, op := Op.field 60 (Operand.tmp 4) 2, type := 57, pos := "scheme.go:45", after := #[{ on := 1, ground := Ground.data }], guard := none }) (v := ?_) rfl (by kernel_rfl) (by kernel_rfl) (by kernel_rfl) (fun _ _ _ h => h) (Or.inl ⟨by rfl, ?_⟩) (by assumption) ?_
  rotate_left
  · (intro w hSw; (try dsimp only at hSw); go_simp) <;> with_reducible rfl
  try simp only [Act.put, List.setIfInBounds_toArray, List.set_cons_zero, List.set_cons_succ]
  refine wpAnyH_ready (rs := [5]) (by kernel_rfl) (by simp) ?_
  refine AllReadyH.cons (o := { dst := some 8, op := Op.call { callee := Callee.value (Operand.tmp 5), args := #[Operand.tmp 7], argTypes := #[9] }, type := 4, pos := "scheme.go:45", after := #[{ on := 2, ground := Ground.data }, { on := 4, ground := Ground.data }, { on := 1, ground := Ground.chain }], guard := none }) rfl (fun K hK => ?_) AllReadyH.nil
  go_simp
  refine (HR.out 0 _ HS1).mono ?_
  rintro e w2 ⟨rfl, HS2⟩
  clear hHeld
  refine hK.out _ _ HS2.out.cells (fun hHeld => ?_)
  clear hK K
  refine wpAnyH_take (i := 6) (oi := { dst := some 2, op := Op.assign (Operand.tmp 8), type := 4, pos := "scheme.go:45", after := #[{ on := 5, ground := Ground.data }, { on := 5, ground := Ground.chain }, { on := 0, ground := Ground.phase }, { on := 1, ground := Ground.phase }, { on := 2, ground := Ground.phase }, { on := 3, ground := Ground.phase }, { on := 4, ground := Ground.phase }, { on := 5, ground := Ground.phase }], guard := none }) (v := ?_) rfl (by kernel_rfl) (by kernel_rfl) (by kernel_rfl) (fun _ _ _ h => h) (Or.inl ⟨by rfl, ?_⟩) (by assumption) ?_
  rotate_left
  · (intro w hSw; (try dsimp only at hSw); go_simp) <;> with_reducible rfl
  try simp only [Act.put, List.setIfInBounds_toArray, List.set_cons_zero, List.set_cons_succ]
  refine wpAnyH_done (by kernel_rfl) ?_ _
  all_goals go_wp2
  all_goals (go_ret; exact ⟨rfl, HS2.out.2⟩)

set_option maxHeartbeats 1000000 in
theorem isOfClient_world (nm : ByteArray) (w : World) : Calls Tryd.prog 21 #[.agg #[.string worldB, .string nm]] w fun e w' => e = .returned (.bool (false)) ∧ Below w.heap.size w w' := by
  obtain ⟨b, hb⟩ : ∃ b : Bool, b = false := ⟨_, rfl⟩
  have HS : Hid (∀ V, Hid (PIc worldB nm w V) → Calls Tryd.prog 31 #[.agg #[.string worldB, .string nm]] V fun e w' => ∃ c, e = .returned (.agg #[.string worldB, fnV 39, fn1 50 c, fnV 43]) ∧ Hid (PIc worldB nm w w' ∧ Cau c w' ∧ c + 6 ≤ w'.heap.size)) := fun V hV =>
    (schemeOf_world nm V).mono (fun e w' ⟨c, g1, g2, g3, _, g5⟩ => ⟨c, g1, hV.out.below g2, g3, g5⟩)
  have HR : Hid (∀ (c : Nat) (V : World), Hid (PIc worldB nm w V ∧ Cau c V ∧ c + 6 ≤ V.heap.size) → Calls Tryd.prog 39 #[.string nm] V fun e w' => e = .returned (.bool b) ∧ Hid (PIc worldB nm w w')) := fun c V hV => by
    rw [hb]
    exact (isNone_any nm V).mono (fun e w' h => ⟨h.1, h.2 ▸ hV.out.1⟩)
  rw [← hb]
  clear hb
  have HW : Hid (PIc worldB nm w (w.alloc (.cells #[.string worldB, .string nm] 26)).drew) := PIc.start worldB nm w
  have hfd : ∀ (c : Nat) (W : World), (Instr.field 60 (.agg #[.string worldB, fnV 39, fn1 50 c, fnV 43]) 1).run Tryd.prog W = .ok (fnV 39) W := fun c W => by kernel_rfl
  go_enter Tryd.func21, Tryd.ntmps21
  go_wp2_with fail
  refine wp_region_held_drew (S := fun w' => w'.cell? ⟨w.heap.size, 0, none⟩ = some (.string worldB) ∧ w'.cell? ⟨w.heap.size, 1, none⟩ = some (.string nm)) (by kernel_rfl) ?_ (fun hHeld => ?_)
  · exact HW.out.cells
  refine wpAnyH_take (i := 0) (oi := { dst := some 3, op := Op.load 26 (Operand.tmp 1), type := 26, pos := "scheme.go:43", after := #[], guard := none }) (v := ?_) rfl (by kernel_rfl) (by kernel_rfl) (by kernel_rfl) (fun _ _ _ h => h) (Or.inl ⟨by rfl, ?_⟩) (by assumption) ?_
  rotate_left
  · (intro w hSw; (try dsimp only at hSw); go_simp) <;> with_reducible rfl
  try simp only [Act.put, List.setIfInBounds_toArray, List.set_cons_zero, List.set_cons_succ]
  refine wpAnyH_take (i := 3) (oi := { dst := some 6, op := Op.fieldAddr 26 (Operand.tmp 1) 1, type := 0, pos := "scheme.go:43", after := #[], guard := none }) (v := ?_) rfl (by kernel_rfl) (by kernel_rfl) (by kernel_rfl) (fun _ _ _ h => h) (Or.inl ⟨by rfl, ?_⟩) (by assumption) ?_
  rotate_left
  · (intro w hSw; (try dsimp only at hSw); go_simp) <;> with_reducible rfl
  try simp only [Act.put, List.setIfInBounds_toArray, List.set_cons_zero, List.set_cons_succ]
  refine wpAnyH_take (i := 4) (oi := { dst := some 7, op := Op.load 9 (Operand.tmp 6), type := 9, pos := "scheme.go:43", after := #[{ on := 3, ground := Ground.data }], guard := none }) (v := ?_) rfl (by kernel_rfl) (by kernel_rfl) (by kernel_rfl) (fun _ _ _ h => h) (Or.inl ⟨by rfl, ?_⟩) (by assumption) ?_
  rotate_left
  · (intro w hSw; (try dsimp only at hSw); go_simp) <;> with_reducible rfl
  try simp only [Act.put, List.setIfInBounds_toArray, List.set_cons_zero, List.set_cons_succ]
  refine wpAnyH_ready (rs := [1]) (by kernel_rfl) (by simp) ?_
  refine AllReadyH.cons (o := { dst := some 4, op := Op.call { callee := Callee.value (Operand.func 31), args := #[Operand.tmp 3], argTypes := #[26] }, type := 60, pos := "scheme.go:43", after := #[{ on := 0, ground := Ground.data }], guard := none }) rfl (fun K hK => ?_) AllReadyH.nil
  go_simp
  refine (HS.out _ HW).mono ?_
  rintro e w1 ⟨c, rfl, HS1⟩
  clear hHeld
  refine hK.out _ _ HS1.out.1.cells (fun hHeld => ?_)
  clear hK K
  refine wpAnyH_take (i := 2) (oi := { dst := some 5, op := Op.field 60 (Operand.tmp 4) 1, type := 57, pos := "scheme.go:43", after := #[{ on := 1, ground := Ground.data }], guard := none }) (v := ?_) rfl (by kernel_rfl) (by kernel_rfl) (by kernel_rfl) (fun _ _ _ h => h) (Or.inl ⟨by rfl, ?_⟩) (by assumption) ?_
  rotate_left
  · (intro w hSw; (try dsimp only at hSw); go_simp) <;> with_reducible rfl
  try simp only [Act.put, List.setIfInBounds_toArray, List.set_cons_zero, List.set_cons_succ]
  refine wpAnyH_ready (rs := [5]) (by kernel_rfl) (by simp) ?_
  refine AllReadyH.cons (o := { dst := some 8, op := Op.call { callee := Callee.value (Operand.tmp 5), args := #[Operand.tmp 7], argTypes := #[9] }, type := 4, pos := "scheme.go:43", after := #[{ on := 2, ground := Ground.data }, { on := 4, ground := Ground.data }, { on := 1, ground := Ground.chain }], guard := none }) rfl (fun K hK => ?_) AllReadyH.nil
  go_simp
  refine (HR.out c _ HS1).mono ?_
  rintro e w2 ⟨rfl, HS2⟩
  clear hHeld
  refine hK.out _ _ HS2.out.cells (fun hHeld => ?_)
  clear hK K
  refine wpAnyH_take (i := 6) (oi := { dst := some 2, op := Op.assign (Operand.tmp 8), type := 4, pos := "scheme.go:43", after := #[{ on := 5, ground := Ground.data }, { on := 5, ground := Ground.chain }, { on := 0, ground := Ground.phase }, { on := 1, ground := Ground.phase }, { on := 2, ground := Ground.phase }, { on := 3, ground := Ground.phase }, { on := 4, ground := Ground.phase }, { on := 5, ground := Ground.phase }], guard := none }) (v := ?_) rfl (by kernel_rfl) (by kernel_rfl) (by kernel_rfl) (fun _ _ _ h => h) (Or.inl ⟨by rfl, ?_⟩) (by assumption) ?_
  rotate_left
  · (intro w hSw; (try dsimp only at hSw); go_simp) <;> with_reducible rfl
  try simp only [Act.put, List.setIfInBounds_toArray, List.set_cons_zero, List.set_cons_succ]
  refine wpAnyH_done (by kernel_rfl) ?_ _
  all_goals go_wp2
  all_goals (go_ret; exact ⟨rfl, HS2.out.2⟩)

set_option maxHeartbeats 1000000 in
theorem isOfClient_auth (nm : ByteArray) (w : World) : Calls Tryd.prog 21 #[.agg #[.string authB, .string nm]] w fun e w' => e = .returned (.bool (false)) ∧ Below w.heap.size w w' := by
  obtain ⟨b, hb⟩ : ∃ b : Bool, b = false := ⟨_, rfl⟩
  have HS : Hid (∀ V, Hid (PIc authB nm w V) → Calls Tryd.prog 31 #[.agg #[.string authB, .string nm]] V fun e w' => ∃ c, e = .returned (.agg #[.string authB, fnV 39, fn1 50 (c + 5), fnV 40]) ∧ Hid (PIc authB nm w w' ∧ Cau c w' ∧ c + 6 ≤ w'.heap.size)) := fun V hV =>
    (schemeOf_auth nm V).mono (fun e w' ⟨c, g1, g2, g3, _, g5⟩ => ⟨c, g1, hV.out.below g2, g3, g5⟩)
  have HR : Hid (∀ (c : Nat) (V : World), Hid (PIc authB nm w V ∧ Cau c V ∧ c + 6 ≤ V.heap.size) → Calls Tryd.prog 39 #[.string nm] V fun e w' => e = .returned (.bool b) ∧ Hid (PIc authB nm w w')) := fun c V hV => by
    rw [hb]
    exact (isNone_any nm V).mono (fun e w' h => ⟨h.1, h.2 ▸ hV.out.1⟩)
  rw [← hb]
  clear hb
  have HW : Hid (PIc authB nm w (w.alloc (.cells #[.string authB, .string nm] 26)).drew) := PIc.start authB nm w
  have hfd : ∀ (c : Nat) (W : World), (Instr.field 60 (.agg #[.string authB, fnV 39, fn1 50 (c + 5), fnV 40]) 1).run Tryd.prog W = .ok (fnV 39) W := fun c W => by kernel_rfl
  go_enter Tryd.func21, Tryd.ntmps21
  go_wp2_with fail
  refine wp_region_held_drew (S := fun w' => w'.cell? ⟨w.heap.size, 0, none⟩ = some (.string authB) ∧ w'.cell? ⟨w.heap.size, 1, none⟩ = some (.string nm)) (by kernel_rfl) ?_ (fun hHeld => ?_)
  · exact HW.out.cells
  refine wpAnyH_take (i := 0) (oi := { dst := some 3, op := Op.load 26 (Operand.tmp 1), type := 26, pos := "scheme.go:43", after := #[], guard := none }) (v := ?_) rfl (by kernel_rfl) (by kernel_rfl) (by kernel_rfl) (fun _ _ _ h => h) (Or.inl ⟨by rfl, ?_⟩) (by assumption) ?_
  rotate_left
  · (intro w hSw; (try dsimp only at hSw); go_simp) <;> with_reducible rfl
  try simp only [Act.put, List.setIfInBounds_toArray, List.set_cons_zero, List.set_cons_succ]
  refine wpAnyH_take (i := 3) (oi := { dst := some 6, op := Op.fieldAddr 26 (Operand.tmp 1) 1, type := 0, pos := "scheme.go:43", after := #[], guard := none }) (v := ?_) rfl (by kernel_rfl) (by kernel_rfl) (by kernel_rfl) (fun _ _ _ h => h) (Or.inl ⟨by rfl, ?_⟩) (by assumption) ?_
  rotate_left
  · (intro w hSw; (try dsimp only at hSw); go_simp) <;> with_reducible rfl
  try simp only [Act.put, List.setIfInBounds_toArray, List.set_cons_zero, List.set_cons_succ]
  refine wpAnyH_take (i := 4) (oi := { dst := some 7, op := Op.load 9 (Operand.tmp 6), type := 9, pos := "scheme.go:43", after := #[{ on := 3, ground := Ground.data }], guard := none }) (v := ?_) rfl (by kernel_rfl) (by kernel_rfl) (by kernel_rfl) (fun _ _ _ h => h) (Or.inl ⟨by rfl, ?_⟩) (by assumption) ?_
  rotate_left
  · (intro w hSw; (try dsimp only at hSw); go_simp) <;> with_reducible rfl
  try simp only [Act.put, List.setIfInBounds_toArray, List.set_cons_zero, List.set_cons_succ]
  refine wpAnyH_ready (rs := [1]) (by kernel_rfl) (by simp) ?_
  refine AllReadyH.cons (o := { dst := some 4, op := Op.call { callee := Callee.value (Operand.func 31), args := #[Operand.tmp 3], argTypes := #[26] }, type := 60, pos := "scheme.go:43", after := #[{ on := 0, ground := Ground.data }], guard := none }) rfl (fun K hK => ?_) AllReadyH.nil
  go_simp
  refine (HS.out _ HW).mono ?_
  rintro e w1 ⟨c, rfl, HS1⟩
  clear hHeld
  refine hK.out _ _ HS1.out.1.cells (fun hHeld => ?_)
  clear hK K
  refine wpAnyH_take (i := 2) (oi := { dst := some 5, op := Op.field 60 (Operand.tmp 4) 1, type := 57, pos := "scheme.go:43", after := #[{ on := 1, ground := Ground.data }], guard := none }) (v := ?_) rfl (by kernel_rfl) (by kernel_rfl) (by kernel_rfl) (fun _ _ _ h => h) (Or.inl ⟨by rfl, ?_⟩) (by assumption) ?_
  rotate_left
  · (intro w hSw; (try dsimp only at hSw); go_simp) <;> with_reducible rfl
  try simp only [Act.put, List.setIfInBounds_toArray, List.set_cons_zero, List.set_cons_succ]
  refine wpAnyH_ready (rs := [5]) (by kernel_rfl) (by simp) ?_
  refine AllReadyH.cons (o := { dst := some 8, op := Op.call { callee := Callee.value (Operand.tmp 5), args := #[Operand.tmp 7], argTypes := #[9] }, type := 4, pos := "scheme.go:43", after := #[{ on := 2, ground := Ground.data }, { on := 4, ground := Ground.data }, { on := 1, ground := Ground.chain }], guard := none }) rfl (fun K hK => ?_) AllReadyH.nil
  go_simp
  refine (HR.out c _ HS1).mono ?_
  rintro e w2 ⟨rfl, HS2⟩
  clear hHeld
  refine hK.out _ _ HS2.out.cells (fun hHeld => ?_)
  clear hK K
  refine wpAnyH_take (i := 6) (oi := { dst := some 2, op := Op.assign (Operand.tmp 8), type := 4, pos := "scheme.go:43", after := #[{ on := 5, ground := Ground.data }, { on := 5, ground := Ground.chain }, { on := 0, ground := Ground.phase }, { on := 1, ground := Ground.phase }, { on := 2, ground := Ground.phase }, { on := 3, ground := Ground.phase }, { on := 4, ground := Ground.phase }, { on := 5, ground := Ground.phase }], guard := none }) (v := ?_) rfl (by kernel_rfl) (by kernel_rfl) (by kernel_rfl) (fun _ _ _ h => h) (Or.inl ⟨by rfl, ?_⟩) (by assumption) ?_
  rotate_left
  · (intro w hSw; (try dsimp only at hSw); go_simp) <;> with_reducible rfl
  try simp only [Act.put, List.setIfInBounds_toArray, List.set_cons_zero, List.set_cons_succ]
  refine wpAnyH_done (by kernel_rfl) ?_ _
  all_goals go_wp2
  all_goals (go_ret; exact ⟨rfl, HS2.out.2⟩)

set_option maxHeartbeats 1000000 in
theorem isOfClient_name (nm : ByteArray) (w : World) : Calls Tryd.prog 21 #[.agg #[.string nameB, .string nm]] w fun e w' => e = .returned (.bool (nmR nm.data.toList)) ∧ Below w.heap.size w w' := by
  obtain ⟨b, hb⟩ : ∃ b : Bool, b = nmR nm.data.toList := ⟨_, rfl⟩
  have HS : Hid (∀ V, Hid (PIc nameB nm w V) → Calls Tryd.prog 31 #[.agg #[.string nameB, .string nm]] V fun e w' => ∃ c, e = .returned (.agg #[.string nameB, fnV 48, fnV 48, fn2 53 (c + 3)]) ∧ Hid (PIc nameB nm w w' ∧ Cau c w' ∧ c + 6 ≤ w'.heap.size)) := fun V hV =>
    (schemeOf_name nm V).mono (fun e w' ⟨c, g1, g2, g3, _, g5⟩ => ⟨c, g1, hV.out.below g2, g3, g5⟩)
  have HR : Hid (∀ (c : Nat) (V : World), Hid (PIc nameB nm w V ∧ Cau c V ∧ c + 6 ≤ V.heap.size) → Calls Tryd.prog 48 #[.string nm] V fun e w' => e = .returned (.bool b) ∧ Hid (PIc nameB nm w w')) := fun c V hV => by
    rw [hb]
    exact (aclIsName nm V).mono (fun e w' h => ⟨h.1, hV.out.1.below h.2⟩)
  rw [← hb]
  clear hb
  have HW : Hid (PIc nameB nm w (w.alloc (.cells #[.string nameB, .string nm] 26)).drew) := PIc.start nameB nm w
  have hfd : ∀ (c : Nat) (W : World), (Instr.field 60 (.agg #[.string nameB, fnV 48, fnV 48, fn2 53 (c + 3)]) 1).run Tryd.prog W = .ok (fnV 48) W := fun c W => by kernel_rfl
  go_enter Tryd.func21, Tryd.ntmps21
  go_wp2_with fail
  refine wp_region_held_drew (S := fun w' => w'.cell? ⟨w.heap.size, 0, none⟩ = some (.string nameB) ∧ w'.cell? ⟨w.heap.size, 1, none⟩ = some (.string nm)) (by kernel_rfl) ?_ (fun hHeld => ?_)
  · exact HW.out.cells
  refine wpAnyH_take (i := 0) (oi := { dst := some 3, op := Op.load 26 (Operand.tmp 1), type := 26, pos := "scheme.go:43", after := #[], guard := none }) (v := ?_) rfl (by kernel_rfl) (by kernel_rfl) (by kernel_rfl) (fun _ _ _ h => h) (Or.inl ⟨by rfl, ?_⟩) (by assumption) ?_
  rotate_left
  · (intro w hSw; (try dsimp only at hSw); go_simp) <;> with_reducible rfl
  try simp only [Act.put, List.setIfInBounds_toArray, List.set_cons_zero, List.set_cons_succ]
  refine wpAnyH_take (i := 3) (oi := { dst := some 6, op := Op.fieldAddr 26 (Operand.tmp 1) 1, type := 0, pos := "scheme.go:43", after := #[], guard := none }) (v := ?_) rfl (by kernel_rfl) (by kernel_rfl) (by kernel_rfl) (fun _ _ _ h => h) (Or.inl ⟨by rfl, ?_⟩) (by assumption) ?_
  rotate_left
  · (intro w hSw; (try dsimp only at hSw); go_simp) <;> with_reducible rfl
  try simp only [Act.put, List.setIfInBounds_toArray, List.set_cons_zero, List.set_cons_succ]
  refine wpAnyH_take (i := 4) (oi := { dst := some 7, op := Op.load 9 (Operand.tmp 6), type := 9, pos := "scheme.go:43", after := #[{ on := 3, ground := Ground.data }], guard := none }) (v := ?_) rfl (by kernel_rfl) (by kernel_rfl) (by kernel_rfl) (fun _ _ _ h => h) (Or.inl ⟨by rfl, ?_⟩) (by assumption) ?_
  rotate_left
  · (intro w hSw; (try dsimp only at hSw); go_simp) <;> with_reducible rfl
  try simp only [Act.put, List.setIfInBounds_toArray, List.set_cons_zero, List.set_cons_succ]
  refine wpAnyH_ready (rs := [1]) (by kernel_rfl) (by simp) ?_
  refine AllReadyH.cons (o := { dst := some 4, op := Op.call { callee := Callee.value (Operand.func 31), args := #[Operand.tmp 3], argTypes := #[26] }, type := 60, pos := "scheme.go:43", after := #[{ on := 0, ground := Ground.data }], guard := none }) rfl (fun K hK => ?_) AllReadyH.nil
  go_simp
  refine (HS.out _ HW).mono ?_
  rintro e w1 ⟨c, rfl, HS1⟩
  clear hHeld
  refine hK.out _ _ HS1.out.1.cells (fun hHeld => ?_)
  clear hK K
  refine wpAnyH_take (i := 2) (oi := { dst := some 5, op := Op.field 60 (Operand.tmp 4) 1, type := 57, pos := "scheme.go:43", after := #[{ on := 1, ground := Ground.data }], guard := none }) (v := ?_) rfl (by kernel_rfl) (by kernel_rfl) (by kernel_rfl) (fun _ _ _ h => h) (Or.inl ⟨by rfl, ?_⟩) (by assumption) ?_
  rotate_left
  · (intro w hSw; (try dsimp only at hSw); go_simp) <;> with_reducible rfl
  try simp only [Act.put, List.setIfInBounds_toArray, List.set_cons_zero, List.set_cons_succ]
  refine wpAnyH_ready (rs := [5]) (by kernel_rfl) (by simp) ?_
  refine AllReadyH.cons (o := { dst := some 8, op := Op.call { callee := Callee.value (Operand.tmp 5), args := #[Operand.tmp 7], argTypes := #[9] }, type := 4, pos := "scheme.go:43", after := #[{ on := 2, ground := Ground.data }, { on := 4, ground := Ground.data }, { on := 1, ground := Ground.chain }], guard := none }) rfl (fun K hK => ?_) AllReadyH.nil
  go_simp
  refine (HR.out c _ HS1).mono ?_
  rintro e w2 ⟨rfl, HS2⟩
  clear hHeld
  refine hK.out _ _ HS2.out.cells (fun hHeld => ?_)
  clear hK K
  refine wpAnyH_take (i := 6) (oi := { dst := some 2, op := Op.assign (Operand.tmp 8), type := 4, pos := "scheme.go:43", after := #[{ on := 5, ground := Ground.data }, { on := 5, ground := Ground.chain }, { on := 0, ground := Ground.phase }, { on := 1, ground := Ground.phase }, { on := 2, ground := Ground.phase }, { on := 3, ground := Ground.phase }, { on := 4, ground := Ground.phase }, { on := 5, ground := Ground.phase }], guard := none }) (v := ?_) rfl (by kernel_rfl) (by kernel_rfl) (by kernel_rfl) (fun _ _ _ h => h) (Or.inl ⟨by rfl, ?_⟩) (by assumption) ?_
  rotate_left
  · (intro w hSw; (try dsimp only at hSw); go_simp) <;> with_reducible rfl
  try simp only [Act.put, List.setIfInBounds_toArray, List.set_cons_zero, List.set_cons_succ]
  refine wpAnyH_done (by kernel_rfl) ?_ _
  all_goals go_wp2
  all_goals (go_ret; exact ⟨rfl, HS2.out.2⟩)

set_option maxHeartbeats 1000000 in
theorem isOfClient_other (sc nm : ByteArray) (h0 : sc.data.toList ≠ worldB.data.toList) (h1 : sc.data.toList ≠ ipB.data.toList) (h2 : sc.data.toList ≠ nameB.data.toList) (h3 : sc.data.toList ≠ authB.data.toList) (w : World) : Calls Tryd.prog 21 #[.agg #[.string sc, .string nm]] w fun e w' => e = .returned (.bool (false)) ∧ Below w.heap.size w w' := by
  obtain ⟨b, hb⟩ : ∃ b : Bool, b = false := ⟨_, rfl⟩
  have HS : Hid (∀ V, Hid (PIc sc nm w V) → Calls Tryd.prog 31 #[.agg #[.string sc, .string nm]] V fun e w' => e = .returned (.agg #[.string sc, fnV 39, fnV 39, fnV 40]) ∧ Hid (PIc sc nm w w')) := fun V hV =>
    (schemeOf_other sc nm h0 h1 h2 h3 V).mono (fun e w' hh => ⟨hh.1, hV.out.below hh.2⟩)
  have HR : Hid (∀ (c : Nat) (V : World), Hid (PIc sc nm w V) → Calls Tryd.prog 39 #[.string nm] V fun e w' => e = .returned (.bool b) ∧ Hid (PIc sc nm w w')) := fun c V hV => by
    rw [hb]
    exact (isNone_any nm V).mono (fun e w' h => ⟨h.1, h.2 ▸ hV.out⟩)
  rw [← hb]
  clear hb h0 h1 h2 h3
  have HW : Hid (PIc sc nm w (w.alloc (.cells #[.string sc, .string nm] 26)).drew) := PIc.start sc nm w
  have hfd : ∀ (W : World), (Instr.field 60 (.agg #[.string sc, fnV 39, fnV 39, fnV 40]) 1).run Tryd.prog W = .ok (fnV 39) W := fun W => by kernel_rfl
  go_enter Tryd.func21, Tryd.ntmps21
  go_wp2_with fail
  refine wp_region_held_drew (S := fun w' => w'.cell? ⟨w.heap.size, 0, none⟩ = some (.string sc) ∧ w'.cell? ⟨w.heap.size, 1, none⟩ = some (.string nm)) (by kernel_rfl) ?_ (fun hHeld => ?_)
  · exact HW.out.cells
  refine wpAnyH_take (i := 0) (oi := { dst := some 3, op := Op.load 26 (Operand.tmp 1), type := 26, pos := "scheme.go:43", after := #[], guard := none }) (v := ?_) rfl (by kernel_rfl) (by kernel_rfl) (by kernel_rfl) (fun _ _ _ h => h) (Or.inl ⟨by rfl, ?_⟩) (by assumption) ?_
  rotate_left
  · (intro w hSw; (try dsimp only at hSw); go_simp) <;> with_reducible rfl
  try simp only [Act.put, List.setIfInBounds_toArray, List.set_cons_zero, List.set_cons_succ]
  refine wpAnyH_take (i := 3) (oi := { dst := some 6, op := Op.fieldAddr 26 (Operand.tmp 1) 1, type := 0, pos := "scheme.go:43", after := #[], guard := none }) (v := ?_) rfl (by kernel_rfl) (by kernel_rfl) (by kernel_rfl) (fun _ _ _ h => h) (Or.inl ⟨by rfl, ?_⟩) (by assumption) ?_
  rotate_left
  · (intro w hSw; (try dsimp only at hSw); go_simp) <;> with_reducible rfl
  try simp only [Act.put, List.setIfInBounds_toArray, List.set_cons_zero, List.set_cons_succ]
  refine wpAnyH_take (i := 4) (oi := { dst := some 7, op := Op.load 9 (Operand.tmp 6), type := 9, pos := "scheme.go:43", after := #[{ on := 3, ground := Ground.data }], guard := none }) (v := ?_) rfl (by kernel_rfl) (by kernel_rfl) (by kernel_rfl) (fun _ _ _ h => h) (Or.inl ⟨by rfl, ?_⟩) (by assumption) ?_
  rotate_left
  · (intro w hSw; (try dsimp only at hSw); go_simp) <;> with_reducible rfl
  try simp only [Act.put, List.setIfInBounds_toArray, List.set_cons_zero, List.set_cons_succ]
  refine wpAnyH_ready (rs := [1]) (by kernel_rfl) (by simp) ?_
  refine AllReadyH.cons (o := { dst := some 4, op := Op.call { callee := Callee.value (Operand.func 31), args := #[Operand.tmp 3], argTypes := #[26] }, type := 60, pos := "scheme.go:43", after := #[{ on := 0, ground := Ground.data }], guard := none }) rfl (fun K hK => ?_) AllReadyH.nil
  go_simp
  refine (HS.out _ HW).mono ?_
  rintro e w1 ⟨rfl, HS1⟩
  clear hHeld
  refine hK.out _ _ HS1.out.cells (fun hHeld => ?_)
  clear hK K
  refine wpAnyH_take (i := 2) (oi := { dst := some 5, op := Op.field 60 (Operand.tmp 4) 1, type := 57, pos := "scheme.go:43", after := #[{ on := 1, ground := Ground.data }], guard := none }) (v := ?_) rfl (by kernel_rfl) (by kernel_rfl) (by kernel_rfl) (fun _ _ _ h => h) (Or.inl ⟨by rfl, ?_⟩) (by assumption) ?_
  rotate_left
  · (intro w hSw; (try dsimp only at hSw); go_simp) <;> with_reducible rfl
  try simp only [Act.put, List.setIfInBounds_toArray, List.set_cons_zero, List.set_cons_succ]
  refine wpAnyH_ready (rs := [5]) (by kernel_rfl) (by simp) ?_
  refine AllReadyH.cons (o := { dst := some 8, op := Op.call { callee := Callee.value (Operand.tmp 5), args := #[Operand.tmp 7], argTypes := #[9] }, type := 4, pos := "scheme.go:43", after := #[{ on := 2, ground := Ground.data }, { on := 4, ground := Ground.data }, { on := 1, ground := Ground.chain }], guard := none }) rfl (fun K hK => ?_) AllReadyH.nil
  go_simp
  refine (HR.out 0 _ HS1).mono ?_
  rintro e w2 ⟨rfl, HS2⟩
  clear hHeld
  refine hK.out _ _ HS2.out.cells (fun hHeld => ?_)
  clear hK K
  refine wpAnyH_take (i := 6) (oi := { dst := some 2, op := Op.assign (Operand.tmp 8), type := 4, pos := "scheme.go:43", after := #[{ on := 5, ground := Ground.data }, { on := 5, ground := Ground.chain }, { on := 0, ground := Ground.phase }, { on := 1, ground := Ground.phase }, { on := 2, ground := Ground.phase }, { on := 3, ground := Ground.phase }, { on := 4, ground := Ground.phase }, { on := 5, ground := Ground.phase }], guard := none }) (v := ?_) rfl (by kernel_rfl) (by kernel_rfl) (by kernel_rfl) (fun _ _ _ h => h) (Or.inl ⟨by rfl, ?_⟩) (by assumption) ?_
  rotate_left
  · (intro w hSw; (try dsimp only at hSw); go_simp) <;> with_reducible rfl
  try simp only [Act.put, List.setIfInBounds_toArray, List.set_cons_zero, List.set_cons_succ]
  refine wpAnyH_done (by kernel_rfl) ?_ _
  all_goals go_wp2
  all_goals (go_ret; exact ⟨rfl, HS2.out.2⟩)

end Go.Proofs.YtapnaknbidmnmaaDoor
