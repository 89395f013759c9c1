/- What lagoonlaw06's lives answers. -/
import Derived.Test.YtgoiefhhbgollaaGreatDoorQcMJ
namespace Go.Proofs.YtgoiefhhbgollaaGreatDoor
open Go.RowKit Go.Shelf
set_option maxRecDepth 8000

def lvL : List EnT := [(31, ⟨#[97, 117, 116, 104]⟩, ⟨#[]⟩), (1, ⟨#[105, 112]⟩, ⟨#[49, 48, 46, 49, 46, 50, 46, 51, 47, 49, 54]⟩)]
def lvA : List IdT := [(⟨#[110, 97, 109, 101]⟩, ⟨#[97, 110, 110]⟩)]
def lvT : List IdT := [(⟨#[105, 112]⟩, ⟨#[49, 48, 46, 49, 46, 57, 46, 57]⟩)]
def lvF : List EnT := [(31, ⟨#[110, 97, 109, 101]⟩, ⟨#[97, 110, 110]⟩), (1, ⟨#[105, 112]⟩, ⟨#[49, 48, 46, 49, 46, 50, 46, 51, 47, 49, 54]⟩)]

theorem lv_fix : fixL lvL lvA = some lvF := by kernel_rfl
theorem lv_a : alB lvF 31 lvA = true := by kernel_rfl
theorem lv_b : alB lvF 1 lvT = true := by kernel_rfl
theorem lv_c : alB lvF 2 lvT = false := by kernel_rfl

theorem SE_row {w : World} {b : Nat} {l : List EnT} {t : TypeId} {fr : Nat × Nat} (h : w.heap[b]? = some (.cells (enFlat l).toArray t fr)) : SE w (.slice (some ⟨b, 0, none⟩) l.length l.length) l := by
  refine ⟨_, _, rfl, Nat.le_refl _, fun _ => ⟨b, 0, rfl, fun i x hx => ?_⟩⟩
  obtain ⟨e1, e2, e3⟩ := enFlat_at l i x hx
  rw [Nat.zero_add]
  exact ⟨by rw [cell_of_row w b _ _ _ _ h, ← Array.getElem?_toList]; exact e1, by rw [cell_of_row w b _ _ _ _ h, ← Array.getElem?_toList]; exact e2, by rw [cell_of_row w b _ _ _ _ h, ← Array.getElem?_toList]; exact e3⟩

theorem SI_row {w : World} {b : Nat} {l : List IdT} {t : TypeId} {fr : Nat × Nat} (h : w.heap[b]? = some (.cells (idFlat l).toArray t fr)) : SI w (.slice (some ⟨b, 0, none⟩) l.length l.length) l := by
  refine ⟨_, _, rfl, Nat.le_refl _, fun _ => ⟨b, 0, rfl, fun i x hx => ?_⟩⟩
  obtain ⟨e1, e2⟩ := idFlat_at l i x hx
  rw [Nat.zero_add]
  exact ⟨by rw [cell_of_row w b _ _ _ _ h, ← Array.getElem?_toList]; exact e1, by rw [cell_of_row w b _ _ _ _ h, ← Array.getElem?_toList]; exact e2⟩

/-- The world behind the three lists. -/
abbrev lvW (w : World) : World := ((w.alloc (.cells (enFlat lvL).toArray 39)).alloc (.cells (idFlat lvA).toArray 37)).alloc (.cells (idFlat lvT).toArray 37)

theorem lvW_below (w : World) : Below w.heap.size w (lvW w) := (((Below.refl _ _).alloc (Nat.le_refl _) _).alloc (by simp) _).alloc (by simp; omega) _

theorem lvW_rows (w : World) : SE (lvW w) (.slice (some ⟨w.heap.size, 0, none⟩) 2 2) lvL ∧ SI (lvW w) (.slice (some ⟨w.heap.size + 1, 0, none⟩) 1 1) lvA ∧ SI (lvW w) (.slice (some ⟨w.heap.size + 1 + 1, 0, none⟩) 1 1) lvT := by
  refine ⟨SE_row (l := lvL) (b := w.heap.size) (fr := (0, 0)) (t := 39) ?_, SI_row (l := lvA) (b := w.heap.size + 1) (fr := (0, 0)) (t := 37) ?_, SI_row (l := lvT) (b := w.heap.size + 1 + 1) (fr := (0, 0)) (t := 37) ?_⟩
  · rw [lvW, Below.heap_alloc _ _ _ (by simp; omega), Below.heap_alloc _ _ _ (by simp)]
    exact heap_alloc_new _ _
  · rw [lvW, Below.heap_alloc _ _ _ (by simp)]
    exact alloc_newq (by simp)
  · exact alloc_newq (by simp)

theorem lv_sz : (∀ x ∈ lvL, x.2.2.size ≤ 4294967296) ∧ (∀ x ∈ lvF, x.2.2.size ≤ 4294967296) ∧ (∀ x ∈ lvA, x.2.size ≤ 4294967296) ∧ (∀ x ∈ lvT, x.2.size ≤ 4294967296) := by
  refine ⟨?_, ?_, ?_, ?_⟩ <;> decide

theorem lv_fixed (w : World) : Calls Tryz.prog 9 #[.slice (some ⟨w.heap.size, 0, none⟩) 2 2, .slice (some ⟨w.heap.size + 1, 0, none⟩) 1 1] (lvW w) fun e w' => ∃ g fc, e = .returned (.tuple #[.slice (some ⟨g, 0, none⟩) 2 fc, .int .i64 0]) ∧ w'.cell? ⟨g, 1, none⟩ = some (.string ⟨#[110, 97, 109, 101]⟩) ∧ w'.cell? ⟨g, 2, none⟩ = some (.string ⟨#[97, 110, 110]⟩) ∧ w'.cell? ⟨w.heap.size + 1, 0, none⟩ = some (.string ⟨#[110, 97, 109, 101]⟩) ∧ w'.cell? ⟨w.heap.size + 1, 1, none⟩ = some (.string ⟨#[97, 110, 110]⟩) ∧ Hid (SE w' (.slice (some ⟨g, 0, none⟩) 2 fc) lvF ∧ SI w' (.slice (some ⟨w.heap.size + 1, 0, none⟩) 1 1) lvA ∧ SI w' (.slice (some ⟨w.heap.size + 1 + 1, 0, none⟩) 1 1) lvT ∧ Below w.heap.size w w') := by
  obtain ⟨h1, h2, h3⟩ := lvW_rows w
  refine (fix_any _ _ lvL lvA (lvW w) h1 h2 (by decide) (by decide) (by decide) lv_sz.1 lv_sz.2.2.1).mono ?_
  rintro e w' ⟨⟨fv, rfl, ho, _⟩, hB⟩
  rw [lv_fix] at ho ⊢
  have hS := SE_owns ho
  have hA := h2.below hB
  have hT := h3.below hB
  obtain ⟨ao, cap, rfl, hcap, hc⟩ := id hS
  obtain ⟨b, off, rfl, hx⟩ := hc (by decide)
  obtain ⟨bo, dap, e, hdap, hc2⟩ := id hA
  obtain ⟨b2, off2, rfl, hy⟩ := hc2 (by decide)
  have hoff : off = 0 := by
    obtain ⟨_, ⟨e, _⟩ | ⟨g, cap, cur, e, _⟩⟩ := ho
    · cases e
    · cases e; rfl
  subst hoff
  cases e
  obtain ⟨p0, p1, p2⟩ := hx 0 _ rfl
  obtain ⟨r0, r1⟩ := hy 0 _ rfl
  exact ⟨b, cap, rfl, p1, p2, r0, r1, hS, hA, hT, (lvW_below w).trans (hB.mono (lvW_below w).size)⟩

theorem lv_allows (w V : World) (fv av tv : Value) (h : SE V fv lvF ∧ SI V av lvA ∧ SI V tv lvT ∧ Below w.heap.size w V) (p : Int) (who : List IdT) (uv : Value) (b : Bool) (hu : (uv = av ∧ who = lvA) ∨ (uv = tv ∧ who = lvT)) (hb : alB lvF p who = b) : Calls Tryz.prog 18 #[fv, .int .i8 p, uv] V fun e w' => e = .returned (.bool b) ∧ Hid (SE w' fv lvF ∧ SI w' av lvA ∧ SI w' tv lvT ∧ Below w.heap.size w w') := by
  obtain ⟨h1, h2, h3, h4⟩ := h
  have hw : SI V uv who ∧ who.length ≤ 1000 ∧ ∀ x ∈ who, x.2.size ≤ 4294967296 := by
    rcases hu with ⟨rfl, rfl⟩ | ⟨rfl, rfl⟩
    · exact ⟨h2, by decide, lv_sz.2.2.1⟩
    · exact ⟨h3, by decide, lv_sz.2.2.2⟩
  refine (allows_any fv uv lvF p who V h1 hw.1 (by decide) hw.2.1 lv_sz.2.1 hw.2.2).mono ?_
  rintro e w' ⟨rfl, hB⟩
  exact ⟨by rw [hb], h1.below hB, h2.below hB, h3.below hB, h4.trans (hB.mono h4.size)⟩

set_option maxHeartbeats 1000000 in
theorem lives6_yes (w : World) : Calls Tryz.prog 5 #[] w fun e w' => e = .returned (.bool true) ∧ Below w.heap.size w w' := by
  go_enter Tryz.func5, Tryz.ntmps5
  go_wp2_with fail
  refine (lv_fixed w).mono ?_
  rintro e w1 ⟨g, fc, rfl, p1, p2, r0, r1, H1⟩
  have HD : Hid (SE w1.drew (.slice (some ⟨g, 0, none⟩) 2 fc) lvF ∧ SI w1.drew (.slice (some ⟨w.heap.size + 1, 0, none⟩) 1 1) lvA ∧ SI w1.drew (.slice (some ⟨w.heap.size + 1 + 1, 0, none⟩) 1 1) lvT ∧ Below w.heap.size w w1.drew) := ⟨H1.out.1, H1.out.2.1, H1.out.2.2.1, ⟨H1.out.2.2.2.os, H1.out.2.2.2.tape, H1.out.2.2.2.output, H1.out.2.2.2.size, H1.out.2.2.2.block⟩⟩
  go_wp2_with fail
  refine wp_region_held_drew (S := fun w' => w'.cell? ⟨g, 1, none⟩ = some (.string ⟨#[110, 97, 109, 101]⟩) ∧ w'.cell? ⟨g, 2, none⟩ = some (.string ⟨#[97, 110, 110]⟩) ∧ w'.cell? ⟨w.heap.size + 1, 0, none⟩ = some (.string ⟨#[110, 97, 109, 101]⟩) ∧ w'.cell? ⟨w.heap.size + 1, 1, none⟩ = some (.string ⟨#[97, 110, 110]⟩)) (by kernel_rfl) ?_ (fun hHeld => ?_)
  · exact ⟨p1, p2, r0, r1⟩
  refine wpAnyH_take (i := 0) (oi := { dst := some 24, op := Op.move (Operand.tmp 5), type := 28, pos := "law.go:39", after := #[], guard := none }) (v := ?_) rfl (by kernel_rfl) (by kernel_rfl) (by kernel_rfl) (fun _ _ _ h => h) (Or.inl ⟨by rfl, ?_⟩) (by assumption) ?_
  rotate_left
  · (intro w hSw; (try dsimp only at hSw); go_simp) <;> with_reducible rfl
  try simp only [Act.put, List.setIfInBounds_toArray, List.set_cons_zero, List.set_cons_succ]
  refine wpAnyH_take (i := 1) (oi := { dst := some 25, op := Op.binOp BinOp.neq 28 (Operand.tmp 24) (Operand.const (Value.int IntKind.i64 0)) 28, type := 4, pos := "law.go:39", after := #[{ on := 0, ground := Ground.data }], guard := none }) (v := ?_) rfl (by kernel_rfl) (by kernel_rfl) (by kernel_rfl) (fun _ _ _ h => h) (Or.inl ⟨by rfl, ?_⟩) (by assumption) ?_
  rotate_left
  · (intro w hSw; (try dsimp only at hSw); go_simp) <;> with_reducible rfl
  try simp only [Act.put, List.setIfInBounds_toArray, List.set_cons_zero, List.set_cons_succ]
  refine wpAnyH_take (i := 2) (oi := { dst := some 26, op := Op.move (Operand.tmp 25), type := 4, pos := "law.go:39", after := #[{ on := 1, ground := Ground.data }], guard := none }) (v := ?_) rfl (by kernel_rfl) (by kernel_rfl) (by kernel_rfl) (fun _ _ _ h => h) (Or.inl ⟨by rfl, ?_⟩) (by assumption) ?_
  rotate_left
  · (intro w hSw; (try dsimp only at hSw); go_simp) <;> with_reducible rfl
  try simp only [Act.put, List.setIfInBounds_toArray, List.set_cons_zero, List.set_cons_succ]
  refine wpAnyH_take (i := 3) (oi := { dst := some 27, op := Op.move (Operand.tmp 4), type := 22, pos := "law.go:39", after := #[{ on := 2, ground := Ground.guard }], guard := some (2, false) }) (v := ?_) rfl (by kernel_rfl) (by kernel_rfl) (by kernel_rfl) (fun _ _ _ h => h) (Or.inl ⟨by rfl, ?_⟩) (by assumption) ?_
  rotate_left
  · (intro w hSw; (try dsimp only at hSw); go_simp) <;> with_reducible rfl
  try simp only [Act.put, List.setIfInBounds_toArray, List.set_cons_zero, List.set_cons_succ]
  refine wpAnyH_take (i := 4) (oi := { dst := some 28, op := Op.call { callee := Callee.builtin Builtin.len, args := #[Operand.tmp 27], argTypes := #[22] }, type := 3, pos := "law.go:39", after := #[{ on := 3, ground := Ground.data }, { on := 2, ground := Ground.guard }], guard := some (2, false) }) (v := ?_) rfl (by kernel_rfl) (by kernel_rfl) (by kernel_rfl) (fun _ _ _ h => h) (Or.inl ⟨by rfl, ?_⟩) (by assumption) ?_
  rotate_left
  · (intro w hSw; (try dsimp only at hSw); go_simp) <;> with_reducible rfl
  try simp only [Act.put, List.setIfInBounds_toArray, List.set_cons_zero, List.set_cons_succ]
  refine wpAnyH_take (i := 5) (oi := { dst := some 29, op := Op.binOp BinOp.neq 3 (Operand.tmp 28) (Operand.const (Value.int IntKind.i64 2)) 3, type := 4, pos := "law.go:39", after := #[{ on := 4, ground := Ground.data }, { on := 2, ground := Ground.guard }], guard := some (2, false) }) (v := ?_) rfl (by kernel_rfl) (by kernel_rfl) (by kernel_rfl) (fun _ _ _ h => h) (Or.inl ⟨by rfl, ?_⟩) (by assumption) ?_
  rotate_left
  · (intro w hSw; (try dsimp only at hSw); go_simp) <;> with_reducible rfl
  try simp only [Act.put, List.setIfInBounds_toArray, List.set_cons_zero, List.set_cons_succ]
  refine wpAnyH_take (i := 6) (oi := { dst := some 30, op := Op.pick (Operand.tmp 26) (Operand.const (Value.bool true)) (Operand.tmp 29), type := 4, pos := "law.go:39", after := #[{ on := 2, ground := Ground.data }, { on := 5, ground := Ground.data }], guard := none }) (v := ?_) rfl (by kernel_rfl) (by kernel_rfl) (by kernel_rfl) (fun _ _ _ h => h) (Or.inl ⟨by rfl, ?_⟩) (by assumption) ?_
  rotate_left
  · (intro w hSw; (try dsimp only at hSw); go_simp) <;> with_reducible rfl
  try simp only [Act.put, List.setIfInBounds_toArray, List.set_cons_zero, List.set_cons_succ]
  refine wpAnyH_take (i := 7) (oi := { dst := some 31, op := Op.move (Operand.tmp 30), type := 4, pos := "law.go:39", after := #[{ on := 6, ground := Ground.data }, { on := 2, ground := Ground.chain }], guard := none }) (v := ?_) rfl (by kernel_rfl) (by kernel_rfl) (by kernel_rfl) (fun _ _ _ h => h) (Or.inl ⟨by rfl, ?_⟩) (by assumption) ?_
  rotate_left
  · (intro w hSw; (try dsimp only at hSw); go_simp) <;> with_reducible rfl
  try simp only [Act.put, List.setIfInBounds_toArray, List.set_cons_zero, List.set_cons_succ]
  refine wpAnyH_take (i := 8) (oi := { dst := some 32, op := Op.move (Operand.tmp 4), type := 22, pos := "law.go:39", after := #[{ on := 7, ground := Ground.guard }], guard := some (7, false) }) (v := ?_) rfl (by kernel_rfl) (by kernel_rfl) (by kernel_rfl) (fun _ _ _ h => h) (Or.inl ⟨by rfl, ?_⟩) (by assumption) ?_
  rotate_left
  · (intro w hSw; (try dsimp only at hSw); go_simp) <;> with_reducible rfl
  try simp only [Act.put, List.setIfInBounds_toArray, List.set_cons_zero, List.set_cons_succ]
  refine wpAnyH_take (i := 9) (oi := { dst := some 33, op := Op.indexAddr 22 (Operand.tmp 32) (Operand.const (Value.int IntKind.i64 0)), type := 0, pos := "law.go:39", after := #[{ on := 8, ground := Ground.data }, { on := 7, ground := Ground.guard }], guard := some (7, false) }) (v := ?_) rfl (by kernel_rfl) (by kernel_rfl) (by kernel_rfl) (fun _ _ _ h => h) (Or.inl ⟨by rfl, ?_⟩) (by assumption) ?_
  rotate_left
  · (intro w hSw; (try dsimp only at hSw); go_simp) <;> with_reducible rfl
  try simp only [Act.put, List.setIfInBounds_toArray, List.set_cons_zero, List.set_cons_succ]
  refine wpAnyH_take (i := 10) (oi := { dst := some 34, op := Op.fieldAddr 39 (Operand.tmp 33) 1, type := 0, pos := "law.go:39", after := #[{ on := 9, ground := Ground.data }, { on := 7, ground := Ground.guard }], guard := some (7, false) }) (v := ?_) rfl (by kernel_rfl) (by kernel_rfl) (by kernel_rfl) (fun _ _ _ h => h) (Or.inl ⟨by rfl, ?_⟩) (by assumption) ?_
  rotate_left
  · (intro w hSw; (try dsimp only at hSw); go_simp) <;> with_reducible rfl
  try simp only [Act.put, List.setIfInBounds_toArray, List.set_cons_zero, List.set_cons_succ]
  refine wpAnyH_take (i := 11) (oi := { dst := some 35, op := Op.load 37 (Operand.tmp 34), type := 37, pos := "law.go:39", after := #[{ on := 10, ground := Ground.data }, { on := 7, ground := Ground.guard }], guard := some (7, false) }) (v := ?_) rfl (by kernel_rfl) (by kernel_rfl) (by kernel_rfl) (fun _ _ _ h => h) (Or.inl ⟨by rfl, ?_⟩) (by assumption) ?_
  rotate_left
  · (intro w hSw; (try dsimp only at hSw); go_simp) <;> with_reducible rfl
  try simp only [Act.put, List.setIfInBounds_toArray, List.set_cons_zero, List.set_cons_succ]
  refine wpAnyH_take (i := 12) (oi := { dst := some 36, op := Op.move (Operand.tmp 2), type := 23, pos := "law.go:39", after := #[{ on := 7, ground := Ground.guard }], guard := some (7, false) }) (v := ?_) rfl (by kernel_rfl) (by kernel_rfl) (by kernel_rfl) (fun _ _ _ h => h) (Or.inl ⟨by rfl, ?_⟩) (by assumption) ?_
  rotate_left
  · (intro w hSw; (try dsimp only at hSw); go_simp) <;> with_reducible rfl
  try simp only [Act.put, List.setIfInBounds_toArray, List.set_cons_zero, List.set_cons_succ]
  refine wpAnyH_take (i := 13) (oi := { dst := some 37, op := Op.indexAddr 23 (Operand.tmp 36) (Operand.const (Value.int IntKind.i64 0)), type := 0, pos := "law.go:39", after := #[{ on := 12, ground := Ground.data }, { on := 7, ground := Ground.guard }], guard := some (7, false) }) (v := ?_) rfl (by kernel_rfl) (by kernel_rfl) (by kernel_rfl) (fun _ _ _ h => h) (Or.inl ⟨by rfl, ?_⟩) (by assumption) ?_
  rotate_left
  · (intro w hSw; (try dsimp only at hSw); go_simp) <;> with_reducible rfl
  try simp only [Act.put, List.setIfInBounds_toArray, List.set_cons_zero, List.set_cons_succ]
  refine wpAnyH_take (i := 14) (oi := { dst := some 38, op := Op.load 37 (Operand.tmp 37), type := 37, pos := "law.go:39", after := #[{ on := 13, ground := Ground.data }, { on := 7, ground := Ground.guard }], guard := some (7, false) }) (v := ?_) rfl (by kernel_rfl) (by kernel_rfl) (by kernel_rfl) (fun _ _ _ h => h) (Or.inl ⟨by rfl, ?_⟩) (by assumption) ?_
  rotate_left
  · (intro w hSw; (try dsimp only at hSw); go_simp) <;> with_reducible rfl
  try simp only [Act.put, List.setIfInBounds_toArray, List.set_cons_zero, List.set_cons_succ]
  refine wpAnyH_take (i := 15) (oi := { dst := some 39, op := Op.binOp BinOp.neq 37 (Operand.tmp 35) (Operand.tmp 38) 37, type := 4, pos := "law.go:39", after := #[{ on := 11, ground := Ground.data }, { on := 14, ground := Ground.data }, { on := 7, ground := Ground.guard }], guard := some (7, false) }) (v := ?_) rfl (by kernel_rfl) (by kernel_rfl) (by kernel_rfl) (fun _ _ _ h => h) (Or.inl ⟨by rfl, ?_⟩) (by assumption) ?_
  rotate_left
  · (intro w hSw; (try dsimp only at hSw); go_simp) <;> with_reducible rfl
  try simp only [Act.put, List.setIfInBounds_toArray, List.set_cons_zero, List.set_cons_succ]
  refine wpAnyH_take (i := 16) (oi := { dst := some 40, op := Op.pick (Operand.tmp 31) (Operand.const (Value.bool true)) (Operand.tmp 39), type := 4, pos := "law.go:39", after := #[{ on := 7, ground := Ground.data }, { on := 15, ground := Ground.data }], guard := none }) (v := ?_) rfl (by kernel_rfl) (by kernel_rfl) (by kernel_rfl) (fun _ _ _ h => h) (Or.inl ⟨by rfl, ?_⟩) (by assumption) ?_
  rotate_left
  · (intro w hSw; (try dsimp only at hSw); go_simp) <;> with_reducible rfl
  try simp only [Act.put, List.setIfInBounds_toArray, List.set_cons_zero, List.set_cons_succ]
  refine wpAnyH_done (by kernel_rfl) ?_ _
  go_wp2_with fail
  refine (lv_allows w w1.drew _ _ _ HD.out 31 lvA _ true (.inl ⟨rfl, rfl⟩) lv_a).mono ?_
  rintro e w2 ⟨rfl, H2⟩
  clear H1 HD p1 p2 r0 r1 hHeld
  go_wp2_with fail
  refine (lv_allows w w2 _ _ _ H2.out 1 lvT _ true (.inr ⟨rfl, rfl⟩) lv_b).mono ?_
  rintro e w3 ⟨rfl, H3⟩
  clear H2
  go_wp2_with fail
  refine (lv_allows w w3 _ _ _ H3.out 2 lvT _ false (.inr ⟨rfl, rfl⟩) lv_c).mono ?_
  rintro e w4 ⟨rfl, H4⟩
  clear H3
  go_wp2
  all_goals (go_ret; exact ⟨rfl, H4.out.2.2.2⟩)

end Go.Proofs.YtgoiefhhbgollaaGreatDoor

/- What the document's Meets answers where not both ids are ips: the program's metD. -/
namespace Go.Proofs.YtgoiefhhbgollaaGreatDoor
open Go.RowKit Go.Shelf
set_option maxRecDepth 8000

theorem rng_some (l : Bs) : (rngD l).isSome = (rngR l).isSome := by
  cases h : rngD l with
  | some x =>
    obtain ⟨ns, n⟩ := x
    rw [((rngD_rngR l).1 ns n h).1]
    rfl
  | none =>
    cases h2 : rngR l with
    | none => rfl
    | some y =>
      obtain ⟨a, n⟩ := y
      obtain ⟨ns, e, _⟩ := (rngD_rngR l).2 a n h2
      rw [h] at e
      cases e

theorem adr_some (l : Bs) : (adD l).isSome = adrB l := by
  unfold adrB
  cases h : adD l with
  | some ns =>
    obtain ⟨a, b, c, d, _, _, _, _, _, e⟩ := (adD_adr l).1 ns h
    rw [e]
    simp
  | none =>
    cases h2 : adr l 4 with
    | none => rfl
    | some y =>
      obtain ⟨a, p⟩ := y
      by_cases hp : p = l.length
      · subst hp
        obtain ⟨ns, e, _⟩ := (adD_adr l).2 a h2
        rw [h] at e
        cases e
      · simp [hp]

theorem enD_enR (sc nm : Bs) : enR sc nm = enD sc nm := by unfold enD enR; rw [rng_some]
theorem clD_clR (sc nm : Bs) : clR sc nm = clD sc nm := by unfold clD clR; rw [adr_some]

/-- Two ids held in two blocks behind a world. -/
def RefM (w : World) (es en ws wn : ByteArray) (V : World) : Prop := V.cell? ⟨w.heap.size, 0, none⟩ = some (.string es) ∧ V.cell? ⟨w.heap.size, 1, none⟩ = some (.string en) ∧ V.cell? ⟨w.heap.size + 1, 0, none⟩ = some (.string ws) ∧ V.cell? ⟨w.heap.size + 1, 1, none⟩ = some (.string wn) ∧ Below w.heap.size w V

theorem RefM.below {w : World} {es en ws wn : ByteArray} {V V' : World} (h : RefM w es en ws wn V) (hB : Below V.heap.size V V') : RefM w es en ws wn V' :=
  ⟨cell_below hB h.1, cell_below hB h.2.1, cell_below hB h.2.2.1, cell_below hB h.2.2.2.1, h.2.2.2.2.trans (hB.mono h.2.2.2.2.size)⟩

theorem RefM_new (w : World) (es en ws wn : ByteArray) : RefM w es en ws wn ((w.alloc (.cells #[.string es, .string en] 37)).alloc (.cells #[.string ws, .string wn] 37)) := by
  have h1 : ((w.alloc (.cells #[.string es, .string en] 37)).alloc (.cells #[.string ws, .string wn] 37)).heap[w.heap.size]? = some (.cells #[.string es, .string en] 37 (0, 0)) := by
    rw [Below.heap_alloc _ _ _ (by simp)]
    exact heap_alloc_new _ _
  have h2 : ((w.alloc (.cells #[.string es, .string en] 37)).alloc (.cells #[.string ws, .string wn] 37)).heap[w.heap.size + 1]? = some (.cells #[.string ws, .string wn] 37 (0, 0)) := alloc_newq (by simp)
  exact ⟨cell_of_row _ _ 0 _ _ _ h1, cell_of_row _ _ 1 _ _ _ h1, cell_of_row _ _ 0 _ _ _ h2, cell_of_row _ _ 1 _ _ _ h2, ((Below.refl _ _).alloc (Nat.le_refl _) _).alloc (by simp) _⟩

end Go.Proofs.YtgoiefhhbgollaaGreatDoor
