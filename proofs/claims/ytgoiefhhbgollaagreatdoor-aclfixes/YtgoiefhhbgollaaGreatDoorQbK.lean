/- What acl's isOfEntry and isOfClient answer for ip. -/
import Derived.Test.YtgoiefhhbgollaaGreatDoorQbJ
namespace Go.Proofs.YtgoiefhhbgollaaGreatDoor
open Go.RowKit Go.Shelf
set_option maxRecDepth 8000

/-- An id in memory; what lay below lies as it lay. -/
def PId (nm : ByteArray) (w V : World) : Prop := V.heap[w.heap.size]? = some (.cells #[.string ipB, .string nm] 37 (0, 0)) ∧ Below w.heap.size w V

theorem PId.below {nm : ByteArray} {w V V' : World} (h : PId nm w V) (hB : Below V.heap.size V V') : PId nm w V' :=
  ⟨(hB.block _ (lt_of_block h.1)).trans h.1, h.2.trans (hB.mono h.2.size)⟩

theorem field_at (c : Nat) (W : World) : (Instr.field 187 (.agg #[.string ipB, fnV 111, fnV 112, fn2 125 (c + 1)]) 1).run Tryz.prog W = .ok (fnV 111) W ∧ (Instr.field 187 (.agg #[.string ipB, fnV 111, fnV 112, fn2 125 (c + 1)]) 2).run Tryz.prog W = .ok (fnV 112) W ∧ (Instr.field 187 (.agg #[.string ipB, fnV 111, fnV 112, fn2 125 (c + 1)]) 3).run Tryz.prog W = .ok (fn2 125 (c + 1)) W :=
  ⟨by kernel_rfl, by kernel_rfl, by kernel_rfl⟩

set_option maxHeartbeats 1000000 in
theorem isOfEntry_ip (nm : ByteArray) (hs : nm.size ≤ 4294967296) (w : World) : Calls Tryz.prog 93 #[.agg #[.string ipB, .string nm]] w fun e w' => e = .returned (.bool (rngD nm.data.toList).isSome) ∧ Below w.heap.size w w' := by
  obtain ⟨b, hb⟩ : ∃ b, b = (rngD nm.data.toList).isSome := ⟨_, rfl⟩
  have HR : Hid (∀ V, Hid (PId nm w V) → Calls Tryz.prog 112 #[.string nm] V fun e w' => e = .returned (.bool b) ∧ Hid (PId nm w w')) := fun V hV => by
    rw [hb]
    exact (isRange_any nm hs V).mono (fun e w' h => ⟨h.1, hV.out.below h.2⟩)
  rw [← hb]
  clear hb
  have HS : Hid (∀ V, Hid (PId nm w V) → Calls Tryz.prog 95 #[.agg #[.string ipB, .string nm]] V fun e w' => ∃ c, e = .returned (.agg #[.string ipB, fnV 111, fnV 112, fn2 125 (c + 1)]) ∧ Hid (PId nm w w') ∧ w'.cell? ⟨w.heap.size, 1, none⟩ = some (.string nm)) := fun V hV =>
    (schemeOf_ip nm V).mono (fun e w' ⟨c, h1, h2, _⟩ => ⟨c, h1, hV.out.below h2, cell_of_row w' w.heap.size 1 _ _ _ (hV.out.below h2).1⟩)
  have hP : PId nm w (w.alloc (.cells #[.string ipB, .string nm] 37)) := ⟨heap_alloc_new w _, (Below.refl _ w).alloc (Nat.le_refl _) _⟩
  have HW : Hid (PId nm w (w.alloc (.cells #[.string ipB, .string nm] 37)).drew) := hP.below ⟨rfl, rfl, rfl, Nat.le_refl _, fun _ _ => rfl⟩
  have hfd := fun c W => (field_at c W).2.1
  clear hP
  go_enter Tryz.func93, Tryz.ntmps93
  go_wp2_with fail
  go_region_with (first | (go_at_call 95; refine (HS.out _ HW).mono ?_; rintro e w3 ⟨c, rfl, hS, j1⟩) | (go_at_call 112; refine (HR.out _ hS).mono ?_; rintro e w4 ⟨rfl, hS4⟩))
  all_goals go_wp2
  all_goals (go_ret; exact ⟨rfl, hS4.out.2⟩)

set_option maxHeartbeats 1000000 in
theorem isOfClient_ip (nm : ByteArray) (hs : nm.size ≤ 4294967296) (w : World) : Calls Tryz.prog 60 #[.agg #[.string ipB, .string nm]] w fun e w' => e = .returned (.bool (adD nm.data.toList).isSome) ∧ Below w.heap.size w w' := by
  obtain ⟨b, hb⟩ : ∃ b, b = (adD nm.data.toList).isSome := ⟨_, rfl⟩
  have HR : Hid (∀ V, Hid (PId nm w V) → Calls Tryz.prog 111 #[.string nm] V fun e w' => e = .returned (.bool b) ∧ Hid (PId nm w w')) := fun V hV => by
    rw [hb]
    exact (isAddress_any nm hs V).mono (fun e w' h => ⟨h.1, hV.out.below h.2⟩)
  rw [← hb]
  clear hb
  have HS : Hid (∀ V, Hid (PId nm w V) → Calls Tryz.prog 95 #[.agg #[.string ipB, .string nm]] V fun e w' => ∃ c, e = .returned (.agg #[.string ipB, fnV 111, fnV 112, fn2 125 (c + 1)]) ∧ Hid (PId nm w w') ∧ w'.cell? ⟨w.heap.size, 1, none⟩ = some (.string nm)) := fun V hV =>
    (schemeOf_ip nm V).mono (fun e w' ⟨c, h1, h2, _⟩ => ⟨c, h1, hV.out.below h2, cell_of_row w' w.heap.size 1 _ _ _ (hV.out.below h2).1⟩)
  have hP : PId nm w (w.alloc (.cells #[.string ipB, .string nm] 37)) := ⟨heap_alloc_new w _, (Below.refl _ w).alloc (Nat.le_refl _) _⟩
  have HW : Hid (PId nm w (w.alloc (.cells #[.string ipB, .string nm] 37)).drew) := hP.below ⟨rfl, rfl, rfl, Nat.le_refl _, fun _ _ => rfl⟩
  have hfd := fun c W => (field_at c W).1
  clear hP
  go_enter Tryz.func60, Tryz.ntmps60
  go_wp2_with fail
  go_region_with (first | (go_at_call 95; refine (HS.out _ HW).mono ?_; rintro e w3 ⟨c, rfl, hS, j1⟩) | (go_at_call 111; refine (HR.out _ hS).mono ?_; rintro e w4 ⟨rfl, hS4⟩))
  all_goals go_wp2
  all_goals (go_ret; exact ⟨rfl, hS4.out.2⟩)

end Go.Proofs.YtgoiefhhbgollaaGreatDoor
