/- What the function that acl.by makes for ip answers. -/
import Derived.Test.YtgoiefhhbgollaaGreatDoorQbK
namespace Go.Proofs.YtgoiefhhbgollaaGreatDoor
open Go.RowKit Go.Shelf
set_option maxRecDepth 8000

set_option maxHeartbeats 1000000 in
theorem by1_ip (nm wn : ByteArray) (hs : nm.size ≤ 4294967296) (ht : wn.size ≤ 4294967296) (c : Nat) (w : World) (hC : Cau c w) (hz : c + 6 ≤ w.heap.size) :
    Calls Tryz.prog 125 #[.string nm, .agg #[.string ipB, .string wn], .pointer (some ⟨c + 1, 0, none⟩), .pointer (some ⟨c + 2, 0, none⟩)] w fun e w' => e = .returned (.bool (witD nm.data.toList wn.data.toList)) ∧ Below w.heap.size w w' := by
  obtain ⟨b, hb⟩ : ∃ b, b = witD nm.data.toList wn.data.toList := ⟨_, rfl⟩
  have HW : Hid (∀ V, Calls Tryz.prog 114 #[.string nm, .string wn] V fun e w' => e = .returned (.bool b) ∧ Below V.heap.size V w') := fun V => by rw [hb]; exact isWithin_any nm wn hs ht V
  rw [← hb]
  clear hb
  have q0 : (w.alloc (.cells #[.string ipB, .string wn] 37)).heap[w.heap.size]? = some (.cells #[.string ipB, .string wn] 37 (0, 0)) := heap_alloc_new w _
  have q1 : (w.alloc (.cells #[.string ipB, .string wn] 37)).heap[c + 1]? = some (.cells #[.string ipB] 9 (0, 0)) := by rw [Below.heap_alloc _ _ _ (by omega)]; exact hC.2.1
  have q2 : (w.alloc (.cells #[.string ipB, .string wn] 37)).heap[c + 2]? = some (.cells #[fnV 114] 205 (0, 0)) := by rw [Below.heap_alloc _ _ _ (by omega)]; exact hC.2.2.1
  have c0 := cell_of_row _ w.heap.size 0 _ _ _ q0
  have c1 := cell_of_row _ w.heap.size 1 _ _ _ q0
  have c2 := cell_of_row _ (c + 1) 0 _ _ _ q1
  have c3 := cell_of_row _ (c + 2) 0 _ _ _ q2
  have d0 : (w.alloc (.cells #[.string ipB, .string wn] 37)).cell? ⟨w.heap.size, 0, none⟩ = some (.string ipB) := c0
  have d1 : (w.alloc (.cells #[.string ipB, .string wn] 37)).cell? ⟨w.heap.size, 1, none⟩ = some (.string wn) := c1
  have d2 : (w.alloc (.cells #[.string ipB, .string wn] 37)).cell? ⟨c + 1, 0, none⟩ = some (.string ipB) := c2
  have d3 : (w.alloc (.cells #[.string ipB, .string wn] 37)).cell? ⟨c + 2, 0, none⟩ = some (fnV 114) := c3
  have e2 : w.cell? ⟨c + 1, 0, none⟩ = some (.string ipB) := cell_of_row _ (c + 1) 0 _ _ _ hC.2.1
  have e3 : w.cell? ⟨c + 2, 0, none⟩ = some (fnV 114) := cell_of_row _ (c + 2) 0 _ _ _ hC.2.2.1
  have l1 : c + 1 < w.heap.size := by omega
  have l2 : c + 2 < w.heap.size := by omega
  have HB : Hid (Below w.heap.size w (w.alloc (.cells #[.string ipB, .string wn] 37))) := (Below.refl _ w).alloc (Nat.le_refl _) _
  have HL : Hid (w.heap.size ≤ (w.alloc (.cells #[.string ipB, .string wn] 37)).heap.size) := HB.out.size
  clear c0 c1 c2 c3 q0 q1 q2 hC
  go_enter Tryz.func125, Tryz.ntmps125
  go_wp2_with (go_at_call 114; refine (HW.out _).mono ?_; rintro e w4 ⟨rfl, hS4⟩)
  all_goals (go_ret; exact ⟨rfl, HB.out.trans (hS4.mono HL.out)⟩)

end Go.Proofs.YtgoiefhhbgollaaGreatDoor
