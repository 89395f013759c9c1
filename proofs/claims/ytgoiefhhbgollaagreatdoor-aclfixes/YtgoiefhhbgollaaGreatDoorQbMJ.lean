/- What acl's Meets answers for ip, where both ids may be. -/
import Derived.Test.YtgoiefhhbgollaaGreatDoorQbLJ
import Derived.Deep.RegionHeld
namespace Go.Proofs.YtgoiefhhbgollaaGreatDoor
open Go.RowKit Go.Shelf
set_option maxRecDepth 8000

/-- Two ids in memory. -/
def PM (en wn : ByteArray) (w V : World) : Prop := V.heap[w.heap.size]? = some (.cells #[.string ipB, .string en] 37 (0, 0)) ∧ V.heap[w.heap.size + 1]? = some (.cells #[.string ipB, .string wn] 37 (0, 0)) ∧ Below w.heap.size w V

theorem PM.below {en wn : ByteArray} {w V V' : World} (h : PM en wn w V) (hB : Below V.heap.size V V') : PM en wn w V' :=
  ⟨(hB.block _ (lt_of_block h.1)).trans h.1, (hB.block _ (lt_of_block h.2.1)).trans h.2.1, h.2.2.trans (hB.mono h.2.2.size)⟩

theorem PM.cells {en wn : ByteArray} {w V : World} (h : PM en wn w V) : V.cell? ⟨w.heap.size, 0, none⟩ = some (.string ipB) ∧ V.cell? ⟨w.heap.size, 1, none⟩ = some (.string en) ∧ V.cell? ⟨w.heap.size + 1, 0, none⟩ = some (.string ipB) ∧ V.cell? ⟨w.heap.size + 1, 1, none⟩ = some (.string wn) :=
  ⟨cell_of_row V w.heap.size 0 _ _ _ h.1, cell_of_row V w.heap.size 1 _ _ _ h.1, cell_of_row V (w.heap.size + 1) 0 _ _ _ h.2.1, cell_of_row V (w.heap.size + 1) 1 _ _ _ h.2.1⟩

set_option maxHeartbeats 4000000 in
theorem meets_ip_yes (en wn : ByteArray) (hs : en.size ≤ 4294967296) (ht : wn.size ≤ 4294967296) (he : (rngD en.data.toList).isSome = true) (hc : (adD wn.data.toList).isSome = true) (w : World) :
    Calls Tryz.prog 87 #[.agg #[.string ipB, .string en], .agg #[.string ipB, .string wn]] w fun e w' => e = .returned (.bool (witD en.data.toList wn.data.toList)) ∧ Below w.heap.size w w' := by
  obtain ⟨bm, hbm⟩ : ∃ b, b = witD en.data.toList wn.data.toList := ⟨_, rfl⟩
  have HE : Hid (∀ V, Hid (PM en wn w V) → Calls Tryz.prog 93 #[.agg #[.string ipB, .string en]] V fun e w' => e = .returned (.bool true) ∧ Hid (PM en wn w w') ∧ w'.cell? ⟨w.heap.size, 0, none⟩ = some (.string ipB) ∧ w'.cell? ⟨w.heap.size, 1, none⟩ = some (.string en) ∧ w'.cell? ⟨w.heap.size + 1, 0, none⟩ = some (.string ipB) ∧ w'.cell? ⟨w.heap.size + 1, 1, none⟩ = some (.string wn)) := fun V hV => by
    rw [← he]
    exact (isOfEntry_ip en hs V).mono (fun e w' h => ⟨h.1, hV.out.below h.2, (hV.out.below h.2).cells⟩)
  have HC : Hid (∀ V, Hid (PM en wn w V) → Calls Tryz.prog 60 #[.agg #[.string ipB, .string wn]] V fun e w' => e = .returned (.bool true) ∧ Hid (PM en wn w w') ∧ w'.cell? ⟨w.heap.size, 0, none⟩ = some (.string ipB) ∧ w'.cell? ⟨w.heap.size, 1, none⟩ = some (.string en) ∧ w'.cell? ⟨w.heap.size + 1, 0, none⟩ = some (.string ipB) ∧ w'.cell? ⟨w.heap.size + 1, 1, none⟩ = some (.string wn)) := fun V hV => by
    rw [← hc]
    exact (isOfClient_ip wn ht V).mono (fun e w' h => ⟨h.1, hV.out.below h.2, (hV.out.below h.2).cells⟩)
  have HSo : Hid (∀ V, Hid (PM en wn w V) → Calls Tryz.prog 95 #[.agg #[.string ipB, .string en]] V fun e w' => ∃ c, e = .returned (.agg #[.string ipB, fnV 111, fnV 112, fn2 125 (c + 1)]) ∧ Hid (PM en wn w w' ∧ Cau c w' ∧ c + 6 ≤ w'.heap.size) ∧ w'.cell? ⟨w.heap.size, 0, none⟩ = some (.string ipB) ∧ w'.cell? ⟨w.heap.size, 1, none⟩ = some (.string en) ∧ w'.cell? ⟨w.heap.size + 1, 0, none⟩ = some (.string ipB) ∧ w'.cell? ⟨w.heap.size + 1, 1, none⟩ = some (.string wn)) := fun V hV =>
    (schemeOf_ip en V).mono (fun e w' ⟨c, h1, h2, h3, _, h5⟩ => ⟨c, h1, ⟨hV.out.below h2, h3, h5⟩, (hV.out.below h2).cells⟩)
  have HBy : Hid (∀ c V, Hid (PM en wn w V ∧ Cau c V ∧ c + 6 ≤ V.heap.size) → Calls Tryz.prog 125 #[.string en, .agg #[.string ipB, .string wn], .pointer (some ⟨c + 1, 0, none⟩), .pointer (some ⟨c + 1 + 1, 0, none⟩)] V fun e w' => e = .returned (.bool bm) ∧ Hid (PM en wn w w') ∧ w'.cell? ⟨w.heap.size, 0, none⟩ = some (.string ipB) ∧ w'.cell? ⟨w.heap.size, 1, none⟩ = some (.string en) ∧ w'.cell? ⟨w.heap.size + 1, 0, none⟩ = some (.string ipB) ∧ w'.cell? ⟨w.heap.size + 1, 1, none⟩ = some (.string wn)) := fun c V hV => by
    rw [hbm]
    exact (by1_ip en wn hs ht c V hV.out.2.1 hV.out.2.2).mono (fun e w' h => ⟨h.1, hV.out.1.below h.2, (hV.out.1.below h.2).cells⟩)
  rw [← hbm]
  clear he hc hbm hs ht
  have hP : PM en wn w ((w.alloc (.cells #[.string ipB, .string en] 37)).alloc (.cells #[.string ipB, .string wn] 37)) := ⟨by rw [Below.heap_alloc _ _ _ (by simp only [World.size_alloc]; omega)]; exact heap_alloc_new w _, alloc_newq (by simp only [World.size_alloc]), ((Below.refl _ w).alloc (Nat.le_refl _) _).alloc (by simp only [World.size_alloc]; omega) _⟩
  have hP2 : PM en wn w ((w.alloc (.cells #[.string ipB, .string en] 37)).alloc (.cells #[.string ipB, .string wn] 37)).drew := hP.below ⟨rfl, rfl, rfl, Nat.le_refl _, fun _ _ => rfl⟩
  obtain ⟨k0, k1, k2, k3⟩ := hP.cells
  have HW : Hid (PM en wn w ((w.alloc (.cells #[.string ipB, .string en] 37)).alloc (.cells #[.string ipB, .string wn] 37)).drew) := hP2
  have hfd := fun c W => (field_at c W).2.2
  clear hP hP2
  go_enter Tryz.func87, Tryz.ntmps87
  go_wp2_with fail
  go_region_held (fun w' => w'.cell? ⟨w.heap.size, 0, none⟩ = some (.string ipB) ∧ w'.cell? ⟨w.heap.size, 1, none⟩ = some (.string en) ∧ w'.cell? ⟨w.heap.size + 1, 0, none⟩ = some (.string ipB) ∧ w'.cell? ⟨w.heap.size + 1, 1, none⟩ = some (.string wn)) (first | exact ⟨a0, a1, a2, a3⟩ | exact ⟨b0, b1, b2, b3⟩ | exact ⟨g0, g1, g2, g3⟩ | exact ⟨t0, t1, t2, t3⟩ | go_keep) (first | (go_at_call 93; refine (HE.out _ HW).mono ?_; rintro e w3 ⟨rfl, hS1, a0, a1, a2, a3⟩) | (go_at_call 60; refine (HC.out _ hS1).mono ?_; rintro e w4 ⟨rfl, hS2, b0, b1, b2, b3⟩) | (go_at_call 95; refine (HSo.out _ hS2).mono ?_; rintro e w5 ⟨c, rfl, hS3, g0, g1, g2, g3⟩) | (go_at_call 125; refine (HBy.out _ _ hS3).mono ?_; rintro e w6 ⟨rfl, hS4, t0, t1, t2, t3⟩))
  all_goals go_wp2
  all_goals (go_ret; exact ⟨rfl, hS4.out.2.2⟩)

end Go.Proofs.YtgoiefhhbgollaaGreatDoor
