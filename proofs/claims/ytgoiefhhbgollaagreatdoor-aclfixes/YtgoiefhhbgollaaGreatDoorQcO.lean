/- What the document's Meets answers where not both ids are ips: the program's metD. -/
import Derived.Test.YtgoiefhhbgollaaGreatDoorQcN
namespace Go.Proofs.YtgoiefhhbgollaaGreatDoor
open Go.RowKit Go.Shelf
set_option maxRecDepth 8000

theorem rng_some (l : Bs) : (rngD l).isSome = (rngR l).isSome := by
  cases h : rngD l with
  | some x =>
    obtain ⟨ns, n⟩ := x
    rw [((rngD_rngR l).1 ns n h).1]
    rfl
  | none =>
    cases h2 : rngR l with
    | none => rfl
    | some y =>
      obtain ⟨a, n⟩ := y
      obtain ⟨ns, e, _⟩ := (rngD_rngR l).2 a n h2
      rw [h] at e
      cases e

theorem adr_some (l : Bs) : (adD l).isSome = adrB l := by
  unfold adrB
  cases h : adD l with
  | some ns =>
    obtain ⟨a, b, c, d, _, _, _, _, _, e⟩ := (adD_adr l).1 ns h
    rw [e]
    simp
  | none =>
    cases h2 : adr l 4 with
    | none => rfl
    | some y =>
      obtain ⟨a, p⟩ := y
      by_cases hp : p = l.length
      · subst hp
        obtain ⟨ns, e, _⟩ := (adD_adr l).2 a h2
        rw [h] at e
        cases e
      · simp [hp]

theorem enD_enR (sc nm : Bs) : enR sc nm = enD sc nm := by unfold enD enR; rw [rng_some]
theorem clD_clR (sc nm : Bs) : clR sc nm = clD sc nm := by unfold clD clR; rw [adr_some]

/-- Two ids held in two blocks behind a world. -/
def RefM (w : World) (es en ws wn : ByteArray) (V : World) : Prop := V.cell? ⟨w.heap.size, 0, none⟩ = some (.string es) ∧ V.cell? ⟨w.heap.size, 1, none⟩ = some (.string en) ∧ V.cell? ⟨w.heap.size + 1, 0, none⟩ = some (.string ws) ∧ V.cell? ⟨w.heap.size + 1, 1, none⟩ = some (.string wn) ∧ Below w.heap.size w V

theorem RefM.below {w : World} {es en ws wn : ByteArray} {V V' : World} (h : RefM w es en ws wn V) (hB : Below V.heap.size V V') : RefM w es en ws wn V' :=
  ⟨cell_below hB h.1, cell_below hB h.2.1, cell_below hB h.2.2.1, cell_below hB h.2.2.2.1, h.2.2.2.2.trans (hB.mono h.2.2.2.2.size)⟩

theorem RefM_new (w : World) (es en ws wn : ByteArray) : RefM w es en ws wn ((w.alloc (.cells #[.string es, .string en] 37)).alloc (.cells #[.string ws, .string wn] 37)) := by
  have h1 : ((w.alloc (.cells #[.string es, .string en] 37)).alloc (.cells #[.string ws, .string wn] 37)).heap[w.heap.size]? = some (.cells #[.string es, .string en] 37 (0, 0)) := by
    rw [Below.heap_alloc _ _ _ (by simp)]
    exact heap_alloc_new _ _
  have h2 : ((w.alloc (.cells #[.string es, .string en] 37)).alloc (.cells #[.string ws, .string wn] 37)).heap[w.heap.size + 1]? = some (.cells #[.string ws, .string wn] 37 (0, 0)) := alloc_newq (by simp)
  exact ⟨cell_of_row _ _ 0 _ _ _ h1, cell_of_row _ _ 1 _ _ _ h1, cell_of_row _ _ 0 _ _ _ h2, cell_of_row _ _ 1 _ _ _ h2, ((Below.refl _ _).alloc (Nat.le_refl _) _).alloc (by simp) _⟩

end Go.Proofs.YtgoiefhhbgollaaGreatDoor
