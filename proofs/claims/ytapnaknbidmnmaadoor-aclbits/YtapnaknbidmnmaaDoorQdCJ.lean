/- What AclBits has in memory: the case, an entry and an id; what long lets through. -/
import Derived.Test.YtapnaknbidmnmaaDoorQdAJ
import Derived.Test.YtapnaknbidmnmaaDoorQdDJ
import Derived.Test.YtapnaknbidmnmaaDoorQcNJ
namespace Go.Proofs.YtapnaknbidmnmaaDoor
open Go.RowKit Go.Shelf
set_option maxRecDepth 8000

/-- What the law has in memory ahead of all calls: the case, the entry and the id. -/
def BI (w : World) (m : EnT) (o : IdT) (V : World) : Prop := V.cell? ⟨w.heap.size + 1, 0, none⟩ = some (.int .i8 m.1) ∧ V.cell? ⟨w.heap.size + 1, 1, none⟩ = some (.string m.2.1) ∧ V.cell? ⟨w.heap.size + 1, 2, none⟩ = some (.string m.2.2) ∧ V.cell? ⟨w.heap.size + 1 + 1, 0, none⟩ = some (.string o.1) ∧ V.cell? ⟨w.heap.size + 1 + 1, 1, none⟩ = some (.string o.2) ∧ Below w.heap.size w V

theorem BI.below {w V V' : World} {m : EnT} {o : IdT} (h : BI w m o V) (hB : Below V.heap.size V V') : BI w m o V' :=
  ⟨cell_below hB h.1, cell_below hB h.2.1, cell_below hB h.2.2.1, cell_below hB h.2.2.2.1, cell_below hB h.2.2.2.2.1, h.2.2.2.2.2.trans (hB.mono h.2.2.2.2.2.size)⟩

/-- The three blocks. -/
abbrev biW (w : World) (cs : Array Value) (m : EnT) (o : IdT) : World := ((w.alloc (.cells cs 30)).alloc (.cells (enCs m) 28)).alloc (.cells (idCs o) 26)

theorem biW_new (w : World) (cs : Array Value) (m : EnT) (o : IdT) : BI w m o (biW w cs m o) := by
  have h1 : (biW w cs m o).heap[w.heap.size + 1]? = some (.cells (enCs m) 28 (0, 0)) := by
    rw [biW, Below.heap_alloc _ _ _ (by simp)]
    exact alloc_newq (by simp)
  have h2 : (biW w cs m o).heap[w.heap.size + 1 + 1]? = some (.cells (idCs o) 26 (0, 0)) := alloc_newq (by simp)
  exact ⟨cell_of_row _ _ 0 _ _ _ h1, cell_of_row _ _ 1 _ _ _ h1, cell_of_row _ _ 2 _ _ _ h1, cell_of_row _ _ 0 _ _ _ h2, cell_of_row _ _ 1 _ _ _ h2, (((Below.refl _ _).alloc (Nat.le_refl _) _).alloc (by simp) _).alloc (by simp; omega) _⟩

/-- What long lets through: sizes. -/
def Bnd (l : List EnT) (mk who : List IdT) (m : EnT) (o : IdT) : Prop := (∀ x ∈ l, x.2.2.size ≤ 4294967296) ∧ (∀ x ∈ mk, x.2.size ≤ 4294967296) ∧ (∀ x ∈ who, x.2.size ≤ 4294967296) ∧ m.2.2.size ≤ 4294967296 ∧ o.2.size ≤ 4294967296 ∧ who.length ≤ 1073741823

theorem bnd_of {l : List EnT} {mk who : List IdT} {m : EnT} {o : IdT} (h1 : bulkE l + bulkI who ≤ 1073741823) (h2 : bulkE [m] + bulkI mk ≤ 1073741823) (h3 : bulkI [o] ≤ 1073741823) : Bnd l mk who m o := by
  refine ⟨fun x hx => ?_, fun x hx => ?_, fun x hx => ?_, ?_, ?_, ?_⟩
  · have := bulkI_mem (List.mem_map_of_mem (f := Prod.snd) hx)
    unfold bulkE at h1
    omega
  · have := bulkI_mem hx; omega
  · have := bulkI_mem hx; omega
  · simp [bulkE, bulkI] at h2; omega
  · simp [bulkI] at h3; omega
  · have := bulkI_len who; omega

theorem SE_one (w : World) (m : EnT) : SE (w.alloc (.cells (enCs m) 28)) (.slice (some ⟨w.heap.size, 0, none⟩) 1 1) [m] :=
  SE_row (l := [m]) (fr := (0, 0)) (t := 28) (heap_alloc_new _ _)
theorem SI_one (w : World) (o : IdT) : SI (w.alloc (.cells (idCs o) 26)) (.slice (some ⟨w.heap.size, 0, none⟩) 1 1) [o] :=
  SI_row (l := [o]) (fr := (0, 0)) (t := 26) (heap_alloc_new _ _)
theorem SI_nil6 (w : World) : SI w (.slice none 0 0) [] := ⟨none, 0, rfl, Nat.le_refl _, fun h => absurd rfl h⟩
theorem SE_nil6 (w : World) : SE w (.slice none 0 0) [] := ⟨none, 0, rfl, Nat.le_refl _, fun h => absurd rfl h⟩

end Go.Proofs.YtapnaknbidmnmaaDoor
