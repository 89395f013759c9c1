/- txn.cloneRequest: every request, the same in blocks of its own. -/
import Derived.Test.YtoeialngbbfoeaaGreatDoorClBJ
import Derived.Deep.CutRange
import Derived.Deep.MidRow
namespace Go.Proofs.YtoeialngbbfoeaaGreatDoor
open Go.RowKit
set_option maxRecDepth 8000
set_option linter.unusedSimpArgs false

/-- A step that made new memory and set a cell of the box. -/
theorem cl_kept {w W W1 : World} (b : Below W.heap.size W W1) (i : Nat) (x : Value) : Kept W (W1.setCell ⟨w.heap.size, i, none⟩ x) (fun k => k = w.heap.size) :=
  (Below.kept b).transC (Kept.setCell (Kept.refl W1 (fun k => k = w.heap.size)) ⟨w.heap.size, i, none⟩ x (fun _ => rfl)) (fun k hk e => by omega) (fun _ _ e => e)

theorem en_one (acl : List EnD) : (∀ c ∈ acl.map EnD.cells, c.length = 3) ∧ ∀ c ∈ acl.map EnD.cells, ∀ u ∈ c, u.oneCell' = true := by
  refine ⟨fun c hc => ?_, fun c hc u hu => ?_⟩
  · obtain ⟨x, _, rfl⟩ := List.mem_map.1 hc; rfl
  · obtain ⟨x, _, rfl⟩ := List.mem_map.1 hc
    simp only [EnD.cells, List.mem_cons, List.not_mem_nil, or_false] at hu
    rcases hu with rfl | rfl | rfl <;> rfl
theorem id_one (who : List IdD) : (∀ c ∈ who.map IdD.cells, c.length = 2) ∧ ∀ c ∈ who.map IdD.cells, ∀ u ∈ c, u.oneCell' = true := by
  refine ⟨fun c hc => ?_, fun c hc u hu => ?_⟩
  · obtain ⟨x, _, rfl⟩ := List.mem_map.1 hc; rfl
  · obtain ⟨x, _, rfl⟩ := List.mem_map.1 hc
    simp only [IdD.cells, List.mem_cons, List.not_mem_nil, or_false] at hu
    rcases hu with rfl | rfl <;> rfl
theorem rq_one {w : World} {n : Nat} {ops : Fin n → Rq} {oc : Fin n → List Value} (h : ∀ i, SeesRq w (oc i) (ops i)) : (∀ c ∈ List.ofFn oc, c.length = 11) ∧ ∀ c ∈ List.ofFn oc, ∀ u ∈ c, u.oneCell' = true := by
  refine ⟨fun c hc => ?_, fun c hc u hu => ?_⟩
  · obtain ⟨i, rfl⟩ := List.mem_ofFn.1 hc; exact (h i).len
  · obtain ⟨i, rfl⟩ := List.mem_ofFn.1 hc
    obtain ⟨k, s, da, dl, dc, aa, al, ac, v, e, q, z, t, wa, wl, wc, oa, ol, ob, e1⟩ := rq_forms (h i)
    rw [e1] at hu
    simp only [List.mem_cons, List.not_mem_nil, or_false] at hu
    rcases hu with rfl | rfl | rfl | rfl | rfl | rfl | rfl | rfl | rfl | rfl | rfl <;> rfl

theorem clFlat_nth (z : Nat) : ∀ (cs : List (List Value)), (∀ c ∈ cs, c.length = z) → ∀ (i j : Nat) (hi : i < cs.length), j < z → cs.flatten[i * z + j]? = some (cs[i].getD j (.bool false))
  | [], _, i, j, hi, _ => by simp at hi
  | c :: cs, hz, 0, j, _, hj => by
    have hc := hz c (by simp)
    rw [List.flatten_cons, Nat.zero_mul, Nat.zero_add, List.getElem?_append_left (by omega), List.getElem?_eq_getElem (by omega)]
    simp [List.getD_eq_getElem?_getD, hc, hj]
  | c :: cs, hz, i + 1, j, hi, hj => by
    have hc := hz c (by simp)
    have e : (i + 1) * z + j - c.length = i * z + j := by rw [Nat.add_mul, Nat.one_mul, hc]; omega
    rw [List.flatten_cons, List.getElem?_append_right (by rw [Nat.add_mul, Nat.one_mul, hc]; omega), e]
    exact clFlat_nth z cs (fun c hc => hz c (by simp [hc])) i j (by simpa using hi) hj

/-- The cells that a round reads. -/
abbrev ClM (w : World) (g n o2 b : Nat) (X0 X1 X2 X3 X4 X5 X6 X7 X8 X9 X10 : Value) (w' : World) : Prop := w'.cell? ⟨b, 0, none⟩ = some X0 ∧ w'.cell? ⟨b, 1, none⟩ = some X1 ∧ w'.cell? ⟨b, 2, none⟩ = some X2 ∧ w'.cell? ⟨b, 3, none⟩ = some X3 ∧ w'.cell? ⟨b, 4, none⟩ = some X4 ∧ w'.cell? ⟨b, 5, none⟩ = some X5 ∧ w'.cell? ⟨b, 6, none⟩ = some X6 ∧ w'.cell? ⟨b, 7, none⟩ = some X7 ∧ w'.cell? ⟨b, 8, none⟩ = some X8 ∧ w'.cell? ⟨b, 9, none⟩ = some X9 ∧ w'.cell? ⟨b, 10, none⟩ = some X10 ∧ w'.cell? ⟨w.heap.size, 10, none⟩ = some (.slice (some ⟨g, 0, none⟩) n o2)

theorem clM_of {w W : World} {g n o2 b : Nat} {X0 X1 X2 X3 X4 X5 X6 X7 X8 X9 X10 : Value} {Z0 Z1 Z2 Z3 Z4 Z5 Z6 Z7 Z8 Z9 : Value} (h : W.heap[b]? = some (.cells #[X0, X1, X2, X3, X4, X5, X6, X7, X8, X9, X10] 33 (0, 0))) (h2 : W.heap[w.heap.size]? = some (.cells [Z0, Z1, Z2, Z3, Z4, Z5, Z6, Z7, Z8, Z9, .slice (some ⟨g, 0, none⟩) n o2].toArray 33 (0, 0))) : ClM w g n o2 b X0 X1 X2 X3 X4 X5 X6 X7 X8 X9 X10 W :=
  ⟨by rw [cell_of_row _ _ _ _ _ _ h]; rfl, by rw [cell_of_row _ _ _ _ _ _ h]; rfl, by rw [cell_of_row _ _ _ _ _ _ h]; rfl, by rw [cell_of_row _ _ _ _ _ _ h]; rfl, by rw [cell_of_row _ _ _ _ _ _ h]; rfl, by rw [cell_of_row _ _ _ _ _ _ h]; rfl, by rw [cell_of_row _ _ _ _ _ _ h]; rfl, by rw [cell_of_row _ _ _ _ _ _ h]; rfl, by rw [cell_of_row _ _ _ _ _ _ h]; rfl, by rw [cell_of_row _ _ _ _ _ _ h]; rfl, by rw [cell_of_row _ _ _ _ _ _ h]; rfl, by rw [cell_of_row _ _ _ _ _ _ h2]; rfl⟩

end Go.Proofs.YtoeialngbbfoeaaGreatDoor
