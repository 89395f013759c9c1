/- CopyTxn of lagoonref00: the same transaction, its request in blocks of its own. -/
import Derived.Test.YtgjjcmhlmdfccaaGreatDoorCopyRJ
namespace Go.Proofs.YtgjjcmhlmdfccaaGreatDoor
open Go.RowKit
set_option maxRecDepth 8000

/-- Eleven cells of a row of sixteen, stored over. -/
theorem stored5 {U : World} {b : Nat} {t : TypeId} {h0 h1 h2 h3 h4 d0 d1 d2 d3 d4 d5 d6 d7 d8 d9 d10 : Value} (c0 c1 c2 c3 c4 c5 c6 c7 c8 c9 c10 : Value) (hbox : U.heap[b]? = some (.cells #[h0, h1, h2, h3, h4, d0, d1, d2, d3, d4, d5, d6, d7, d8, d9, d10] t (0, 0))) :
    ((((((((((((U.setCell ⟨b, 5, none⟩ c0).setCell ⟨b, 6, none⟩ c1).setCell ⟨b, 7, none⟩ c2).setCell ⟨b, 8, none⟩ c3).setCell ⟨b, 9, none⟩ c4).setCell ⟨b, 10, none⟩ c5).setCell ⟨b, 11, none⟩ c6).setCell ⟨b, 12, none⟩ c7).setCell ⟨b, 13, none⟩ c8).setCell ⟨b, 14, none⟩ c9).setCell ⟨b, 15, none⟩ c10)).heap[b]? = some (.cells #[h0, h1, h2, h3, h4, c0, c1, c2, c3, c4, c5, c6, c7, c8, c9, c10] t (0, 0)) ∧ Kept U ((((((((((((U.setCell ⟨b, 5, none⟩ c0).setCell ⟨b, 6, none⟩ c1).setCell ⟨b, 7, none⟩ c2).setCell ⟨b, 8, none⟩ c3).setCell ⟨b, 9, none⟩ c4).setCell ⟨b, 10, none⟩ c5).setCell ⟨b, 11, none⟩ c6).setCell ⟨b, 12, none⟩ c7).setCell ⟨b, 13, none⟩ c8).setCell ⟨b, 14, none⟩ c9).setCell ⟨b, 15, none⟩ c10)) (fun k => k = b) := by
  refine ⟨?_, ?_⟩
  · have hrow := (heap_setR (i := 15) c10 (heap_setR (i := 14) c9 (heap_setR (i := 13) c8 (heap_setR (i := 12) c7 (heap_setR (i := 11) c6 (heap_setR (i := 10) c5 (heap_setR (i := 9) c4 (heap_setR (i := 8) c3 (heap_setR (i := 7) c2 (heap_setR (i := 6) c1 (heap_setR (i := 5) c0 hbox)))))))))))
    have e : (((((((((((#[h0, h1, h2, h3, h4, d0, d1, d2, d3, d4, d5, d6, d7, d8, d9, d10].setIfInBounds 5 c0).setIfInBounds 6 c1).setIfInBounds 7 c2).setIfInBounds 8 c3).setIfInBounds 9 c4).setIfInBounds 10 c5).setIfInBounds 11 c6).setIfInBounds 12 c7).setIfInBounds 13 c8).setIfInBounds 14 c9).setIfInBounds 15 c10) = #[h0, h1, h2, h3, h4, c0, c1, c2, c3, c4, c5, c6, c7, c8, c9, c10] := by simp
    rw [e] at hrow
    exact hrow
  · exact (Kept.setCell (Kept.setCell (Kept.setCell (Kept.setCell (Kept.setCell (Kept.setCell (Kept.setCell (Kept.setCell (Kept.setCell (Kept.setCell (Kept.setCell (Kept.refl U (fun k => k = b)) ⟨b, 5, none⟩ c0 (fun _ => rfl)) ⟨b, 6, none⟩ c1 (fun _ => rfl)) ⟨b, 7, none⟩ c2 (fun _ => rfl)) ⟨b, 8, none⟩ c3 (fun _ => rfl)) ⟨b, 9, none⟩ c4 (fun _ => rfl)) ⟨b, 10, none⟩ c5 (fun _ => rfl)) ⟨b, 11, none⟩ c6 (fun _ => rfl)) ⟨b, 12, none⟩ c7 (fun _ => rfl)) ⟨b, 13, none⟩ c8 (fun _ => rfl)) ⟨b, 14, none⟩ c9 (fun _ => rfl)) ⟨b, 15, none⟩ c10 (fun _ => rfl))

end Go.Proofs.YtgjjcmhlmdfccaaGreatDoor
