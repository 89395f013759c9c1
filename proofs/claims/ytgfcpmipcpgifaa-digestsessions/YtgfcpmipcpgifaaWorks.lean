/- What the statements' own first look 'works' answers: true; nothing that was there before is changed. -/
import Derived.Test.YtgfcpmipcpgifaaReader
import Derived.Test.YtgfcpmipcpgifaaLeafSum
namespace Go.Proofs.Ytgfcpmipcpgifaa
open Go.RowKit
set_option maxRecDepth 8000

theorem byts_lit {xs : List Int} (h : xs.all (fun x => decide (0 ≤ x ∧ x ≤ 255)) = true) : Byts xs := fun x hx => by
  have := List.all_eq_true.1 h x hx
  simpa using this

theorem below_writer {B : Nat} {w w' : World} {g : Nat} {v : Value} (h : Kept w w' (fun k => k = g ∨ v.ownBlock = some k)) (hB : B ≤ w.heap.size) (hg : B ≤ g) (hv : ∀ k, v.ownBlock = some k → B ≤ k) : Below B w w' := by
  refine h.below hB (fun k hk => ?_)
  rcases hk with hk | hk
  · omega
  · exact hv k hk

theorem below_reader {B : Nat} {w w' : World} {g : Nat} (h : Kept w w' (· = g)) (hB : B ≤ w.heap.size) (hg : B ≤ g) : Below B w w' :=
  h.below hB (fun k hk => by omega)

theorem works_e1 : rdNum 4 [255, 255, 255, 254, 9] 0 = ⟨4294967294, [9], 0⟩ := by simp [rdNum, num]
theorem works_e2 : down32 4294967294 = -2 := by rw [down32_is _ (by omega) (by omega)]; simp
theorem works_e3 : adler [97, 98, 99] = 38600999 := by decide

end Go.Proofs.Ytgfcpmipcpgifaa