/- What the document's Point answers: the first code point at a place, or none. -/
import Derived.Test.YtgdbcdddcejehaaPaF
namespace Go.Proofs.Ytgdbcdddcejehaa
open Go.RowKit Go.Shelf
set_option maxRecDepth 8000

theorem bn_at (s : ByteArray) (p k : Nat) (h : p + k < s.size) : (s[p + k]'h).toNat = bn (s.data.toList.drop p) k := by
  unfold bn
  rw [byte_at, List.getD_eq_getElem?_getD, List.getD_eq_getElem?_getD, List.getElem?_drop]

def pointPost (L : Bs) (w : World) (e : Ending) (w' : World) : Prop :=
  (∃ c : Int, e = .returned (.tuple #[.int .i64 c, .int .i64 ((dec L).2 : Int)]) ∧ (c = ((dec L).1 : Int) ∨ (c = -1 ∧ (dec L).1 = 65533))) ∧ w' = w

theorem point_none {L : Bs} {w : World} (h : dec L = (65533, 1)) : pointPost L w (.returned (.tuple #[.int .i64 (-1), .int .i64 1])) w := by
  refine ⟨⟨-1, ?_, .inr ⟨rfl, by rw [h]⟩⟩, rfl⟩
  rw [h]; rfl

end Go.Proofs.Ytgdbcdddcejehaa
