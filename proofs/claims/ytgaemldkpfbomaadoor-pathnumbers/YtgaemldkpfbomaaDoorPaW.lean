/- What path.Above and Below answer: the paths above a path. -/
import Derived.Test.YtgaemldkpfbomaaDoorPaX
namespace Go.Proofs.YtgaemldkpfbomaaDoor
open Go.RowKit Go.Shelf
set_option maxRecDepth 8000
attribute [local go_sem] Oper.semAt_some

/-- The paths above one. -/
def abv (l : Bs) : List Bs := if l = [47] ∨ isPb l = false then [] else (slots l 0).map fun x => l.take (max (x.1 - 1) 1)

def abvEnc (x : Bs) : Array Value := #[bytesV x]

theorem slots_ge : ∀ (l : Bs) (k : Nat) (x : Nat × Bs), x ∈ slots l k → k + 1 ≤ x.1
  | [], _, _, h => by simp [slots] at h
  | b :: r, k, x, h => by
    have ih := slots_ge r (k + 1) x
    simp only [slots] at h
    split at h
    · simp only [List.mem_cons] at h
      rcases h with rfl | h
      · simp
      · have := ih h; omega
    · have := ih h; omega

end Go.Proofs.YtgaemldkpfbomaaDoor
