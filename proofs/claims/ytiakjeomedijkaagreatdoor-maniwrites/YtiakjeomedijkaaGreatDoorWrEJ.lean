/- What putEntry, and PutList of entries with it, put behind a Writer's bytes. -/
import Derived.Test.YtiakjeomedijkaaGreatDoorWrTJ
namespace Go.Proofs.YtiakjeomedijkaaGreatDoor
open Go.RowKit
set_option maxRecDepth 8000

def enB (x : EnD) : List Int := [x.perms % 256] ++ idB x.id

def acB (l : List EnD) : List Int := l.flatMap enB
theorem acB_next (l : List EnD) (k : Nat) (h : k < l.length) : acB (l.take (k + 1)) = acB (l.take k) ++ enB l[k] := by
  rw [List.take_succ_eq_append_getElem h]; simp only [acB, List.flatMap_append, List.flatMap_cons, List.flatMap_nil, List.append_nil]

theorem acB_len (l : List EnD) (h : ∀ x ∈ l, x.id.scheme.size ≤ 2147483647 ∧ x.id.name.size ≤ 2147483647) : (acB l).length ≤ 4294967320 * l.length := by
  induction l with
  | nil => simp [acB]
  | cons x l ih =>
    have e : acB (x :: l) = enB x ++ acB l := by simp [acB]
    have h1 := h x (by simp)
    have h2 := ih (fun y hy => h y (by simp [hy]))
    rw [e, List.length_append, enB, List.length_append, idB, List.length_append, txtB_len, txtB_len]
    simp only [List.length_cons, List.length_nil]
    omega

end Go.Proofs.YtiakjeomedijkaaGreatDoor
