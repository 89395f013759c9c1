/- What name of the document's layer 6 answers. -/
import Derived.Test.YtapnaknbidmnmaaDoorQaC
namespace Go.Proofs.YtapnaknbidmnmaaDoor
open Go.RowKit
set_option maxRecDepth 8000

/-- A byte that a name may have. -/
def nmC (b : UInt8) : Bool := decide ((97 ≤ b.toNat ∧ b.toNat ≤ 122) ∨ (48 ≤ b.toNat ∧ b.toNat ≤ 57) ∨ b.toNat = 46 ∨ b.toNat = 95 ∨ b.toNat = 45)

def nmR (l : Bs) : Bool := l.all nmC && decide (1 ≤ l.length ∧ l.length ≤ 24)

theorem all_step {l : Bs} {k : Nat} (hk : k < l.length) : (l.take (k + 1)).all nmC = ((l.take k).all nmC && nmC (l.getD k 0)) := by
  rw [List.take_succ_eq_append_getElem hk, List.all_append, List.all_cons, List.all_nil, Bool.and_true, List.getD_eq_getElem?_getD, List.getElem?_eq_getElem hk]
  rfl

theorem all_bad {l : Bs} {k : Nat} (hk : k < l.length) (h : nmC (l.getD k 0) = false) : l.all nmC = false := by
  rw [List.all_eq_false]
  refine ⟨l[k], List.getElem_mem hk, ?_⟩
  rw [List.getD_eq_getElem?_getD, List.getElem?_eq_getElem hk] at h
  simp only [Option.getD_some] at h
  simp [h]

end Go.Proofs.YtapnaknbidmnmaaDoor
