/-
  DERIVED. GIVEN WITH THE SEED: THE CARDS: each row of YtjhgcdjnmbfccaaDoorRows.lean that lists a variable, with what it lists TIED to the program's text (the seventh form; the later family's looks); each row that meets fmt, with fmt's text TOLD by the authors' own Lean function (tested against real Go, not proved from fmt's source: count such statements apart). THE CARD IS WHAT COUNTS. Prove the row's statement (the work); the ties are given (YtjhgcdjnmbfccaaDoorTie.lean); close each card by the builder's one call (the guide's Derived/Test/ToyasCard.lean, 'card_holds'). Laid BY PROGRAM, IN A SANDBOX (cutbox-door.mjs). By AI agents, Wed Nov 11 2026. No macro, syntax, notation, axiom, sorry.
-/
import Derived.Test.YtjhgcdjnmbfccaaDoorRows
import GoSem.ClaimSeven
namespace Go.Proofs.YtjhgcdjnmbfccaaDoor
namespace Rows

/-- THE TIED CARD OF 'lagoonlaw06.AclRanges'. -/
def aclRangesCard : Claim7 := { stood := { row := aclRangesRow, standIns := [], harness := (true, "23dc53147dd97b0223656e9e20eb195bbc4ea4ff3f33bb1805684fb3abe8cd93"), looks := false }, kinds := [], alts := [], laidByText := true, laidKinds := [.data, .pinned], laidTests := true, laidLooks := .later }
def AclRangesCardSaid : Prop := Claim7.holds Tryd.pinned (.plain (OpenSpec.ofChange aclRangesSpec)) aclRangesCard

/-- THE SECOND FORM's CARD OF 'lagoonlaw06.AclRanges'. -/
def aclRangesUptoCard : Claim7 := { stood := { row := aclRangesUptoRow, standIns := [], harness := (true, "23dc53147dd97b0223656e9e20eb195bbc4ea4ff3f33bb1805684fb3abe8cd93"), looks := false }, kinds := [], alts := [], laidByText := true, laidKinds := [.data, .pinned], laidTests := true, laidLooks := .later }
def AclRangesUptoCardSaid : Prop := Claim7.holds Tryd.pinned (.plain (OpenSpec.upto aclRangesSpec)) aclRangesUptoCard
end Rows
end Go.Proofs.YtjhgcdjnmbfccaaDoor
