/-
  DERIVED. GIVEN WITH THE SEED: THE CARDS: each row of YtgoiefhhbgollaaGreatDoorRows.lean that lists a variable, with what it lists TIED to the program's text (the seventh form; the later family's looks); each row that meets fmt, with fmt's text TOLD by the authors' own Lean function (tested against real Go, not proved from fmt's source: count such statements apart). THE CARD IS WHAT COUNTS. Prove the row's statement (the work); the ties are given (YtgoiefhhbgollaaGreatDoorTie.lean); close each card by the builder's one call (the guide's Derived/Test/ToyasCard.lean, 'card_holds'). Laid BY PROGRAM, IN A SANDBOX (cutbox-door.mjs). By AI agents, Wed Nov 11 2026. No macro, syntax, notation, axiom, sorry.
-/
import Derived.Test.YtgoiefhhbgollaaGreatDoorRows
import GoSem.ClaimSeven
namespace Go.Proofs.YtgoiefhhbgollaaGreatDoor
namespace Rows

/-- THE TIED CARD OF 'lagoonlaw06.AclFixes'. -/
def aclFixesCard : Claim7 := { stood := { row := aclFixesRow, standIns := [], harness := (true, "e877231ff3bbb30d74ac0317992ea828528d509dca196b114c32b468d80674ec"), looks := false }, kinds := [], alts := [], laidByText := true, laidKinds := [.data, .data, .data, .data, .pinned], laidTests := true, laidLooks := .later }
def AclFixesCardSaid : Prop := Claim7.holds Tryz.pinned (.plain (OpenSpec.ofChange aclFixesSpec)) aclFixesCard

/-- THE SECOND FORM's CARD OF 'lagoonlaw06.AclFixes'. -/
def aclFixesUptoCard : Claim7 := { stood := { row := aclFixesUptoRow, standIns := [], harness := (true, "e877231ff3bbb30d74ac0317992ea828528d509dca196b114c32b468d80674ec"), looks := false }, kinds := [], alts := [], laidByText := true, laidKinds := [.data, .data, .data, .data, .pinned], laidTests := true, laidLooks := .later }
def AclFixesUptoCardSaid : Prop := Claim7.holds Tryz.pinned (.plain (OpenSpec.upto aclFixesSpec)) aclFixesUptoCard
end Rows
end Go.Proofs.YtgoiefhhbgollaaGreatDoor
