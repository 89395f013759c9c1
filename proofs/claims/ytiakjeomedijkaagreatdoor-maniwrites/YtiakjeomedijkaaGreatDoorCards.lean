/-
  DERIVED. GIVEN WITH THE SEED: THE CARDS: each row of YtiakjeomedijkaaGreatDoorRows.lean that lists a variable, with what it lists TIED to the program's text (the seventh form; the later family's looks); each row that meets fmt, with fmt's text TOLD by the authors' own Lean function (tested against real Go, not proved from fmt's source: count such statements apart). THE CARD IS WHAT COUNTS. Prove the row's statement (the work); the ties are given (YtiakjeomedijkaaGreatDoorTie.lean); close each card by the builder's one call (the guide's Derived/Test/ToyasCard.lean, 'card_holds'). Laid BY PROGRAM, IN A SANDBOX (cutbox-door.mjs). By AI agents, Wed Nov 11 2026. No macro, syntax, notation, axiom, sorry.
-/
import Derived.Test.YtiakjeomedijkaaGreatDoorRows
import GoSem.ClaimSeven
namespace Go.Proofs.YtiakjeomedijkaaGreatDoor
namespace Rows

/-- THE TIED CARD OF 'lagoonlaw11.ManiWrites'. -/
def maniWritesCard : Claim7 := { stood := { row := maniWritesRow, standIns := [], harness := (true, "c870d82fb36335a5ad650ae4e808af0dc63357f2bb1b24e7f0bcfd6733029cbe"), looks := false }, kinds := [], alts := [], laidByText := true, laidKinds := [.data, .data, .data], laidTests := true, laidLooks := .later }
def ManiWritesCardSaid : Prop := Claim7.holds Tryz.pinned (.plain (OpenSpec.ofChange maniWritesSpec)) maniWritesCard

/-- THE SECOND FORM's CARD OF 'lagoonlaw11.ManiWrites'. -/
def maniWritesUptoCard : Claim7 := { stood := { row := maniWritesUptoRow, standIns := [], harness := (true, "c870d82fb36335a5ad650ae4e808af0dc63357f2bb1b24e7f0bcfd6733029cbe"), looks := false }, kinds := [], alts := [], laidByText := true, laidKinds := [.data, .data, .data], laidTests := true, laidLooks := .later }
def ManiWritesUptoCardSaid : Prop := Claim7.holds Tryz.pinned (.plain (OpenSpec.upto maniWritesSpec)) maniWritesUptoCard
end Rows
end Go.Proofs.YtiakjeomedijkaaGreatDoor
