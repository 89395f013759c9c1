/-
  DERIVED. GIVEN WITH THE SEED: THE CARDS: each row of YtdhnbgeijfgfaaaGreatDoorRows.lean that lists a variable, with what it lists TIED to the program's text (the seventh form; the later family's looks); each row that meets fmt, with fmt's text TOLD by the authors' own Lean function (tested against real Go, not proved from fmt's source: count such statements apart). THE CARD IS WHAT COUNTS. Prove the row's statement (the work); the ties are given (YtdhnbgeijfgfaaaGreatDoorTie.lean); close each card by the builder's one call (the guide's Derived/Test/ToyasCard.lean, 'card_holds'). Laid BY PROGRAM, IN A SANDBOX (cutbox-door.mjs). By AI agents, Wed Nov 11 2026. No macro, syntax, notation, axiom, sorry.
-/
import Derived.Test.YtdhnbgeijfgfaaaGreatDoorRows
import GoSem.ClaimSeven
namespace Go.Proofs.YtdhnbgeijfgfaaaGreatDoor
namespace Rows

/-- THE TIED CARD OF 'lagoonlaw02.DiskGiven'. -/
def diskGivenCard : Claim7 := { stood := { row := diskGivenRow, standIns := [], harness := (true, "e6998c615bfb3676f59eab3fd666a90c38bd4834ac5cea3ead9a15816f27cd44"), looks := false }, kinds := [], alts := [], laidByText := true, laidKinds := [.data, .data, .data], laidTests := true, laidLooks := .later }
def DiskGivenCardSaid : Prop := Claim7.holds Tryz.pinned (.plain (OpenSpec.ofChange diskGivenSpec)) diskGivenCard

/-- THE SECOND FORM's CARD OF 'lagoonlaw02.DiskGiven'. -/
def diskGivenUptoCard : Claim7 := { stood := { row := diskGivenUptoRow, standIns := [], harness := (true, "e6998c615bfb3676f59eab3fd666a90c38bd4834ac5cea3ead9a15816f27cd44"), looks := false }, kinds := [], alts := [], laidByText := true, laidKinds := [.data, .data, .data], laidTests := true, laidLooks := .later }
def DiskGivenUptoCardSaid : Prop := Claim7.holds Tryz.pinned (.plain (OpenSpec.upto diskGivenSpec)) diskGivenUptoCard
end Rows
end Go.Proofs.YtdhnbgeijfgfaaaGreatDoor
