/-
  DERIVED. GIVEN WITH THE SEED: THE CARDS: each row of YtoeialngbbfoeaaGreatDoorRows.lean that lists a variable, with what it lists TIED to the program's text (the seventh form; the later family's looks); each row that meets fmt, with fmt's text TOLD by the authors' own Lean function (tested against real Go, not proved from fmt's source: count such statements apart). THE CARD IS WHAT COUNTS. Prove the row's statement (the work); the ties are given (YtoeialngbbfoeaaGreatDoorTie.lean); close each card by the builder's one call (the guide's Derived/Test/ToyasCard.lean, 'card_holds'). Laid BY PROGRAM, IN A SANDBOX (cutbox-door.mjs). By AI agents, Wed Nov 11 2026. No macro, syntax, notation, axiom, sorry.
-/
import Derived.Test.YtoeialngbbfoeaaGreatDoorRows
import GoSem.ClaimSeven
namespace Go.Proofs.YtoeialngbbfoeaaGreatDoor
namespace Rows

/-- THE TIED CARD OF 'lagoonlaw04.TxnSame'. -/
def txnSameCard : Claim7 := { stood := { row := txnSameRow, standIns := [], harness := (true, "d3d094fe64c58a784315d204945ee753abb73307c9d1e032abed6ad199a0798d"), looks := false }, kinds := [], alts := [], laidByText := true, laidKinds := [.data, .data, .data, .data], laidTests := true, laidLooks := .later }
def TxnSameCardSaid : Prop := Claim7.holds Tryz.pinned (.plain (OpenSpec.ofChange txnSameSpec)) txnSameCard

/-- THE SECOND FORM's CARD OF 'lagoonlaw04.TxnSame'. -/
def txnSameUptoCard : Claim7 := { stood := { row := txnSameUptoRow, standIns := [], harness := (true, "d3d094fe64c58a784315d204945ee753abb73307c9d1e032abed6ad199a0798d"), looks := false }, kinds := [], alts := [], laidByText := true, laidKinds := [.data, .data, .data, .data], laidTests := true, laidLooks := .later }
def TxnSameUptoCardSaid : Prop := Claim7.holds Tryz.pinned (.plain (OpenSpec.upto txnSameSpec)) txnSameUptoCard
end Rows
end Go.Proofs.YtoeialngbbfoeaaGreatDoor
