/-
  DERIVED. GIVEN WITH THE SEED: THE CARDS: each row of YtddecdnidiliaabDoorRows.lean that lists a variable, with what it lists TIED to the program's text (the seventh form; the later family's looks); each row that meets fmt, with fmt's text TOLD by the authors' own Lean function (tested against real Go, not proved from fmt's source: count such statements apart). THE CARD IS WHAT COUNTS. Prove the row's statement (the work); the ties are given (YtddecdnidiliaabDoorTie.lean); close each card by the builder's one call (the guide's Derived/Test/ToyasCard.lean, 'card_holds'). Laid BY PROGRAM, IN A SANDBOX (cutbox-door.mjs). By AI agents, Wed Nov 11 2026. No macro, syntax, notation, axiom, sorry.
-/
import Derived.Test.YtddecdnidiliaabDoorRows
import GoSem.ClaimSeven
namespace Go.Proofs.YtddecdnidiliaabDoor
namespace Rows

/-- THE TIED CARD OF 'lagoonlaw04.TxnOne'. -/
def txnOneCard : Claim7 := { stood := { row := txnOneRow, standIns := [], harness := (true, "2617d7de0407d657c193f9e5d733dd52a72cd62a748314aab8d459c26d47561c"), looks := false }, kinds := [], alts := [], laidByText := true, laidKinds := [.data], laidTests := true, laidLooks := .later }
def TxnOneCardSaid : Prop := Claim7.holds Tryd.pinned (.plain (OpenSpec.ofChange txnOneSpec)) txnOneCard

/-- THE TIED CARD OF 'lagoonlaw04.TxnStairs'. -/
def txnStairsCard : Claim7 := { stood := { row := txnStairsRow, standIns := [], harness := (true, "2617d7de0407d657c193f9e5d733dd52a72cd62a748314aab8d459c26d47561c"), looks := false }, kinds := [], alts := [], laidByText := true, laidKinds := [.data], laidTests := true, laidLooks := .later }
def TxnStairsCardSaid : Prop := Claim7.holds Tryd.pinned (.plain (OpenSpec.ofChange txnStairsSpec)) txnStairsCard

/-- THE SECOND FORM's CARD OF 'lagoonlaw04.TxnOne'. -/
def txnOneUptoCard : Claim7 := { stood := { row := txnOneUptoRow, standIns := [], harness := (true, "2617d7de0407d657c193f9e5d733dd52a72cd62a748314aab8d459c26d47561c"), looks := false }, kinds := [], alts := [], laidByText := true, laidKinds := [.data], laidTests := true, laidLooks := .later }
def TxnOneUptoCardSaid : Prop := Claim7.holds Tryd.pinned (.plain (OpenSpec.upto txnOneSpec)) txnOneUptoCard

/-- THE SECOND FORM's CARD OF 'lagoonlaw04.TxnStairs'. -/
def txnStairsUptoCard : Claim7 := { stood := { row := txnStairsUptoRow, standIns := [], harness := (true, "2617d7de0407d657c193f9e5d733dd52a72cd62a748314aab8d459c26d47561c"), looks := false }, kinds := [], alts := [], laidByText := true, laidKinds := [.data], laidTests := true, laidLooks := .later }
def TxnStairsUptoCardSaid : Prop := Claim7.holds Tryd.pinned (.plain (OpenSpec.upto txnStairsSpec)) txnStairsUptoCard
end Rows
end Go.Proofs.YtddecdnidiliaabDoor
