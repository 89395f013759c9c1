/-
  DERIVED. GIVEN WITH THE SEED: THE CARDS: each row of YteoghfmhbdkjbaaGreatDoorRows.lean that lists a variable, with what it lists TIED to the program's text (the seventh form; the later family's looks); each row that meets fmt, with fmt's text TOLD by the authors' own Lean function (tested against real Go, not proved from fmt's source: count such statements apart). THE CARD IS WHAT COUNTS. Prove the row's statement (the work); the ties are given (YteoghfmhbdkjbaaGreatDoorTie.lean); close each card by the builder's one call (the guide's Derived/Test/ToyasCard.lean, 'card_holds'). Laid BY PROGRAM, IN A SANDBOX (cutbox-door.mjs). By AI agents, Wed Nov 11 2026. No macro, syntax, notation, axiom, sorry.
-/
import Derived.Test.YteoghfmhbdkjbaaGreatDoorRows
import GoSem.ClaimSeven
namespace Go.Proofs.YteoghfmhbdkjbaaGreatDoor
namespace Rows

/-- THE TIED CARD OF 'lagoonlaw04.TxnChecks'. -/
def txnChecksCard : Claim7 := { stood := { row := txnChecksRow, standIns := [], harness := (true, "b912d2c2046849d3514045d140a98b1b4813d0e7410854647de7e3ae1bdf4e7e"), looks := false }, kinds := [], alts := [], laidByText := true, laidKinds := [.data, .data, .data, .data], laidTests := true, laidLooks := .later }
def TxnChecksCardSaid : Prop := Claim7.holds Tryz.pinned (.plain (OpenSpec.ofChange txnChecksSpec)) txnChecksCard

/-- THE TIED CARD OF 'lagoonlaw04.TxnRises'. -/
def txnRisesCard : Claim7 := { stood := { row := txnRisesRow, standIns := [], harness := (true, "b912d2c2046849d3514045d140a98b1b4813d0e7410854647de7e3ae1bdf4e7e"), looks := false }, kinds := [], alts := [], laidByText := true, laidKinds := [.data, .data, .data, .data], laidTests := true, laidLooks := .later }
def TxnRisesCardSaid : Prop := Claim7.holds Tryz.pinned (.plain (OpenSpec.ofChange txnRisesSpec)) txnRisesCard

/-- THE SECOND FORM's CARD OF 'lagoonlaw04.TxnChecks'. -/
def txnChecksUptoCard : Claim7 := { stood := { row := txnChecksUptoRow, standIns := [], harness := (true, "b912d2c2046849d3514045d140a98b1b4813d0e7410854647de7e3ae1bdf4e7e"), looks := false }, kinds := [], alts := [], laidByText := true, laidKinds := [.data, .data, .data, .data], laidTests := true, laidLooks := .later }
def TxnChecksUptoCardSaid : Prop := Claim7.holds Tryz.pinned (.plain (OpenSpec.upto txnChecksSpec)) txnChecksUptoCard

/-- THE SECOND FORM's CARD OF 'lagoonlaw04.TxnRises'. -/
def txnRisesUptoCard : Claim7 := { stood := { row := txnRisesUptoRow, standIns := [], harness := (true, "b912d2c2046849d3514045d140a98b1b4813d0e7410854647de7e3ae1bdf4e7e"), looks := false }, kinds := [], alts := [], laidByText := true, laidKinds := [.data, .data, .data, .data], laidTests := true, laidLooks := .later }
def TxnRisesUptoCardSaid : Prop := Claim7.holds Tryz.pinned (.plain (OpenSpec.upto txnRisesSpec)) txnRisesUptoCard
end Rows
end Go.Proofs.YteoghfmhbdkjbaaGreatDoor
