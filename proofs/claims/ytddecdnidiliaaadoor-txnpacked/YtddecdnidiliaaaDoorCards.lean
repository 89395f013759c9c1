/-
  DERIVED. GIVEN WITH THE SEED: THE CARDS: each row of YtddecdnidiliaaaDoorRows.lean that lists a variable, with what it lists TIED to the program's text (the seventh form; the later family's looks); each row that meets fmt, with fmt's text TOLD by the authors' own Lean function (tested against real Go, not proved from fmt's source: count such statements apart). THE CARD IS WHAT COUNTS. Prove the row's statement (the work); the ties are given (YtddecdnidiliaaaDoorTie.lean); close each card by the builder's one call (the guide's Derived/Test/ToyasCard.lean, 'card_holds'). Laid BY PROGRAM, IN A SANDBOX (cutbox-door.mjs). By AI agents, Wed Nov 11 2026. No macro, syntax, notation, axiom, sorry.
-/
import Derived.Test.YtddecdnidiliaaaDoorRows
import GoSem.ClaimSeven
namespace Go.Proofs.YtddecdnidiliaaaDoor
namespace Rows

/-- THE TIED CARD OF 'lagoonlaw04.TxnNumbers'. -/
def txnNumbersCard : Claim7 := { stood := { row := txnNumbersRow, standIns := [], harness := (true, "576e35292c5efa20f1ede76aa2475860b47bee3ed3ba74dff80d533ee8c1363f"), looks := false }, kinds := [], alts := [], laidByText := true, laidKinds := [.data], laidTests := true, laidLooks := .later }
def TxnNumbersCardSaid : Prop := Claim7.holds Tryd.pinned (.plain (OpenSpec.ofChange txnNumbersSpec)) txnNumbersCard

/-- THE TIED CARD OF 'lagoonlaw04.TxnPacked'. -/
def txnPackedCard : Claim7 := { stood := { row := txnPackedRow, standIns := [], harness := (true, "576e35292c5efa20f1ede76aa2475860b47bee3ed3ba74dff80d533ee8c1363f"), looks := false }, kinds := [], alts := [], laidByText := true, laidKinds := [.data], laidTests := true, laidLooks := .later }
def TxnPackedCardSaid : Prop := Claim7.holds Tryd.pinned (.plain (OpenSpec.ofChange txnPackedSpec)) txnPackedCard

/-- THE TIED CARD OF 'lagoonlaw04.TxnBack'. -/
def txnBackCard : Claim7 := { stood := { row := txnBackRow, standIns := [], harness := (true, "576e35292c5efa20f1ede76aa2475860b47bee3ed3ba74dff80d533ee8c1363f"), looks := false }, kinds := [], alts := [], laidByText := true, laidKinds := [.data], laidTests := true, laidLooks := .later }
def TxnBackCardSaid : Prop := Claim7.holds Tryd.pinned (.plain (OpenSpec.ofChange txnBackSpec)) txnBackCard

/-- THE SECOND FORM's CARD OF 'lagoonlaw04.TxnNumbers'. -/
def txnNumbersUptoCard : Claim7 := { stood := { row := txnNumbersUptoRow, standIns := [], harness := (true, "576e35292c5efa20f1ede76aa2475860b47bee3ed3ba74dff80d533ee8c1363f"), looks := false }, kinds := [], alts := [], laidByText := true, laidKinds := [.data], laidTests := true, laidLooks := .later }
def TxnNumbersUptoCardSaid : Prop := Claim7.holds Tryd.pinned (.plain (OpenSpec.upto txnNumbersSpec)) txnNumbersUptoCard

/-- THE SECOND FORM's CARD OF 'lagoonlaw04.TxnPacked'. -/
def txnPackedUptoCard : Claim7 := { stood := { row := txnPackedUptoRow, standIns := [], harness := (true, "576e35292c5efa20f1ede76aa2475860b47bee3ed3ba74dff80d533ee8c1363f"), looks := false }, kinds := [], alts := [], laidByText := true, laidKinds := [.data], laidTests := true, laidLooks := .later }
def TxnPackedUptoCardSaid : Prop := Claim7.holds Tryd.pinned (.plain (OpenSpec.upto txnPackedSpec)) txnPackedUptoCard

/-- THE SECOND FORM's CARD OF 'lagoonlaw04.TxnBack'. -/
def txnBackUptoCard : Claim7 := { stood := { row := txnBackUptoRow, standIns := [], harness := (true, "576e35292c5efa20f1ede76aa2475860b47bee3ed3ba74dff80d533ee8c1363f"), looks := false }, kinds := [], alts := [], laidByText := true, laidKinds := [.data], laidTests := true, laidLooks := .later }
def TxnBackUptoCardSaid : Prop := Claim7.holds Tryd.pinned (.plain (OpenSpec.upto txnBackSpec)) txnBackUptoCard
end Rows
end Go.Proofs.YtddecdnidiliaaaDoor
