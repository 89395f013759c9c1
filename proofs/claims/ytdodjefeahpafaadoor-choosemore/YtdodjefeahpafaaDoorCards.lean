/-
  DERIVED. GIVEN WITH THE SEED: THE CARDS: each row of YtdodjefeahpafaaDoorRows.lean that lists a variable, with what it lists TIED to the program's text (the seventh form; the later family's looks); each row that meets fmt, with fmt's text TOLD by the authors' own Lean function (tested against real Go, not proved from fmt's source: count such statements apart). THE CARD IS WHAT COUNTS. Prove the row's statement (the work); the ties are given (YtdodjefeahpafaaDoorTie.lean); close each card by the builder's one call (the guide's Derived/Test/ToyasCard.lean, 'card_holds'). Laid BY PROGRAM, IN A SANDBOX (cutbox-door.mjs). By AI agents, Wed Nov 11 2026. No macro, syntax, notation, axiom, sorry.
-/
import Derived.Test.YtdodjefeahpafaaDoorRows
import GoSem.ClaimSeven
namespace Go.Proofs.YtdodjefeahpafaaDoor
namespace Rows

/-- THE TIED CARD OF 'lagoonlaw14.ChooseRight'. -/
def chooseRightCard : Claim7 := { stood := { row := chooseRightRow, standIns := [], harness := (true, "370a6b6ac72c6c8f092e88de8c703075ebd1bc32fb177472118727df698ec58b"), looks := false }, kinds := [], alts := [], laidByText := true, laidKinds := [.data], laidTests := true, laidLooks := .later }
def ChooseRightCardSaid : Prop := Claim7.holds Tryd.pinned (.plain (OpenSpec.ofChange chooseRightSpec)) chooseRightCard

/-- THE TIED CARD OF 'lagoonlaw14.ChooseMore'. -/
def chooseMoreCard : Claim7 := { stood := { row := chooseMoreRow, standIns := [], harness := (true, "370a6b6ac72c6c8f092e88de8c703075ebd1bc32fb177472118727df698ec58b"), looks := false }, kinds := [], alts := [], laidByText := true, laidKinds := [.data], laidTests := true, laidLooks := .later }
def ChooseMoreCardSaid : Prop := Claim7.holds Tryd.pinned (.plain (OpenSpec.ofChange chooseMoreSpec)) chooseMoreCard

/-- THE TIED CARD OF 'lagoonlaw14.ChooseHand'. -/
def chooseHandCard : Claim7 := { stood := { row := chooseHandRow, standIns := [], harness := (true, "370a6b6ac72c6c8f092e88de8c703075ebd1bc32fb177472118727df698ec58b"), looks := false }, kinds := [], alts := [], laidByText := true, laidKinds := [.data], laidTests := true, laidLooks := .later }
def ChooseHandCardSaid : Prop := Claim7.holds Tryd.pinned (.plain (OpenSpec.ofChange chooseHandSpec)) chooseHandCard

/-- THE SECOND FORM's CARD OF 'lagoonlaw14.ChooseRight'. -/
def chooseRightUptoCard : Claim7 := { stood := { row := chooseRightUptoRow, standIns := [], harness := (true, "370a6b6ac72c6c8f092e88de8c703075ebd1bc32fb177472118727df698ec58b"), looks := false }, kinds := [], alts := [], laidByText := true, laidKinds := [.data], laidTests := true, laidLooks := .later }
def ChooseRightUptoCardSaid : Prop := Claim7.holds Tryd.pinned (.plain (OpenSpec.upto chooseRightSpec)) chooseRightUptoCard

/-- THE SECOND FORM's CARD OF 'lagoonlaw14.ChooseMore'. -/
def chooseMoreUptoCard : Claim7 := { stood := { row := chooseMoreUptoRow, standIns := [], harness := (true, "370a6b6ac72c6c8f092e88de8c703075ebd1bc32fb177472118727df698ec58b"), looks := false }, kinds := [], alts := [], laidByText := true, laidKinds := [.data], laidTests := true, laidLooks := .later }
def ChooseMoreUptoCardSaid : Prop := Claim7.holds Tryd.pinned (.plain (OpenSpec.upto chooseMoreSpec)) chooseMoreUptoCard

/-- THE SECOND FORM's CARD OF 'lagoonlaw14.ChooseHand'. -/
def chooseHandUptoCard : Claim7 := { stood := { row := chooseHandUptoRow, standIns := [], harness := (true, "370a6b6ac72c6c8f092e88de8c703075ebd1bc32fb177472118727df698ec58b"), looks := false }, kinds := [], alts := [], laidByText := true, laidKinds := [.data], laidTests := true, laidLooks := .later }
def ChooseHandUptoCardSaid : Prop := Claim7.holds Tryd.pinned (.plain (OpenSpec.upto chooseHandSpec)) chooseHandUptoCard
end Rows
end Go.Proofs.YtdodjefeahpafaaDoor
