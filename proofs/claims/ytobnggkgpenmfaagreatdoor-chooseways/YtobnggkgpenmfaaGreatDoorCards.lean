/-
  DERIVED. GIVEN WITH THE SEED: THE CARDS: each row of YtobnggkgpenmfaaGreatDoorRows.lean that lists a variable, with what it lists TIED to the program's text (the seventh form; the later family's looks); each row that meets fmt, with fmt's text TOLD by the authors' own Lean function (tested against real Go, not proved from fmt's source: count such statements apart). THE CARD IS WHAT COUNTS. Prove the row's statement (the work); the ties are given (YtobnggkgpenmfaaGreatDoorTie.lean); close each card by the builder's one call (the guide's Derived/Test/ToyasCard.lean, 'card_holds'). Laid BY PROGRAM, IN A SANDBOX (cutbox-door.mjs). By AI agents, Wed Nov 11 2026. No macro, syntax, notation, axiom, sorry.
-/
import Derived.Test.YtobnggkgpenmfaaGreatDoorRows
import GoSem.ClaimSeven
namespace Go.Proofs.YtobnggkgpenmfaaGreatDoor
namespace Rows

/-- THE TIED CARD OF 'lagoonlaw14.ChooseWays'. -/
def chooseWaysCard : Claim7 := { stood := { row := chooseWaysRow, standIns := [], harness := (true, "af08c5790b30d62b1a4f2e0fc2bb830d5f8d68e7d9a52802406183d4f4694050"), looks := false }, kinds := [], alts := [], laidByText := true, laidKinds := [.data, .data, .data, .data], laidTests := true, laidLooks := .later }
def ChooseWaysCardSaid : Prop := Claim7.holds Tryz.pinned (.plain (OpenSpec.ofChange chooseWaysSpec)) chooseWaysCard

/-- THE TIED CARD OF 'lagoonlaw14.ChooseSizes'. -/
def chooseSizesCard : Claim7 := { stood := { row := chooseSizesRow, standIns := [], harness := (true, "af08c5790b30d62b1a4f2e0fc2bb830d5f8d68e7d9a52802406183d4f4694050"), looks := false }, kinds := [], alts := [], laidByText := true, laidKinds := [.data, .data, .data, .data], laidTests := true, laidLooks := .later }
def ChooseSizesCardSaid : Prop := Claim7.holds Tryz.pinned (.plain (OpenSpec.ofChange chooseSizesSpec)) chooseSizesCard

/-- THE SECOND FORM's CARD OF 'lagoonlaw14.ChooseWays'. -/
def chooseWaysUptoCard : Claim7 := { stood := { row := chooseWaysUptoRow, standIns := [], harness := (true, "af08c5790b30d62b1a4f2e0fc2bb830d5f8d68e7d9a52802406183d4f4694050"), looks := false }, kinds := [], alts := [], laidByText := true, laidKinds := [.data, .data, .data, .data], laidTests := true, laidLooks := .later }
def ChooseWaysUptoCardSaid : Prop := Claim7.holds Tryz.pinned (.plain (OpenSpec.upto chooseWaysSpec)) chooseWaysUptoCard

/-- THE SECOND FORM's CARD OF 'lagoonlaw14.ChooseSizes'. -/
def chooseSizesUptoCard : Claim7 := { stood := { row := chooseSizesUptoRow, standIns := [], harness := (true, "af08c5790b30d62b1a4f2e0fc2bb830d5f8d68e7d9a52802406183d4f4694050"), looks := false }, kinds := [], alts := [], laidByText := true, laidKinds := [.data, .data, .data, .data], laidTests := true, laidLooks := .later }
def ChooseSizesUptoCardSaid : Prop := Claim7.holds Tryz.pinned (.plain (OpenSpec.upto chooseSizesSpec)) chooseSizesUptoCard
end Rows
end Go.Proofs.YtobnggkgpenmfaaGreatDoor
