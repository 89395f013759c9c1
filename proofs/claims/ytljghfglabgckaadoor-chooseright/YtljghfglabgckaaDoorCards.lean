/-
  DERIVED. GIVEN WITH THE SEED: THE CARDS: each row of YtljghfglabgckaaDoorRows.lean that lists a variable, with what it lists TIED to the program's text (the seventh form; the later family's looks); each row that meets fmt, with fmt's text TOLD by the authors' own Lean function (tested against real Go, not proved from fmt's source: count such statements apart). THE CARD IS WHAT COUNTS. Prove the row's statement (the work); the ties are given (YtljghfglabgckaaDoorTie.lean); close each card by the builder's one call (the guide's Derived/Test/ToyasCard.lean, 'card_holds'). Laid BY PROGRAM, IN A SANDBOX (cutbox-door.mjs). By AI agents, Wed Nov 11 2026. No macro, syntax, notation, axiom, sorry.
-/
import Derived.Test.YtljghfglabgckaaDoorRows
import GoSem.ClaimSeven
namespace Go.Proofs.YtljghfglabgckaaDoor
namespace Rows

/-- THE TIED CARD OF 'lagoonlaw14.ChooseRight'. -/
def chooseRightCard : Claim7 := { stood := { row := chooseRightRow, standIns := [], harness := (true, "c67425f7b0389a38fbe224a81d30b80899f4d21ad7c1eeeb3025d0cf18f6e9cc"), looks := false }, kinds := [], alts := [], laidByText := true, laidKinds := [.data], laidTests := true, laidLooks := .later }
def ChooseRightCardSaid : Prop := Claim7.holds Tryd.pinned (.plain (OpenSpec.ofChange chooseRightSpec)) chooseRightCard

/-- THE SECOND FORM's CARD OF 'lagoonlaw14.ChooseRight'. -/
def chooseRightUptoCard : Claim7 := { stood := { row := chooseRightUptoRow, standIns := [], harness := (true, "c67425f7b0389a38fbe224a81d30b80899f4d21ad7c1eeeb3025d0cf18f6e9cc"), looks := false }, kinds := [], alts := [], laidByText := true, laidKinds := [.data], laidTests := true, laidLooks := .later }
def ChooseRightUptoCardSaid : Prop := Claim7.holds Tryd.pinned (.plain (OpenSpec.upto chooseRightSpec)) chooseRightUptoCard
end Rows
end Go.Proofs.YtljghfglabgckaaDoor
