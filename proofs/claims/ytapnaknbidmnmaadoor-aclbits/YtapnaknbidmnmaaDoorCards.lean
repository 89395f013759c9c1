/-
  DERIVED. GIVEN WITH THE SEED: THE CARDS: each row of YtapnaknbidmnmaaDoorRows.lean that lists a variable, with what it lists TIED to the program's text (the seventh form; the later family's looks); each row that meets fmt, with fmt's text TOLD by the authors' own Lean function (tested against real Go, not proved from fmt's source: count such statements apart). THE CARD IS WHAT COUNTS. Prove the row's statement (the work); the ties are given (YtapnaknbidmnmaaDoorTie.lean); close each card by the builder's one call (the guide's Derived/Test/ToyasCard.lean, 'card_holds'). Laid BY PROGRAM, IN A SANDBOX (cutbox-door.mjs). By AI agents, Wed Nov 11 2026. No macro, syntax, notation, axiom, sorry.
-/
import Derived.Test.YtapnaknbidmnmaaDoorRows
import GoSem.ClaimSeven
namespace Go.Proofs.YtapnaknbidmnmaaDoor
namespace Rows

/-- THE TIED CARD OF 'lagoonlaw06.AclBits'. -/
def aclBitsCard : Claim7 := { stood := { row := aclBitsRow, standIns := [], harness := (true, "05432d7dfe858e1e06eb4d2ce2bb276fadc9c2eff42cd7e04421a271011a1f04"), looks := false }, kinds := [], alts := [], laidByText := true, laidKinds := [.data, .pinned], laidTests := true, laidLooks := .later }
def AclBitsCardSaid : Prop := Claim7.holds Tryd.pinned (.plain (OpenSpec.ofChange aclBitsSpec)) aclBitsCard

/-- THE SECOND FORM's CARD OF 'lagoonlaw06.AclBits'. -/
def aclBitsUptoCard : Claim7 := { stood := { row := aclBitsUptoRow, standIns := [], harness := (true, "05432d7dfe858e1e06eb4d2ce2bb276fadc9c2eff42cd7e04421a271011a1f04"), looks := false }, kinds := [], alts := [], laidByText := true, laidKinds := [.data, .pinned], laidTests := true, laidLooks := .later }
def AclBitsUptoCardSaid : Prop := Claim7.holds Tryd.pinned (.plain (OpenSpec.upto aclBitsSpec)) aclBitsUptoCard
end Rows
end Go.Proofs.YtapnaknbidmnmaaDoor
