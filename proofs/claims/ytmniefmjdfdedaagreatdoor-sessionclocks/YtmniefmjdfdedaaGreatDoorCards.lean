/-
  DERIVED. GIVEN WITH THE SEED: THE CARDS: each row of YtmniefmjdfdedaaGreatDoorRows.lean that lists a variable, with what it lists TIED to the program's text (the seventh form; the later family's looks); each row that meets fmt, with fmt's text TOLD by the authors' own Lean function (tested against real Go, not proved from fmt's source: count such statements apart). THE CARD IS WHAT COUNTS. Prove the row's statement (the work); the ties are given (YtmniefmjdfdedaaGreatDoorTie.lean); close each card by the builder's one call (the guide's Derived/Test/ToyasCard.lean, 'card_holds'). Laid BY PROGRAM, IN A SANDBOX (cutbox-door.mjs). By AI agents, Wed Nov 11 2026. No macro, syntax, notation, axiom, sorry.
-/
import Derived.Test.YtmniefmjdfdedaaGreatDoorRows
import GoSem.ClaimSeven
namespace Go.Proofs.YtmniefmjdfdedaaGreatDoor
namespace Rows

/-- THE TIED CARD OF 'lagoonlaw19.SessionClocks'. -/
def sessionClocksCard : Claim7 := { stood := { row := sessionClocksRow, standIns := [], harness := (true, "46ddbd0459fc7a9a9eac8ff443c646a2a696f699175dc156666ab2b29b5d53f1"), looks := false }, kinds := [], alts := [], laidByText := true, laidKinds := [.data, .data, .data], laidTests := true, laidLooks := .later }
def SessionClocksCardSaid : Prop := Claim7.holds Tryz.pinned (.plain (OpenSpec.ofChange sessionClocksSpec)) sessionClocksCard

/-- THE SECOND FORM's CARD OF 'lagoonlaw19.SessionClocks'. -/
def sessionClocksUptoCard : Claim7 := { stood := { row := sessionClocksUptoRow, standIns := [], harness := (true, "46ddbd0459fc7a9a9eac8ff443c646a2a696f699175dc156666ab2b29b5d53f1"), looks := false }, kinds := [], alts := [], laidByText := true, laidKinds := [.data, .data, .data], laidTests := true, laidLooks := .later }
def SessionClocksUptoCardSaid : Prop := Claim7.holds Tryz.pinned (.plain (OpenSpec.upto sessionClocksSpec)) sessionClocksUptoCard
end Rows
end Go.Proofs.YtmniefmjdfdedaaGreatDoor
