/-
  DERIVED. GIVEN WITH THE SEED: THE CARDS: each row of YtgeoocchdpehdaaGreatDoorRows.lean that lists a variable, with what it lists TIED to the program's text (the seventh form; the later family's looks); each row that meets fmt, with fmt's text TOLD by the authors' own Lean function (tested against real Go, not proved from fmt's source: count such statements apart). THE CARD IS WHAT COUNTS. Prove the row's statement (the work); the ties are given (YtgeoocchdpehdaaGreatDoorTie.lean); close each card by the builder's one call (the guide's Derived/Test/ToyasCard.lean, 'card_holds'). Laid BY PROGRAM, IN A SANDBOX (cutbox-door.mjs). By AI agents, Wed Nov 11 2026. No macro, syntax, notation, axiom, sorry.
-/
import Derived.Test.YtgeoocchdpehdaaGreatDoorRows
import GoSem.ClaimSeven
namespace Go.Proofs.YtgeoocchdpehdaaGreatDoor
namespace Rows

/-- THE TIED CARD OF 'lagoonlaw15.PacketEnds'. -/
def packetEndsCard : Claim7 := { stood := { row := packetEndsRow, standIns := [], harness := (true, "427f4f301bb5c948321d9899589274877917ed92fb5530a107fd633bc9d7ffb8"), looks := false }, kinds := [], alts := [], laidByText := true, laidKinds := [.data, .data], laidTests := true, laidLooks := .later }
def PacketEndsCardSaid : Prop := Claim7.holds Tryz.pinned (.plain (OpenSpec.ofChange packetEndsSpec)) packetEndsCard

/-- THE SECOND FORM's CARD OF 'lagoonlaw15.PacketEnds'. -/
def packetEndsUptoCard : Claim7 := { stood := { row := packetEndsUptoRow, standIns := [], harness := (true, "427f4f301bb5c948321d9899589274877917ed92fb5530a107fd633bc9d7ffb8"), looks := false }, kinds := [], alts := [], laidByText := true, laidKinds := [.data, .data], laidTests := true, laidLooks := .later }
def PacketEndsUptoCardSaid : Prop := Claim7.holds Tryz.pinned (.plain (OpenSpec.upto packetEndsSpec)) packetEndsUptoCard
end Rows
end Go.Proofs.YtgeoocchdpehdaaGreatDoor
