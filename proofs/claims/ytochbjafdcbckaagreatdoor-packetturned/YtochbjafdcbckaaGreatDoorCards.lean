/-
  DERIVED. GIVEN WITH THE SEED: THE CARDS: each row of YtochbjafdcbckaaGreatDoorRows.lean that lists a variable, with what it lists TIED to the program's text (the seventh form; the later family's looks); each row that meets fmt, with fmt's text TOLD by the authors' own Lean function (tested against real Go, not proved from fmt's source: count such statements apart). THE CARD IS WHAT COUNTS. Prove the row's statement (the work); the ties are given (YtochbjafdcbckaaGreatDoorTie.lean); close each card by the builder's one call (the guide's Derived/Test/ToyasCard.lean, 'card_holds'). Laid BY PROGRAM, IN A SANDBOX (cutbox-door.mjs). By AI agents, Wed Nov 11 2026. No macro, syntax, notation, axiom, sorry.
-/
import Derived.Test.YtochbjafdcbckaaGreatDoorRows
import GoSem.ClaimSeven
namespace Go.Proofs.YtochbjafdcbckaaGreatDoor
namespace Rows

/-- THE TIED CARD OF 'lagoonlaw15.PacketTurned'. -/
def packetTurnedCard : Claim7 := { stood := { row := packetTurnedRow, standIns := [], harness := (true, "4e9dec2152208ac99aec2497f970cfec2e32a6bfb198c90027a0c5f2c7d7dd99"), looks := false }, kinds := [], alts := [], laidByText := true, laidKinds := [.data, .data], laidTests := true, laidLooks := .later }
def PacketTurnedCardSaid : Prop := Claim7.holds Tryz.pinned (.plain (OpenSpec.ofChange packetTurnedSpec)) packetTurnedCard

/-- THE TIED CARD OF 'lagoonlaw15.PacketEnds'. -/
def packetEndsCard : Claim7 := { stood := { row := packetEndsRow, standIns := [], harness := (true, "4e9dec2152208ac99aec2497f970cfec2e32a6bfb198c90027a0c5f2c7d7dd99"), looks := false }, kinds := [], alts := [], laidByText := true, laidKinds := [.data, .data], laidTests := true, laidLooks := .later }
def PacketEndsCardSaid : Prop := Claim7.holds Tryz.pinned (.plain (OpenSpec.ofChange packetEndsSpec)) packetEndsCard

/-- THE SECOND FORM's CARD OF 'lagoonlaw15.PacketTurned'. -/
def packetTurnedUptoCard : Claim7 := { stood := { row := packetTurnedUptoRow, standIns := [], harness := (true, "4e9dec2152208ac99aec2497f970cfec2e32a6bfb198c90027a0c5f2c7d7dd99"), looks := false }, kinds := [], alts := [], laidByText := true, laidKinds := [.data, .data], laidTests := true, laidLooks := .later }
def PacketTurnedUptoCardSaid : Prop := Claim7.holds Tryz.pinned (.plain (OpenSpec.upto packetTurnedSpec)) packetTurnedUptoCard

/-- THE SECOND FORM's CARD OF 'lagoonlaw15.PacketEnds'. -/
def packetEndsUptoCard : Claim7 := { stood := { row := packetEndsUptoRow, standIns := [], harness := (true, "4e9dec2152208ac99aec2497f970cfec2e32a6bfb198c90027a0c5f2c7d7dd99"), looks := false }, kinds := [], alts := [], laidByText := true, laidKinds := [.data, .data], laidTests := true, laidLooks := .later }
def PacketEndsUptoCardSaid : Prop := Claim7.holds Tryz.pinned (.plain (OpenSpec.upto packetEndsSpec)) packetEndsUptoCard
end Rows
end Go.Proofs.YtochbjafdcbckaaGreatDoor
