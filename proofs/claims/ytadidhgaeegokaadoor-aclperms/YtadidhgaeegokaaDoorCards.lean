/-
  DERIVED. GIVEN WITH THE SEED: THE CARDS: each row of YtadidhgaeegokaaDoorRows.lean that lists a variable, with what it lists TIED to the program's text (the seventh form; the later family's looks); each row that meets fmt, with fmt's text TOLD by the authors' own Lean function (tested against real Go, not proved from fmt's source: count such statements apart). THE CARD IS WHAT COUNTS. Prove the row's statement (the work); the ties are given (YtadidhgaeegokaaDoorTie.lean); close each card by the builder's one call (the guide's Derived/Test/ToyasCard.lean, 'card_holds'). Laid BY PROGRAM, IN A SANDBOX (cutbox-door.mjs). By AI agents, Wed Nov 11 2026. No macro, syntax, notation, axiom, sorry.
-/
import Derived.Test.YtadidhgaeegokaaDoorRows
import GoSem.ClaimSeven
namespace Go.Proofs.YtadidhgaeegokaaDoor
namespace Rows

/-- THE TIED CARD OF 'lagoonlaw06.AclMeets'. -/
def aclMeetsCard : Claim7 := { stood := { row := aclMeetsRow, standIns := [], harness := (true, "678f3245773786d8da515f8731b713937e3deec13a1b778e33b34689ea11748a"), looks := false }, kinds := [], alts := [], laidByText := true, laidKinds := [.data, .pinned], laidTests := true, laidLooks := .later }
def AclMeetsCardSaid : Prop := Claim7.holds Tryd.pinned (.plain (OpenSpec.ofChange aclMeetsSpec)) aclMeetsCard

/-- THE TIED CARD OF 'lagoonlaw06.AclPerms'. -/
def aclPermsCard : Claim7 := { stood := { row := aclPermsRow, standIns := [], harness := (true, "678f3245773786d8da515f8731b713937e3deec13a1b778e33b34689ea11748a"), looks := false }, kinds := [], alts := [], laidByText := true, laidKinds := [.data, .data, .pinned], laidTests := true, laidLooks := .later }
def AclPermsCardSaid : Prop := Claim7.holds Tryd.pinned (.plain (OpenSpec.ofChange aclPermsSpec)) aclPermsCard

/-- THE SECOND FORM's CARD OF 'lagoonlaw06.AclMeets'. -/
def aclMeetsUptoCard : Claim7 := { stood := { row := aclMeetsUptoRow, standIns := [], harness := (true, "678f3245773786d8da515f8731b713937e3deec13a1b778e33b34689ea11748a"), looks := false }, kinds := [], alts := [], laidByText := true, laidKinds := [.data, .pinned], laidTests := true, laidLooks := .later }
def AclMeetsUptoCardSaid : Prop := Claim7.holds Tryd.pinned (.plain (OpenSpec.upto aclMeetsSpec)) aclMeetsUptoCard

/-- THE SECOND FORM's CARD OF 'lagoonlaw06.AclPerms'. -/
def aclPermsUptoCard : Claim7 := { stood := { row := aclPermsUptoRow, standIns := [], harness := (true, "678f3245773786d8da515f8731b713937e3deec13a1b778e33b34689ea11748a"), looks := false }, kinds := [], alts := [], laidByText := true, laidKinds := [.data, .data, .pinned], laidTests := true, laidLooks := .later }
def AclPermsUptoCardSaid : Prop := Claim7.holds Tryd.pinned (.plain (OpenSpec.upto aclPermsSpec)) aclPermsUptoCard
end Rows
end Go.Proofs.YtadidhgaeegokaaDoor
