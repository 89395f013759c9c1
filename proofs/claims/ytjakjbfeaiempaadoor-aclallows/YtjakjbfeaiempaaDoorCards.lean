/-
  DERIVED. GIVEN WITH THE SEED: THE CARDS: each row of YtjakjbfeaiempaaDoorRows.lean that lists a variable, with what it lists TIED to the program's text (the seventh form; the later family's looks); each row that meets fmt, with fmt's text TOLD by the authors' own Lean function (tested against real Go, not proved from fmt's source: count such statements apart). THE CARD IS WHAT COUNTS. Prove the row's statement (the work); the ties are given (YtjakjbfeaiempaaDoorTie.lean); close each card by the builder's one call (the guide's Derived/Test/ToyasCard.lean, 'card_holds'). Laid BY PROGRAM, IN A SANDBOX (cutbox-door.mjs). By AI agents, Wed Nov 11 2026. No macro, syntax, notation, axiom, sorry.
-/
import Derived.Test.YtjakjbfeaiempaaDoorRows
import GoSem.ClaimSeven
namespace Go.Proofs.YtjakjbfeaiempaaDoor
namespace Rows

/-- THE TIED CARD OF 'lagoonlaw06.AclChecks'. -/
def aclChecksCard : Claim7 := { stood := { row := aclChecksRow, standIns := [], harness := (true, "9e48a0311ca532b9d0415edde0924f4784a632f91e3c1976447acf41b0dd6941"), looks := false }, kinds := [], alts := [], laidByText := true, laidKinds := [.data, .data, .data, .data, .pinned], laidTests := true, laidLooks := .later }
def AclChecksCardSaid : Prop := Claim7.holds Tryd.pinned (.plain (OpenSpec.ofChange aclChecksSpec)) aclChecksCard

/-- THE TIED CARD OF 'lagoonlaw06.AclAllows'. -/
def aclAllowsCard : Claim7 := { stood := { row := aclAllowsRow, standIns := [], harness := (true, "9e48a0311ca532b9d0415edde0924f4784a632f91e3c1976447acf41b0dd6941"), looks := false }, kinds := [], alts := [], laidByText := true, laidKinds := [.data, .data, .data, .data, .pinned], laidTests := true, laidLooks := .later }
def AclAllowsCardSaid : Prop := Claim7.holds Tryd.pinned (.plain (OpenSpec.ofChange aclAllowsSpec)) aclAllowsCard

/-- THE SECOND FORM's CARD OF 'lagoonlaw06.AclChecks'. -/
def aclChecksUptoCard : Claim7 := { stood := { row := aclChecksUptoRow, standIns := [], harness := (true, "9e48a0311ca532b9d0415edde0924f4784a632f91e3c1976447acf41b0dd6941"), looks := false }, kinds := [], alts := [], laidByText := true, laidKinds := [.data, .data, .data, .data, .pinned], laidTests := true, laidLooks := .later }
def AclChecksUptoCardSaid : Prop := Claim7.holds Tryd.pinned (.plain (OpenSpec.upto aclChecksSpec)) aclChecksUptoCard

/-- THE SECOND FORM's CARD OF 'lagoonlaw06.AclAllows'. -/
def aclAllowsUptoCard : Claim7 := { stood := { row := aclAllowsUptoRow, standIns := [], harness := (true, "9e48a0311ca532b9d0415edde0924f4784a632f91e3c1976447acf41b0dd6941"), looks := false }, kinds := [], alts := [], laidByText := true, laidKinds := [.data, .data, .data, .data, .pinned], laidTests := true, laidLooks := .later }
def AclAllowsUptoCardSaid : Prop := Claim7.holds Tryd.pinned (.plain (OpenSpec.upto aclAllowsSpec)) aclAllowsUptoCard
end Rows
end Go.Proofs.YtjakjbfeaiempaaDoor
