/-
  No cell of these rows narrows 'for every input' (looked for: loops, veiled, ifaces, maps, wideKeys, modest, calm, conditions, laid).
  DERIVED. THE GIVEN ROWS OF THIS SEAT. 4 by the template 'for every input the law returns true; each argument reads behind the call as it read before'; 0 by the template 'total and deterministic' (their statements: YtkpdckpcnnmdkaaTotals.lean).
  GIVEN WITH THE SEED: the statements are not yours to turn. If you find one false, say at which input.
  Laid BY PROGRAM, IN A SANDBOX (cutbox-rows.mjs): the forced cells as the released guide's own fill.sh prints them over the translation ea5d8c085ccee89b… (all of the seat's roots in one cut). By AI agents, Wed Nov 11 2026. No macro, syntax, notation, axiom, sorry.
-/
import Derived.Test.YtkpdckpcnnmdkaaChecked
import GoSem.Claim
import GoSem.ClaimJoined
import GoSem.ClaimMapViews
import Derived.JoinedTies
import Derived.KernelRfl
namespace Go.Proofs.Ytkpdckpcnnmdkaa
/- THE CELL 'sum', in the pinned program and in every row, IS THE sha256 OF THE DUMP (.gsa) THAT YtkpdckpcnnmdkaaProg.lean LOADS. Nothing in Lean hashes anything: it is a label: what it is worth is what the hold of that sum in a sandbox is worth. -/
noncomputable def Try.pinned : Pinned := { name := "ytkpdckpcnnmdkaa", sum := "ea5d8c085ccee89b438b4081f38156a59705ae63d6f4197f1d6317e3ef8f1ad3", checked := Try.checked }
namespace Rows
def none {H : Type} : Left H := { results := [], args := [] }

/-- 'lagoonlaw11.ManiFalls': WHATEVER THE INPUT: true; the input reads as it did. -/
def maniFallsSpec : ChangeSpec := { name := "maniFalls", fn := fun _ => fun
  | [d] => { results := [.lit (.bool true)], args := [d] }
  | _ => none }
def maniFallsRow : OpenClaim := { program := "ytkpdckpcnnmdkaa", sum := "ea5d8c085ccee89b438b4081f38156a59705ae63d6f4197f1d6317e3ef8f1ad3", func := "lagoon/lagoonlaw11.ManiFalls", spec := "maniFalls", inPlace := ["internal/bytealg.abigen_runtime_cmpstring", "slices.overlaps[*lagoon/disk.file]", "slices.overlaps[func() lagoon/api.Errno]"], unfollowed := true, recurses := true, apart := false }
def ManiFallsSaid : Prop := maniFallsRow.holds Try.pinned (OpenSpec.ofChange maniFallsSpec)

/-- ITS FALSE NEIGHBOUR: 'it returns false'. Refute it at one input. -/
def maniFallsWrong : ChangeSpec := { name := "maniFalls", fn := fun _ => fun
  | [d] => { results := [.lit (.bool false)], args := [d] }
  | _ => none }
def ManiFallsWrongFalsely : Prop := maniFallsRow.holds Try.pinned (OpenSpec.ofChange maniFallsWrong)

/-- 'lagoonlaw11.ManiFirst': WHATEVER THE INPUT: true; the input reads as it did. -/
def maniFirstSpec : ChangeSpec := { name := "maniFirst", fn := fun _ => fun
  | [d1, d2, d3] => { results := [.lit (.bool true)], args := [d1, d2, d3] }
  | _ => none }
def maniFirstRow : OpenClaim := { program := "ytkpdckpcnnmdkaa", sum := "ea5d8c085ccee89b438b4081f38156a59705ae63d6f4197f1d6317e3ef8f1ad3", func := "lagoon/lagoonlaw11.ManiFirst", spec := "maniFirst", inPlace := ["internal/bytealg.abigen_runtime_cmpstring", "slices.overlaps[*lagoon/disk.file]", "slices.overlaps[func() lagoon/api.Errno]"], unfollowed := true, recurses := true, apart := false }
def ManiFirstSaid : Prop := maniFirstRow.holds Try.pinned (OpenSpec.ofChange maniFirstSpec)

/-- ITS FALSE NEIGHBOUR: 'it returns false'. Refute it at one input. -/
def maniFirstWrong : ChangeSpec := { name := "maniFirst", fn := fun _ => fun
  | [d1, d2, d3] => { results := [.lit (.bool false)], args := [d1, d2, d3] }
  | _ => none }
def ManiFirstWrongFalsely : Prop := maniFirstRow.holds Try.pinned (OpenSpec.ofChange maniFirstWrong)

/-- 'lagoonlaw11.ManiTurned': WHATEVER THE INPUT: true; the input reads as it did. -/
def maniTurnedSpec : ChangeSpec := { name := "maniTurned", fn := fun _ => fun
  | [d1, d2, d3] => { results := [.lit (.bool true)], args := [d1, d2, d3] }
  | _ => none }
def maniTurnedRow : OpenClaim := { program := "ytkpdckpcnnmdkaa", sum := "ea5d8c085ccee89b438b4081f38156a59705ae63d6f4197f1d6317e3ef8f1ad3", func := "lagoon/lagoonlaw11.ManiTurned", spec := "maniTurned", inPlace := ["internal/bytealg.abigen_runtime_cmpstring", "slices.overlaps[*lagoon/disk.file]", "slices.overlaps[func() lagoon/api.Errno]"], unfollowed := true, recurses := true, apart := false }
def ManiTurnedSaid : Prop := maniTurnedRow.holds Try.pinned (OpenSpec.ofChange maniTurnedSpec)

/-- ITS FALSE NEIGHBOUR: 'it returns false'. Refute it at one input. -/
def maniTurnedWrong : ChangeSpec := { name := "maniTurned", fn := fun _ => fun
  | [d1, d2, d3] => { results := [.lit (.bool false)], args := [d1, d2, d3] }
  | _ => none }
def ManiTurnedWrongFalsely : Prop := maniTurnedRow.holds Try.pinned (OpenSpec.ofChange maniTurnedWrong)

/-- 'lagoonlaw11.ManiNone': WHATEVER THE INPUT: true; the input reads as it did. -/
def maniNoneSpec : ChangeSpec := { name := "maniNone", fn := fun _ => fun
  | [d] => { results := [.lit (.bool true)], args := [d] }
  | _ => none }
def maniNoneRow : OpenClaim := { program := "ytkpdckpcnnmdkaa", sum := "ea5d8c085ccee89b438b4081f38156a59705ae63d6f4197f1d6317e3ef8f1ad3", func := "lagoon/lagoonlaw11.ManiNone", spec := "maniNone", inPlace := ["internal/bytealg.abigen_runtime_cmpstring", "slices.overlaps[*lagoon/disk.file]", "slices.overlaps[func() lagoon/api.Errno]"], unfollowed := true, recurses := true, apart := false }
def ManiNoneSaid : Prop := maniNoneRow.holds Try.pinned (OpenSpec.ofChange maniNoneSpec)

/-- ITS FALSE NEIGHBOUR: 'it returns false'. Refute it at one input. -/
def maniNoneWrong : ChangeSpec := { name := "maniNone", fn := fun _ => fun
  | [d] => { results := [.lit (.bool false)], args := [d] }
  | _ => none }
def ManiNoneWrongFalsely : Prop := maniNoneRow.holds Try.pinned (OpenSpec.ofChange maniNoneWrong)

/- THE SECOND FORM. 'bulk': how many values and letters a reading holds, each counted each time it is reached (what is shared counts as often as it is met; a slice's spare places count too). A statement '..UptoSaid' is the law's where the arguments, and the package variables that the reading takes, are together of bulk at most 1048576: NARROWER than '..Said'. Prove '..Said' where nothing that the law and all that it calls make is longer than what came in: it says more and counts as full. Else prove '..UptoSaid'. A law counts once. -/
mutual
def uptoBulk {H : Type} : DataW H → Nat
  | .lit (.string bytes) => bytes.length + 1
  | .lit _ => 1
  | .nil => 1
  | .ptr d => uptoBulk d + 1
  | .slice elems spare => uptoBulkAll elems + uptoBulkAll spare + 1
  | .agg parts => uptoBulkAll parts + 1
  | .iface _ d => uptoBulk d + 1
  | .map entries => uptoBulkEntries entries + 1
  | .held _ => 1
def uptoBulkAll {H : Type} : List (DataW H) → Nat
  | [] => 0
  | d :: r => uptoBulk d + uptoBulkAll r
def uptoBulkEntries {H : Type} : List (Lit × DataW H) → Nat
  | [] => 0
  | x :: r => uptoBulkEntry x + uptoBulkEntries r
def uptoBulkEntry {H : Type} : Lit × DataW H → Nat
  | (.string bytes, d) => bytes.length + uptoBulk d + 1
  | (_, d) => uptoBulk d + 1
 end
def uptoSmall : (H : Type) → List (DataW H) → Bool := fun _ ds => decide (uptoBulkAll ds ≤ 1048576)
def OpenSpec.upto (s : _root_.Go.ChangeSpec) : _root_.Go.OpenSpec := { _root_.Go.OpenSpec.ofChange s with cond := some uptoSmall }

/-- 'lagoonlaw11.ManiFalls', WHERE WHAT IT READS IS OF BULK AT MOST 1048576: true; the input reads as it did. -/
def maniFallsUptoRow : OpenClaim := { program := "ytkpdckpcnnmdkaa", sum := "ea5d8c085ccee89b438b4081f38156a59705ae63d6f4197f1d6317e3ef8f1ad3", func := "lagoon/lagoonlaw11.ManiFalls", spec := "maniFalls", inPlace := ["internal/bytealg.abigen_runtime_cmpstring", "slices.overlaps[*lagoon/disk.file]", "slices.overlaps[func() lagoon/api.Errno]"], unfollowed := true, recurses := true, apart := false, narrowed := true }
def ManiFallsUptoSaid : Prop := maniFallsUptoRow.holds Try.pinned (OpenSpec.upto maniFallsSpec)

/-- 'lagoonlaw11.ManiFirst', WHERE WHAT IT READS IS OF BULK AT MOST 1048576: true; the input reads as it did. -/
def maniFirstUptoRow : OpenClaim := { program := "ytkpdckpcnnmdkaa", sum := "ea5d8c085ccee89b438b4081f38156a59705ae63d6f4197f1d6317e3ef8f1ad3", func := "lagoon/lagoonlaw11.ManiFirst", spec := "maniFirst", inPlace := ["internal/bytealg.abigen_runtime_cmpstring", "slices.overlaps[*lagoon/disk.file]", "slices.overlaps[func() lagoon/api.Errno]"], unfollowed := true, recurses := true, apart := false, narrowed := true }
def ManiFirstUptoSaid : Prop := maniFirstUptoRow.holds Try.pinned (OpenSpec.upto maniFirstSpec)

/-- 'lagoonlaw11.ManiTurned', WHERE WHAT IT READS IS OF BULK AT MOST 1048576: true; the input reads as it did. -/
def maniTurnedUptoRow : OpenClaim := { program := "ytkpdckpcnnmdkaa", sum := "ea5d8c085ccee89b438b4081f38156a59705ae63d6f4197f1d6317e3ef8f1ad3", func := "lagoon/lagoonlaw11.ManiTurned", spec := "maniTurned", inPlace := ["internal/bytealg.abigen_runtime_cmpstring", "slices.overlaps[*lagoon/disk.file]", "slices.overlaps[func() lagoon/api.Errno]"], unfollowed := true, recurses := true, apart := false, narrowed := true }
def ManiTurnedUptoSaid : Prop := maniTurnedUptoRow.holds Try.pinned (OpenSpec.upto maniTurnedSpec)

/-- 'lagoonlaw11.ManiNone', WHERE WHAT IT READS IS OF BULK AT MOST 1048576: true; the input reads as it did. -/
def maniNoneUptoRow : OpenClaim := { program := "ytkpdckpcnnmdkaa", sum := "ea5d8c085ccee89b438b4081f38156a59705ae63d6f4197f1d6317e3ef8f1ad3", func := "lagoon/lagoonlaw11.ManiNone", spec := "maniNone", inPlace := ["internal/bytealg.abigen_runtime_cmpstring", "slices.overlaps[*lagoon/disk.file]", "slices.overlaps[func() lagoon/api.Errno]"], unfollowed := true, recurses := true, apart := false, narrowed := true }
def ManiNoneUptoSaid : Prop := maniNoneUptoRow.holds Try.pinned (OpenSpec.upto maniNoneSpec)

end Rows
end Go.Proofs.Ytkpdckpcnnmdkaa
