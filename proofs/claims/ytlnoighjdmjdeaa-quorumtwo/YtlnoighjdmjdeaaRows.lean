/-
  No cell of these rows narrows 'for every input' (looked for: loops, veiled, ifaces, maps, wideKeys, modest, calm, conditions, laid).
  DERIVED. THE GIVEN ROWS OF THIS SEAT. 5 by the template 'for every input the law returns true; each argument reads behind the call as it read before'; 0 by the template 'total and deterministic' (their statements: YtlnoighjdmjdeaaTotals.lean).
  GIVEN WITH THE SEED: the statements are not yours to turn. If you find one false, say at which input.
  Laid BY PROGRAM, IN A SANDBOX (cutbox-rows.mjs): the forced cells as the released guide's own fill.sh prints them over the translation 820ab976ee8f3686… (all of the seat's roots in one cut). By AI agents, Wed Nov 11 2026. No macro, syntax, notation, axiom, sorry.
-/
import Derived.Test.YtlnoighjdmjdeaaChecked
import GoSem.Claim
import GoSem.ClaimJoined
import GoSem.ClaimMapViews
import Derived.JoinedTies
import Derived.KernelRfl
namespace Go.Proofs.Ytlnoighjdmjdeaa
/- THE CELL 'sum', in the pinned program and in every row, IS THE sha256 OF THE DUMP (.gsa) THAT YtlnoighjdmjdeaaProg.lean LOADS. Nothing in Lean hashes anything: it is a label: what it is worth is what the hold of that sum in a sandbox is worth. -/
noncomputable def Try.pinned : Pinned := { name := "ytlnoighjdmjdeaa", sum := "820ab976ee8f368671f0e1f523c8e70c7451d329467172300219a6add524143e", checked := Try.checked }
namespace Rows
def none {H : Type} : Left H := { results := [], args := [] }

/-- 'lagoonlaw20.QuorumAcks': WHATEVER THE INPUT: true; the input reads as it did. -/
def quorumAcksSpec : ChangeSpec := { name := "quorumAcks", fn := fun _ => fun
  | [d1, d2, d3] => { results := [.lit (.bool true)], args := [d1, d2, d3] }
  | _ => none }
def quorumAcksRow : OpenClaim := { program := "ytlnoighjdmjdeaa", sum := "820ab976ee8f368671f0e1f523c8e70c7451d329467172300219a6add524143e", func := "lagoon/lagoonlaw20.QuorumAcks", spec := "quorumAcks", apart := false }
def QuorumAcksSaid : Prop := quorumAcksRow.holds Try.pinned (OpenSpec.ofChange quorumAcksSpec)

/-- ITS FALSE NEIGHBOUR: 'it returns false'. Refute it at one input. -/
def quorumAcksWrong : ChangeSpec := { name := "quorumAcks", fn := fun _ => fun
  | [d1, d2, d3] => { results := [.lit (.bool false)], args := [d1, d2, d3] }
  | _ => none }
def QuorumAcksWrongFalsely : Prop := quorumAcksRow.holds Try.pinned (OpenSpec.ofChange quorumAcksWrong)

/-- 'lagoonlaw20.QuorumTwo': WHATEVER THE INPUT: true; the input reads as it did. -/
def quorumTwoSpec : ChangeSpec := { name := "quorumTwo", fn := fun _ => fun
  | [d] => { results := [.lit (.bool true)], args := [d] }
  | _ => none }
def quorumTwoRow : OpenClaim := { program := "ytlnoighjdmjdeaa", sum := "820ab976ee8f368671f0e1f523c8e70c7451d329467172300219a6add524143e", func := "lagoon/lagoonlaw20.QuorumTwo", spec := "quorumTwo", apart := false }
def QuorumTwoSaid : Prop := quorumTwoRow.holds Try.pinned (OpenSpec.ofChange quorumTwoSpec)

/-- ITS FALSE NEIGHBOUR: 'it returns false'. Refute it at one input. -/
def quorumTwoWrong : ChangeSpec := { name := "quorumTwo", fn := fun _ => fun
  | [d] => { results := [.lit (.bool false)], args := [d] }
  | _ => none }
def QuorumTwoWrongFalsely : Prop := quorumTwoRow.holds Try.pinned (OpenSpec.ofChange quorumTwoWrong)

/-- 'lagoonlaw20.QuorumMeets': WHATEVER THE INPUT: true; the input reads as it did. -/
def quorumMeetsSpec : ChangeSpec := { name := "quorumMeets", fn := fun _ => fun
  | [d] => { results := [.lit (.bool true)], args := [d] }
  | _ => none }
def quorumMeetsRow : OpenClaim := { program := "ytlnoighjdmjdeaa", sum := "820ab976ee8f368671f0e1f523c8e70c7451d329467172300219a6add524143e", func := "lagoon/lagoonlaw20.QuorumMeets", spec := "quorumMeets", apart := false }
def QuorumMeetsSaid : Prop := quorumMeetsRow.holds Try.pinned (OpenSpec.ofChange quorumMeetsSpec)

/-- ITS FALSE NEIGHBOUR: 'it returns false'. Refute it at one input. -/
def quorumMeetsWrong : ChangeSpec := { name := "quorumMeets", fn := fun _ => fun
  | [d] => { results := [.lit (.bool false)], args := [d] }
  | _ => none }
def QuorumMeetsWrongFalsely : Prop := quorumMeetsRow.holds Try.pinned (OpenSpec.ofChange quorumMeetsWrong)

/-- 'lagoonlaw20.QuorumRises': WHATEVER THE INPUT: true; the input reads as it did. -/
def quorumRisesSpec : ChangeSpec := { name := "quorumRises", fn := fun _ => fun
  | [d1, d2, d3] => { results := [.lit (.bool true)], args := [d1, d2, d3] }
  | _ => none }
def quorumRisesRow : OpenClaim := { program := "ytlnoighjdmjdeaa", sum := "820ab976ee8f368671f0e1f523c8e70c7451d329467172300219a6add524143e", func := "lagoon/lagoonlaw20.QuorumRises", spec := "quorumRises", apart := false }
def QuorumRisesSaid : Prop := quorumRisesRow.holds Try.pinned (OpenSpec.ofChange quorumRisesSpec)

/-- ITS FALSE NEIGHBOUR: 'it returns false'. Refute it at one input. -/
def quorumRisesWrong : ChangeSpec := { name := "quorumRises", fn := fun _ => fun
  | [d1, d2, d3] => { results := [.lit (.bool false)], args := [d1, d2, d3] }
  | _ => none }
def QuorumRisesWrongFalsely : Prop := quorumRisesRow.holds Try.pinned (OpenSpec.ofChange quorumRisesWrong)

/-- 'lagoonlaw20.QuorumNone': WHATEVER THE INPUT: true; the input reads as it did. -/
def quorumNoneSpec : ChangeSpec := { name := "quorumNone", fn := fun _ => fun
  | [d1, d2, d3] => { results := [.lit (.bool true)], args := [d1, d2, d3] }
  | _ => none }
def quorumNoneRow : OpenClaim := { program := "ytlnoighjdmjdeaa", sum := "820ab976ee8f368671f0e1f523c8e70c7451d329467172300219a6add524143e", func := "lagoon/lagoonlaw20.QuorumNone", spec := "quorumNone", apart := false }
def QuorumNoneSaid : Prop := quorumNoneRow.holds Try.pinned (OpenSpec.ofChange quorumNoneSpec)

/-- ITS FALSE NEIGHBOUR: 'it returns false'. Refute it at one input. -/
def quorumNoneWrong : ChangeSpec := { name := "quorumNone", fn := fun _ => fun
  | [d1, d2, d3] => { results := [.lit (.bool false)], args := [d1, d2, d3] }
  | _ => none }
def QuorumNoneWrongFalsely : Prop := quorumNoneRow.holds Try.pinned (OpenSpec.ofChange quorumNoneWrong)

/- THE SECOND FORM. 'bulk': how many values and letters a reading holds, each counted each time it is reached (what is shared counts as often as it is met; a slice's spare places count too). A statement '..UptoSaid' is the law's where the arguments, and the package variables that the reading takes, are together of bulk at most 1048576: NARROWER than '..Said'. Prove '..Said' where nothing that the law and all that it calls make is longer than what came in: it says more and counts as full. Else prove '..UptoSaid'. A law counts once. -/
mutual
def uptoBulk {H : Type} : DataW H → Nat
  | .lit (.string bytes) => bytes.length + 1
  | .lit _ => 1
  | .nil => 1
  | .ptr d => uptoBulk d + 1
  | .slice elems spare => uptoBulkAll elems + uptoBulkAll spare + 1
  | .agg parts => uptoBulkAll parts + 1
  | .iface _ d => uptoBulk d + 1
  | .map entries => uptoBulkEntries entries + 1
  | .held _ => 1
def uptoBulkAll {H : Type} : List (DataW H) → Nat
  | [] => 0
  | d :: r => uptoBulk d + uptoBulkAll r
def uptoBulkEntries {H : Type} : List (Lit × DataW H) → Nat
  | [] => 0
  | x :: r => uptoBulkEntry x + uptoBulkEntries r
def uptoBulkEntry {H : Type} : Lit × DataW H → Nat
  | (.string bytes, d) => bytes.length + uptoBulk d + 1
  | (_, d) => uptoBulk d + 1
 end
def uptoSmall : (H : Type) → List (DataW H) → Bool := fun _ ds => decide (uptoBulkAll ds ≤ 1048576)
def OpenSpec.upto (s : _root_.Go.ChangeSpec) : _root_.Go.OpenSpec := { _root_.Go.OpenSpec.ofChange s with cond := some uptoSmall }

/-- 'lagoonlaw20.QuorumAcks', WHERE WHAT IT READS IS OF BULK AT MOST 1048576: true; the input reads as it did. -/
def quorumAcksUptoRow : OpenClaim := { program := "ytlnoighjdmjdeaa", sum := "820ab976ee8f368671f0e1f523c8e70c7451d329467172300219a6add524143e", func := "lagoon/lagoonlaw20.QuorumAcks", spec := "quorumAcks", apart := false, narrowed := true }
def QuorumAcksUptoSaid : Prop := quorumAcksUptoRow.holds Try.pinned (OpenSpec.upto quorumAcksSpec)

/-- 'lagoonlaw20.QuorumTwo', WHERE WHAT IT READS IS OF BULK AT MOST 1048576: true; the input reads as it did. -/
def quorumTwoUptoRow : OpenClaim := { program := "ytlnoighjdmjdeaa", sum := "820ab976ee8f368671f0e1f523c8e70c7451d329467172300219a6add524143e", func := "lagoon/lagoonlaw20.QuorumTwo", spec := "quorumTwo", apart := false, narrowed := true }
def QuorumTwoUptoSaid : Prop := quorumTwoUptoRow.holds Try.pinned (OpenSpec.upto quorumTwoSpec)

/-- 'lagoonlaw20.QuorumMeets', WHERE WHAT IT READS IS OF BULK AT MOST 1048576: true; the input reads as it did. -/
def quorumMeetsUptoRow : OpenClaim := { program := "ytlnoighjdmjdeaa", sum := "820ab976ee8f368671f0e1f523c8e70c7451d329467172300219a6add524143e", func := "lagoon/lagoonlaw20.QuorumMeets", spec := "quorumMeets", apart := false, narrowed := true }
def QuorumMeetsUptoSaid : Prop := quorumMeetsUptoRow.holds Try.pinned (OpenSpec.upto quorumMeetsSpec)

/-- 'lagoonlaw20.QuorumRises', WHERE WHAT IT READS IS OF BULK AT MOST 1048576: true; the input reads as it did. -/
def quorumRisesUptoRow : OpenClaim := { program := "ytlnoighjdmjdeaa", sum := "820ab976ee8f368671f0e1f523c8e70c7451d329467172300219a6add524143e", func := "lagoon/lagoonlaw20.QuorumRises", spec := "quorumRises", apart := false, narrowed := true }
def QuorumRisesUptoSaid : Prop := quorumRisesUptoRow.holds Try.pinned (OpenSpec.upto quorumRisesSpec)

/-- 'lagoonlaw20.QuorumNone', WHERE WHAT IT READS IS OF BULK AT MOST 1048576: true; the input reads as it did. -/
def quorumNoneUptoRow : OpenClaim := { program := "ytlnoighjdmjdeaa", sum := "820ab976ee8f368671f0e1f523c8e70c7451d329467172300219a6add524143e", func := "lagoon/lagoonlaw20.QuorumNone", spec := "quorumNone", apart := false, narrowed := true }
def QuorumNoneUptoSaid : Prop := quorumNoneUptoRow.holds Try.pinned (OpenSpec.upto quorumNoneSpec)

end Rows
end Go.Proofs.Ytlnoighjdmjdeaa
