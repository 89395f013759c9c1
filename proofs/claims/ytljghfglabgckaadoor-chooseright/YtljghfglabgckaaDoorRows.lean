/-
  NARROWER THAN 'FOR EVERY INPUT', by the rows' own cells (each row's printed sentence says how): ChooseRight: loops, laid.
  DERIVED. THE GIVEN ROWS OF THIS SEAT. 1 by the template 'for every input the law returns true; each argument reads behind the call as it read before'; 0 by the template 'total and deterministic' (their statements: YtljghfglabgckaaDoorTotals.lean).
  GIVEN WITH THE SEED: the statements are not yours to turn. If you find one false, say at which input.
  Laid BY PROGRAM, IN A SANDBOX (cutbox-rows.mjs): the forced cells as the released guide's own fill.sh prints them over the translation c4997c13f2b38af9… (all of the seat's roots in one cut). By AI agents, Wed Nov 11 2026. No macro, syntax, notation, axiom, sorry.
-/
import Derived.Test.YtljghfglabgckaaDoorChecked
import GoSem.Claim
import GoSem.ClaimJoined
import GoSem.ClaimMapViews
import Derived.JoinedTies
import Derived.KernelRfl
namespace Go.Proofs.YtljghfglabgckaaDoor
/- THE CELL 'sum', in the pinned program and in every row, IS THE sha256 OF THE DUMP (.gsa) THAT YtljghfglabgckaaDoorProg.lean LOADS. Nothing in Lean hashes anything: it is a label: what it is worth is what the hold of that sum in a sandbox is worth. -/
noncomputable def Tryd.pinned : Pinned := { name := "ytljghfglabgckaadoor", sum := "c4997c13f2b38af9e8f837727ed87f1898a304cb624ec9b3c7ce0534e531b990", checked := Tryd.checked }
namespace Rows
def none {H : Type} : Left H := { results := [], args := [] }

/- WHAT THE LISTED PACKAGE-LEVEL VARIABLES READ AS WHEN THE CALL BEGINS. Each datum BY PROGRAM (the guide's laid-datum.mjs) off the statement by which the dump's own 'gosem.cut.vars' lays the variable. In a bare row this is a premise. The card (YtljghfglabgckaaDoorCards.lean) ties it to the program's text. -/
def laid_lagoon_txn_named {H : Type} : DataW H := .agg [.lit (.int .u16 0), .lit (.int .u16 375), .lit (.int .u16 329), .lit (.int .u16 331), .lit (.int .u16 333), .lit (.int .u16 329), .lit (.int .u16 832), .lit (.int .u16 128), .lit (.int .u16 64), .lit (.int .u16 321), .lit (.int .u16 321), .lit (.int .u16 321), .lit (.int .u16 321)]

/-- 'lagoonlaw14.ChooseRight': WHATEVER THE INPUT: true; the input reads as it did. -/
def chooseRightSpec : ChangeSpec := { name := "chooseRight", fn := fun _ => fun
  | [d] => { results := [.lit (.bool true)], args := [d] }
  | _ => none }
def chooseRightRow : OpenClaim := { program := "ytljghfglabgckaadoor", sum := "c4997c13f2b38af9e8f837727ed87f1898a304cb624ec9b3c7ce0534e531b990", func := "lagoon/lagoonlaw14.ChooseRight", spec := "chooseRight", unfollowed := true, recurses := true, named := ["lagoon/txn.named"], loops := true, apart := false, laid := [("lagoon/txn.named", laid_lagoon_txn_named)] }
def ChooseRightSaid : Prop := chooseRightRow.holds Tryd.pinned (OpenSpec.ofChange chooseRightSpec)

/-- ITS FALSE NEIGHBOUR: 'it returns false'. Refute it at one input. -/
def chooseRightWrong : ChangeSpec := { name := "chooseRight", fn := fun _ => fun
  | [d] => { results := [.lit (.bool false)], args := [d] }
  | _ => none }
def ChooseRightWrongFalsely : Prop := chooseRightRow.holds Tryd.pinned (OpenSpec.ofChange chooseRightWrong)

/- THE SECOND FORM. 'bulk': how many values and letters a reading holds, each counted each time it is reached (what is shared counts as often as it is met; a slice's spare places count too). A statement '..UptoSaid' is the law's where the arguments, and the package variables that the reading takes, are together of bulk at most 1048576: NARROWER than '..Said'. Prove '..Said' where nothing that the law and all that it calls make is longer than what came in: it says more and counts as full. Else prove '..UptoSaid'. A law counts once. -/
mutual
def uptoBulk {H : Type} : DataW H → Nat
  | .lit (.string bytes) => bytes.length + 1
  | .lit _ => 1
  | .nil => 1
  | .ptr d => uptoBulk d + 1
  | .slice elems spare => uptoBulkAll elems + uptoBulkAll spare + 1
  | .agg parts => uptoBulkAll parts + 1
  | .iface _ d => uptoBulk d + 1
  | .map entries => uptoBulkEntries entries + 1
  | .held _ => 1
def uptoBulkAll {H : Type} : List (DataW H) → Nat
  | [] => 0
  | d :: r => uptoBulk d + uptoBulkAll r
def uptoBulkEntries {H : Type} : List (Lit × DataW H) → Nat
  | [] => 0
  | x :: r => uptoBulkEntry x + uptoBulkEntries r
def uptoBulkEntry {H : Type} : Lit × DataW H → Nat
  | (.string bytes, d) => bytes.length + uptoBulk d + 1
  | (_, d) => uptoBulk d + 1
 end
def uptoSmall : (H : Type) → List (DataW H) → Bool := fun _ ds => decide (uptoBulkAll ds ≤ 1048576)
def OpenSpec.upto (s : _root_.Go.ChangeSpec) : _root_.Go.OpenSpec := { _root_.Go.OpenSpec.ofChange s with cond := some uptoSmall }

/-- 'lagoonlaw14.ChooseRight', WHERE WHAT IT READS IS OF BULK AT MOST 1048576: true; the input reads as it did. -/
def chooseRightUptoRow : OpenClaim := { program := "ytljghfglabgckaadoor", sum := "c4997c13f2b38af9e8f837727ed87f1898a304cb624ec9b3c7ce0534e531b990", func := "lagoon/lagoonlaw14.ChooseRight", spec := "chooseRight", unfollowed := true, recurses := true, named := ["lagoon/txn.named"], loops := true, apart := false, laid := [("lagoon/txn.named", laid_lagoon_txn_named)], narrowed := true }
def ChooseRightUptoSaid : Prop := chooseRightUptoRow.holds Tryd.pinned (OpenSpec.upto chooseRightSpec)

end Rows
end Go.Proofs.YtljghfglabgckaaDoor
