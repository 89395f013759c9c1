/-
  NARROWER THAN 'FOR EVERY INPUT', by the rows' own cells (each row's printed sentence says how): TxnOne: laid · TxnStairs: loops, laid.
  DERIVED. THE GIVEN ROWS OF THIS SEAT. 2 by the template 'for every input the law returns true; each argument reads behind the call as it read before'; 0 by the template 'total and deterministic' (their statements: YtddecdnidiliaabDoorTotals.lean).
  GIVEN WITH THE SEED: the statements are not yours to turn. If you find one false, say at which input.
  Laid BY PROGRAM, IN A SANDBOX (cutbox-rows.mjs): the forced cells as the released guide's own fill.sh prints them over the translation b89835e7cd3c49a5… (all of the seat's roots in one cut). By AI agents, Wed Nov 11 2026. No macro, syntax, notation, axiom, sorry.
-/
import Derived.Test.YtddecdnidiliaabDoorChecked
import GoSem.Claim
import GoSem.ClaimJoined
import GoSem.ClaimMapViews
import Derived.JoinedTies
import Derived.KernelRfl
namespace Go.Proofs.YtddecdnidiliaabDoor
/- THE CELL 'sum', in the pinned program and in every row, IS THE sha256 OF THE DUMP (.gsa) THAT YtddecdnidiliaabDoorProg.lean LOADS. Nothing in Lean hashes anything: it is a label: what it is worth is what the hold of that sum in a sandbox is worth. -/
noncomputable def Tryd.pinned : Pinned := { name := "ytddecdnidiliaabdoor", sum := "b89835e7cd3c49a5b16695558fa934002fe727449687cb5a836ec75b71f0d7e3", checked := Tryd.checked }
namespace Rows
def none {H : Type} : Left H := { results := [], args := [] }

/- WHAT THE LISTED PACKAGE-LEVEL VARIABLES READ AS WHEN THE CALL BEGINS. Each datum BY PROGRAM (the guide's laid-datum.mjs) off the statement by which the dump's own 'gosem.cut.vars' lays the variable. In a bare row this is a premise. The card (YtddecdnidiliaabDoorCards.lean) ties it to the program's text. -/
def laid_lagoon_txn_named {H : Type} : DataW H := .agg [.lit (.int .u16 0), .lit (.int .u16 375), .lit (.int .u16 329), .lit (.int .u16 331), .lit (.int .u16 333), .lit (.int .u16 329), .lit (.int .u16 832), .lit (.int .u16 128), .lit (.int .u16 64), .lit (.int .u16 321), .lit (.int .u16 321), .lit (.int .u16 321), .lit (.int .u16 321)]

/-- 'lagoonlaw04.TxnOne': WHATEVER THE INPUT: true; the input reads as it did. -/
def txnOneSpec : ChangeSpec := { name := "txnOne", fn := fun _ => fun
  | [d1, d2, d3] => { results := [.lit (.bool true)], args := [d1, d2, d3] }
  | _ => none }
def txnOneRow : OpenClaim := { program := "ytddecdnidiliaabdoor", sum := "b89835e7cd3c49a5b16695558fa934002fe727449687cb5a836ec75b71f0d7e3", func := "lagoon/lagoonlaw04.TxnOne", spec := "txnOne", unfollowed := true, recurses := true, named := ["lagoon/txn.named"], apart := false, laid := [("lagoon/txn.named", laid_lagoon_txn_named)] }
def TxnOneSaid : Prop := txnOneRow.holds Tryd.pinned (OpenSpec.ofChange txnOneSpec)

/-- ITS FALSE NEIGHBOUR: 'it returns false'. Refute it at one input. -/
def txnOneWrong : ChangeSpec := { name := "txnOne", fn := fun _ => fun
  | [d1, d2, d3] => { results := [.lit (.bool false)], args := [d1, d2, d3] }
  | _ => none }
def TxnOneWrongFalsely : Prop := txnOneRow.holds Tryd.pinned (OpenSpec.ofChange txnOneWrong)

/-- 'lagoonlaw04.TxnStairs': WHATEVER THE INPUT: true; the input reads as it did. -/
def txnStairsSpec : ChangeSpec := { name := "txnStairs", fn := fun _ => fun
  | [d1, d2, d3] => { results := [.lit (.bool true)], args := [d1, d2, d3] }
  | _ => none }
def txnStairsRow : OpenClaim := { program := "ytddecdnidiliaabdoor", sum := "b89835e7cd3c49a5b16695558fa934002fe727449687cb5a836ec75b71f0d7e3", func := "lagoon/lagoonlaw04.TxnStairs", spec := "txnStairs", unfollowed := true, recurses := true, named := ["lagoon/txn.named"], loops := true, apart := false, laid := [("lagoon/txn.named", laid_lagoon_txn_named)] }
def TxnStairsSaid : Prop := txnStairsRow.holds Tryd.pinned (OpenSpec.ofChange txnStairsSpec)

/-- ITS FALSE NEIGHBOUR: 'it returns false'. Refute it at one input. -/
def txnStairsWrong : ChangeSpec := { name := "txnStairs", fn := fun _ => fun
  | [d1, d2, d3] => { results := [.lit (.bool false)], args := [d1, d2, d3] }
  | _ => none }
def TxnStairsWrongFalsely : Prop := txnStairsRow.holds Tryd.pinned (OpenSpec.ofChange txnStairsWrong)

/- THE SECOND FORM. 'bulk': how many values and letters a reading holds, each counted each time it is reached (what is shared counts as often as it is met; a slice's spare places count too). A statement '..UptoSaid' is the law's where the arguments, and the package variables that the reading takes, are together of bulk at most 1048576: NARROWER than '..Said'. Prove '..Said' where nothing that the law and all that it calls make is longer than what came in: it says more and counts as full. Else prove '..UptoSaid'. A law counts once. -/
mutual
def uptoBulk {H : Type} : DataW H → Nat
  | .lit (.string bytes) => bytes.length + 1
  | .lit _ => 1
  | .nil => 1
  | .ptr d => uptoBulk d + 1
  | .slice elems spare => uptoBulkAll elems + uptoBulkAll spare + 1
  | .agg parts => uptoBulkAll parts + 1
  | .iface _ d => uptoBulk d + 1
  | .map entries => uptoBulkEntries entries + 1
  | .held _ => 1
def uptoBulkAll {H : Type} : List (DataW H) → Nat
  | [] => 0
  | d :: r => uptoBulk d + uptoBulkAll r
def uptoBulkEntries {H : Type} : List (Lit × DataW H) → Nat
  | [] => 0
  | x :: r => uptoBulkEntry x + uptoBulkEntries r
def uptoBulkEntry {H : Type} : Lit × DataW H → Nat
  | (.string bytes, d) => bytes.length + uptoBulk d + 1
  | (_, d) => uptoBulk d + 1
 end
def uptoSmall : (H : Type) → List (DataW H) → Bool := fun _ ds => decide (uptoBulkAll ds ≤ 1048576)
def OpenSpec.upto (s : _root_.Go.ChangeSpec) : _root_.Go.OpenSpec := { _root_.Go.OpenSpec.ofChange s with cond := some uptoSmall }

/-- 'lagoonlaw04.TxnOne', WHERE WHAT IT READS IS OF BULK AT MOST 1048576: true; the input reads as it did. -/
def txnOneUptoRow : OpenClaim := { program := "ytddecdnidiliaabdoor", sum := "b89835e7cd3c49a5b16695558fa934002fe727449687cb5a836ec75b71f0d7e3", func := "lagoon/lagoonlaw04.TxnOne", spec := "txnOne", unfollowed := true, recurses := true, named := ["lagoon/txn.named"], apart := false, laid := [("lagoon/txn.named", laid_lagoon_txn_named)], narrowed := true }
def TxnOneUptoSaid : Prop := txnOneUptoRow.holds Tryd.pinned (OpenSpec.upto txnOneSpec)

/-- 'lagoonlaw04.TxnStairs', WHERE WHAT IT READS IS OF BULK AT MOST 1048576: true; the input reads as it did. -/
def txnStairsUptoRow : OpenClaim := { program := "ytddecdnidiliaabdoor", sum := "b89835e7cd3c49a5b16695558fa934002fe727449687cb5a836ec75b71f0d7e3", func := "lagoon/lagoonlaw04.TxnStairs", spec := "txnStairs", unfollowed := true, recurses := true, named := ["lagoon/txn.named"], loops := true, apart := false, laid := [("lagoon/txn.named", laid_lagoon_txn_named)], narrowed := true }
def TxnStairsUptoSaid : Prop := txnStairsUptoRow.holds Tryd.pinned (OpenSpec.upto txnStairsSpec)

end Rows
end Go.Proofs.YtddecdnidiliaabDoor
