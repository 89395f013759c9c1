/- ChooseRight of the statements of layer 14 answers true for every pair of histories, whatever is at hand, whatever image and factor: of two histories that agree up to each zxid that stands in both, where From stands in both, the follower up to From with the leader behind it is the leader, and the way says what was done. The card: the table of what each kind of request names stands as the program's text lays it; values without a ring, as the row says. No other condition. -/
import Derived.Test.YtljghfglabgckaaDoorCards
import Derived.Test.YtljghfglabgckaaDoorTie
import Derived.Test.YtljghfglabgckaaDoorChXJ
import Derived.Test.YtljghfglabgckaaDoorChYJ
import Derived.Test.YtljghfglabgckaaDoorCopyTJ
import Derived.Deep.DeepHandedRow
import Derived.SizedLaws
import Derived.Lib.LaidTab
import Derived.Lib.SmallJoins
import Derived.Stop.LaidErr
import Derived.Laws.Cover2
namespace Go.Proofs.YtljghfglabgckaaDoor
open Go.ChangeShapes Go.WideShapes Go.ChangeAt Go.RowKit Go.Joins
set_option maxRecDepth 8000
namespace chooseRight
set_option linter.unusedVariables false

theorem own : ownKnob Tryd.prog.godebug = none := by kernel_rfl
theorem laidOut : laidOutB Tryd.prog = true := by kernel_rfl
theorem gTabType : (Tryd.prog.globals[0]?).map (·.type) = some 112 := by kernel_rfl
theorem cellsTab : Tryd.prog.cellsOf 112 = 13 := by kernel_rfl
theorem cellsElem : Tryd.prog.cellsOf 77 = 1 := by kernel_rfl
theorem cellsZ : Tryd.prog.cellsOf 30 = 2 := by kernel_rfl

/-- What the row's list gives: the table stands. -/
theorem table {W : World} (h : laidMetH Tryd.prog Rows.chooseRightRow.laid W) : Nam W := by
  have h1 : laidMet Tryd.prog [("lagoon/txn.named", Rows.laid_lagoon_txn_named)] W := h
  exact Lib.tabIs_of_head (rest := []) nam_global gTabType Tryd.underlying112 Tryd.underlying77 cellsElem cellsTab h1

/-- What the walk gives, for all arguments and every world that holds the tables. -/
theorem contract (H : Type) (enc : TypeId × Value → H) (W : World) (base : Nat) (args : Array Value) (ds gs : List (DataW H)) (before : List MemPlace)
    (hval0 : ∀ (j : Nat) t v, Tryd.f3.params[j]? = some t → args[j]? = some v → Value.okWide Tryd.prog W .any base t v)
    (hW : DataW.Whole enc Tryd.prog Tryd.f3.params.toList Rows.chooseRightSpec.vars false W args.toList ds gs before)
    (hsz : (DataW.weightsEach Tryd.prog (Tryd.f3.params.toList ++ (OpenSpec.ofChange Rows.chooseRightSpec).bare.plain.varTypes Tryd.prog) (ds ++ gs)).all (· ≤ reachBytes) = true) (hL : laidMetH Tryd.prog Rows.chooseRightRow.laid W) :
    Calls Tryd.prog 3 args W fun e W' => ∃ v, e = .returned v ∧ Rows.chooseRightSpec.post enc Tryd.prog Tryd.f3 false true false false W args v W' := by
  have hval : ∀ (j : Nat) t v, Tryd.f3.params[j]? = some t → args[j]? = some v → Value.okWide Tryd.prog W .any base t v := hval0
  have hW' := hW
  obtain ⟨p, q, hA0, hV, rfl, hfz, hnd⟩ := hW
  have hA : DataW.TrodAll enc Tryd.prog W 0 (fun _ => true) true Tryd.f3.params.toList args.toList ds p := hA0
  rw [Tryd.params3] at hA hval hsz
  obtain ⟨v0, vs0, d0, ds0, p0, q0, hargs, rfl, rfl, h0, r0⟩ := trodAll_cons hA
  obtain ⟨rfl, rfl, rfl⟩ := trodAll_nil r0
  obtain rfl : args = #[v0] := by cases args; simp_all
  obtain ⟨rfl, rfl⟩ := trodVars_none hV
  have k0 := h0
  have lt0 : ∀ x ∈ p0, x.block < W.heap.size := by obtain ⟨m, hm⟩ := k0; exact DataW.trod_lt m _ _ _ hm
  obtain ⟨cs0, rfl, _⟩ := okWide_struct Tryd.underlying25 (hval 0 25 v0 rfl rfl)
  obtain ⟨va0, la0, vb0, lb0, ca0, im0, fx0, ecs0, hla0, hga0, hlb0, hgb0, fb0⟩ := (by obtain ⟨fuel, hf⟩ := h0; exact open_pair (show DataW.trod enc Tryd.prog W 0 (fun _ => true) true fuel 25 cs0.toList = some (d0, p0) from hf) (parts_all (t := 25) hsz 0 d0 rfl rfl) : ∃ (va : Value) (la : List TxD) (vb : Value) (lb : List TxD) (ca im : Int) (fx : Nat), cs0.toList = (pairA va vb ca im fx).toList ∧ SeesTxs W va la ∧ (∀ t ∈ la, t.good) ∧ SeesTxs W vb lb ∧ (∀ t ∈ lb, t.good) ∧ fx < 18446744073709551616)
  obtain rfl : cs0 = pairA va0 vb0 ca0 im0 fx0 := by rw [← Array.toArray_toList (xs := cs0), ecs0]
  clear hA0 hval0
  have ht := table hL
  have hwk := right_walk va0 vb0 la0 lb0 ca0 im0 fx0 W ht hla0 hga0 hlb0 hgb0
  refine hwk.mono fun e W' ⟨he, bel⟩ => ?_
  subst he
  exact ⟨_, rfl, _, _, _, [], _, [], hW', trodAll_mk1 (shut_bool Tryd.underlying4 _), (trodAll_cons_mk (Below.trod laidOut (by kernel_rfl) (of_decide_eq_true (by kernel_rfl)) k0 bel lt0) trodAll_mk0), rfl, bel.frame _, fun h => by cases h⟩

/-- A block of cells that holds these. -/
def lay (cs : List Value) : Obj → Obj
  | .cells _ t frozen => .cells cs.toArray t frozen
  | o => o

mutual
/-- The cells of a datum of plain numbers. -/
def flat : DataW Unit → List Value
  | .lit (.int k v) => [.int k v]
  | .agg l => flats l
  | _ => []
def flats : List (DataW Unit) → List Value
  | [] => []
  | d :: r => flat d ++ flats r
end

/-- A world for the witness: the tables hold what their initialisers lay. -/
noncomputable def laidWorld (os : Os) : World :=
  { World.holding Tryd.prog os ⟨#[], #[], []⟩ with heap := ((World.holding Tryd.prog os ⟨#[], #[], []⟩).heap.modify 0 (lay (flat Rows.laid_lagoon_txn_named))) }
theorem laid_met (os : Os) : laidMet Tryd.prog Rows.chooseRightRow.laid ((laidWorld os).forCall (fun _ _ => 0) ⟨#[], #[.agg (pairA (.slice none 0 0) (.slice none 0 0) 0 0 0)], []⟩).memory :=
  laidMet_of_run' 8 (by kernel_rfl) (by kernel_rfl)
theorem reads (os : Os) {H : Type} (enc : TypeId × Value → H) : ∃ places, DataW.whole enc Tryd.prog ((laidWorld os).forCall (fun _ _ => 0) ⟨#[], #[.agg (pairA (.slice none 0 0) (.slice none 0 0) 0 0 0)], []⟩).memory Tryd.f3.params.toList Rows.chooseRightSpec.vars false (#[.agg (pairA (.slice none 0 0) (.slice none 0 0) 0 0 0)] : Array Value).toList 8 = some ([.agg [.nil, .nil, .lit (.int .i64 0), .lit (.int .i64 0), .lit (.float .f64 0)]], [], places) :=
  ⟨[], by kernel_rfl⟩

set_option maxRecDepth 100000 in
theorem lifted (os : Os) (started : os.Started) (H : Type) (enc : TypeId × Value → H) (F : Stop.Interp) :
    ReturnsInHanded {} Tryd.checked os 3 .any ((OpenSpec.ofChange Rows.chooseRightSpec).preRow enc Tryd.prog Tryd.f3 Rows.chooseRightRow.domain false Rows.chooseRightRow.laid) (((OpenSpec.ofChange Rows.chooseRightSpec).at F).post enc Tryd.prog Tryd.f3 false true false false) := by
  obtain ⟨places, hx⟩ := reads os enc
  refine returnsInHanded_of_row (C := Tryd.checked) (s := OpenSpec.ofChange Rows.chooseRightSpec) own started (by kernel_rfl) Tryd.func3
    (witness_row_at (enc := enc) (C := Tryd.checked) false (laidWorld os) #[.agg (pairA (.slice none 0 0) (.slice none 0 0) 0 0 0)] rfl (by kernel_rfl) (by kernel_rfl) (by kernel_rfl)
      (OpenSpec.preRow_of_cond 8 hx (by kernel_rfl) (fun k hk => by cases hk) (by kernel_rfl) (laid_met os))) ?_
  intro W base args ds gs before hval hW _ _ hsz hL _ _
  exact contract H enc W base args ds gs before hval hW hsz hL

theorem said : Rows.ChooseRightSaid :=
  OpenClaim.holds_of_cond 3 Tryd.f3 rfl rfl rfl rfl rfl rfl rfl ⟨rfl, rfl, rfl, rfl, rfl⟩ rfl rfl rfl rfl rfl (by kernel_rfl) Tryd.func3 (by kernel_rfl)
    (of_decide_eq_true (by kernel_rfl)) (by unfold Func.isWrapper; first | (rw [if_pos (by decide +kernel)]; kernel_rfl) | (rw [if_neg (by decide +kernel)]; exact ⟨rfl, rfl⟩))
    (fun os started H enc _ F => by rw [OpenClaim.pre_eq_preRow]; exact lifted os started H enc F)

/-- No parameter wants a stand-in; the program's own looks are off. -/
theorem plain (f : FuncId) (fn : Func) (hf : Tryd.pinned.checked.prog.funcNamed "lagoon/lagoonlaw14.ChooseRight" = some f) (hfn : Tryd.pinned.checked.prog.funcs[f]? = some fn) :
    false = Tryd.pinned.checked.prog.looks [] ∧ ∀ (j : Nat) t, fn.params[j]? = some t → Tryd.pinned.checked.prog.wantsStandIn t = false := by
  obtain rfl : f = 3 := Option.some.inj ((show Tryd.prog.funcNamed "lagoon/lagoonlaw14.ChooseRight" = some 3 by kernel_rfl).symm.trans hf) |>.symm
  obtain rfl : fn = Tryd.f3 := (Option.some.inj (Tryd.func3.symm.trans hfn)).symm
  refine ⟨by kernel_rfl, fun j t ht => ?_⟩
  rw [Tryd.params3] at ht
  have hm := Array.mem_of_getElem? ht
  simp at hm
  subst hm
  exact (show Tryd.prog.wantsStandIn 25 = false by kernel_rfl)
end chooseRight

/-- The card. -/
theorem chooseRight_card : Rows.ChooseRightCardSaid :=
  Claim7.holds_tied_plain_at .later [] _ _ _ _ chooseRight.said (fun _ h => by cases h) (by kernel_rfl) (fun _ h => by cases h) chooseRight_row_tie rfl ⟨rfl, rfl⟩ (by kernel_rfl) rfl chooseRight.plain (by kernel_rfl)
#print axioms chooseRight_card
end Go.Proofs.YtljghfglabgckaaDoor
