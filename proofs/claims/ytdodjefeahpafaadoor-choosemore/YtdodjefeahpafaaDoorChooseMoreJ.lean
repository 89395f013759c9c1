/- ChooseMore of the statements of layer 14 answers true for every case, every number at hand and every image: more at hand, a greater image and a greater factor never turn a choice into a copy, nor change where it begins (rounding keeps the order of floats: proved here over the model's own IEEE 754). The card: the table of what each kind of request names stands as the program's text lays it; values without a ring, as the row says. No other condition. -/
import Derived.Test.YtdodjefeahpafaaDoorCards
import Derived.Test.YtdodjefeahpafaaDoorTie
import Derived.Test.YtdodjefeahpafaaDoorChTJ
import Derived.Test.YtdodjefeahpafaaDoorChJJ
import Derived.Deep.DeepHandedRow
import Derived.SizedLaws
import Derived.Lib.LaidTab
import Derived.Lib.SmallJoins
import Derived.Stop.LaidErr
import Derived.Laws.Cover2
namespace Go.Proofs.YtdodjefeahpafaaDoor
open Go.ChangeShapes Go.WideShapes Go.ChangeAt Go.RowKit Go.Joins
set_option maxRecDepth 8000
namespace chooseMore
set_option linter.unusedVariables false

theorem own : ownKnob Tryd.prog.godebug = none := by kernel_rfl
theorem laidOut : laidOutB Tryd.prog = true := by kernel_rfl
theorem gTabType : (Tryd.prog.globals[0]?).map (·.type) = some 117 := by kernel_rfl
theorem cellsTab : Tryd.prog.cellsOf 117 = 13 := by kernel_rfl
theorem cellsElem : Tryd.prog.cellsOf 82 = 1 := by kernel_rfl
theorem cellsZ : Tryd.prog.cellsOf 30 = 2 := by kernel_rfl

/-- What the row's list gives: the table stands. -/
theorem table {W : World} (h : laidMetH Tryd.prog Rows.chooseMoreRow.laid W) : Nam W := by
  have h1 : laidMet Tryd.prog [("lagoon/txn.named", Rows.laid_lagoon_txn_named)] W := h
  exact Lib.tabIs_of_head (rest := []) nam_global gTabType Tryd.underlying117 Tryd.underlying82 cellsElem cellsTab h1

/-- What the walk gives, for all arguments and every world that holds the tables. -/
theorem contract (H : Type) (enc : TypeId × Value → H) (W : World) (base : Nat) (args : Array Value) (ds gs : List (DataW H)) (before : List MemPlace)
    (hval0 : ∀ (j : Nat) t v, Tryd.f4.params[j]? = some t → args[j]? = some v → Value.okWide Tryd.prog W .any base t v)
    (hW : DataW.Whole enc Tryd.prog Tryd.f4.params.toList Rows.chooseMoreSpec.vars false W args.toList ds gs before)
    (hsz : (DataW.weightsEach Tryd.prog (Tryd.f4.params.toList ++ (OpenSpec.ofChange Rows.chooseMoreSpec).bare.plain.varTypes Tryd.prog) (ds ++ gs)).all (· ≤ reachBytes) = true) (hL : laidMetH Tryd.prog Rows.chooseMoreRow.laid W) :
    Calls Tryd.prog 4 args W fun e W' => ∃ v, e = .returned v ∧ Rows.chooseMoreSpec.post enc Tryd.prog Tryd.f4 false true false false W args v W' := by
  have hval : ∀ (j : Nat) t v, Tryd.f4.params[j]? = some t → args[j]? = some v → Value.okWide Tryd.prog W .any base t v := hval0
  have hW' := hW
  obtain ⟨p, q, hA0, hV, rfl, hfz, hnd⟩ := hW
  have hA : DataW.TrodAll enc Tryd.prog W 0 (fun _ => true) true Tryd.f4.params.toList args.toList ds p := hA0
  rw [Tryd.params4] at hA hval hsz
  obtain ⟨v0, vs0, d0, ds0, p0, q0, hargs, rfl, rfl, h0, r0⟩ := trodAll_cons hA
  obtain ⟨v1, vs1, d1, ds1, p1, q1, rfl, rfl, rfl, h1, r1⟩ := trodAll_cons r0
  obtain ⟨v2, vs2, d2, ds2, p2, q2, rfl, rfl, rfl, h2, r2⟩ := trodAll_cons r1
  obtain ⟨rfl, rfl, rfl⟩ := trodAll_nil r2
  obtain rfl : args = #[v0, v1, v2] := by cases args; simp_all
  obtain ⟨rfl, rfl⟩ := trodVars_none hV
  have k0 := h0
  have k1 := h1
  have k2 := h2
  have lt0 : ∀ x ∈ p0, x.block < W.heap.size := by obtain ⟨m, hm⟩ := k0; exact DataW.trod_lt m _ _ _ hm
  have lt1 : ∀ x ∈ p1, x.block < W.heap.size := by obtain ⟨m, hm⟩ := k1; exact DataW.trod_lt m _ _ _ hm
  have lt2 : ∀ x ∈ p2, x.block < W.heap.size := by obtain ⟨m, hm⟩ := k2; exact DataW.trod_lt m _ _ _ hm
  obtain ⟨cs0, rfl, _⟩ := okWide_struct Tryd.underlying54 (hval 0 54 v0 rfl rfl)
  obtain ⟨pe0, pn0, se0, sn0, lv0, l0, ca0, im0, fx0, ecs0, hl0, hlg0, fb0, cab0, imb0⟩ := (by obtain ⟨fuel, hf⟩ := h0; exact open_case (show DataW.trod enc Tryd.prog W 0 (fun _ => true) true fuel 54 cs0.toList = some (d0, p0) from hf) (parts_all (t := 54) hsz 0 d0 rfl rfl) : ∃ (pe pn se sn : Int) (v : Value) (l : List TxD) (ca im : Int) (fx : Nat), cs0.toList = (caseA pe pn se sn v ca im fx).toList ∧ SeesTxs W v l ∧ (∀ t ∈ l, t.good) ∧ fx < 18446744073709551616 ∧ (-9223372036854775808 ≤ ca ∧ ca ≤ 9223372036854775807) ∧ (-9223372036854775808 ≤ im ∧ im ≤ 9223372036854775807))
  obtain rfl : cs0 = caseA pe0 pn0 se0 sn0 lv0 ca0 im0 fx0 := by rw [← Array.toArray_toList (xs := cs0), ecs0]
  obtain ⟨n1, rfl, nl1, nh1⟩ : ∃ k : Int, v1 = .int .i64 k ∧ -9223372036854775808 ≤ k ∧ k ≤ 9223372036854775807 := by
    obtain ⟨k, rfl, _, _, wk⟩ := open_int Tryd.underlying3 (hval 1 3 v1 rfl rfl) h1
    have := bounds_i64 wk
    exact ⟨k, rfl, this.1, this.2⟩
  obtain ⟨n2, rfl, nl2, nh2⟩ : ∃ k : Int, v2 = .int .i64 k ∧ -9223372036854775808 ≤ k ∧ k ≤ 9223372036854775807 := by
    obtain ⟨k, rfl, _, _, wk⟩ := open_int Tryd.underlying3 (hval 2 3 v2 rfl rfl) h2
    have := bounds_i64 wk
    exact ⟨k, rfl, this.1, this.2⟩
  clear hA0 hval0
  have ht := table hL
  have hwk := more_walk pe0 pn0 se0 sn0 lv0 l0 ca0 im0 fx0 n1 n2 W ht hl0 hlg0 fb0 nh2
  refine hwk.mono fun e W' ⟨he, bel⟩ => ?_
  subst he
  exact ⟨_, rfl, _, _, _, [], _, [], hW', trodAll_mk1 (shut_bool Tryd.underlying4 _), (trodAll_cons_mk (Below.trod laidOut (by kernel_rfl) (of_decide_eq_true (by kernel_rfl)) k0 bel lt0) (trodAll_cons_mk (Below.trod laidOut (by kernel_rfl) (of_decide_eq_true (by kernel_rfl)) k1 bel lt1) (trodAll_cons_mk (Below.trod laidOut (by kernel_rfl) (of_decide_eq_true (by kernel_rfl)) k2 bel lt2) trodAll_mk0))), rfl, bel.frame _, fun h => by cases h⟩

/-- A block of cells that holds these. -/
def lay (cs : List Value) : Obj → Obj
  | .cells _ t frozen => .cells cs.toArray t frozen
  | o => o

mutual
/-- The cells of a datum of plain numbers. -/
def flat : DataW Unit → List Value
  | .lit (.int k v) => [.int k v]
  | .agg l => flats l
  | _ => []
def flats : List (DataW Unit) → List Value
  | [] => []
  | d :: r => flat d ++ flats r
end

/-- A world for the witness: the tables hold what their initialisers lay. -/
noncomputable def laidWorld (os : Os) : World :=
  { World.holding Tryd.prog os ⟨#[], #[], []⟩ with heap := ((World.holding Tryd.prog os ⟨#[], #[], []⟩).heap.modify 0 (lay (flat Rows.laid_lagoon_txn_named))) }
theorem laid_met (os : Os) : laidMet Tryd.prog Rows.chooseMoreRow.laid ((laidWorld os).forCall (fun _ _ => 0) ⟨#[], #[.agg (caseA 0 0 0 0 (.slice none 0 0) 0 0 0), .int .i64 0, .int .i64 0], []⟩).memory :=
  laidMet_of_run' 8 (by kernel_rfl) (by kernel_rfl)
theorem reads (os : Os) {H : Type} (enc : TypeId × Value → H) : ∃ places, DataW.whole enc Tryd.prog ((laidWorld os).forCall (fun _ _ => 0) ⟨#[], #[.agg (caseA 0 0 0 0 (.slice none 0 0) 0 0 0), .int .i64 0, .int .i64 0], []⟩).memory Tryd.f4.params.toList Rows.chooseMoreSpec.vars false (#[.agg (caseA 0 0 0 0 (.slice none 0 0) 0 0 0), .int .i64 0, .int .i64 0] : Array Value).toList 8 = some ([.agg [.agg [.lit (.int .u32 0), .lit (.int .u32 0)], .agg [.lit (.int .u32 0), .lit (.int .u32 0)], .nil, .lit (.int .i64 0), .lit (.int .i64 0), .lit (.float .f64 0)], .lit (.int .i64 0), .lit (.int .i64 0)], [], places) :=
  ⟨[], by kernel_rfl⟩

set_option maxRecDepth 100000 in
theorem lifted (os : Os) (started : os.Started) (H : Type) (enc : TypeId × Value → H) (F : Stop.Interp) :
    ReturnsInHanded {} Tryd.checked os 4 .any ((OpenSpec.ofChange Rows.chooseMoreSpec).preRow enc Tryd.prog Tryd.f4 Rows.chooseMoreRow.domain false Rows.chooseMoreRow.laid) (((OpenSpec.ofChange Rows.chooseMoreSpec).at F).post enc Tryd.prog Tryd.f4 false true false false) := by
  obtain ⟨places, hx⟩ := reads os enc
  refine returnsInHanded_of_row (C := Tryd.checked) (s := OpenSpec.ofChange Rows.chooseMoreSpec) own started (by kernel_rfl) Tryd.func4
    (witness_row_at (enc := enc) (C := Tryd.checked) false (laidWorld os) #[.agg (caseA 0 0 0 0 (.slice none 0 0) 0 0 0), .int .i64 0, .int .i64 0] rfl (by kernel_rfl) (by kernel_rfl) (by kernel_rfl)
      (OpenSpec.preRow_of_cond 8 hx (by kernel_rfl) (fun k hk => by cases hk) (by kernel_rfl) (laid_met os))) ?_
  intro W base args ds gs before hval hW _ _ hsz hL _ _
  exact contract H enc W base args ds gs before hval hW hsz hL

theorem said : Rows.ChooseMoreSaid :=
  OpenClaim.holds_of_cond 4 Tryd.f4 rfl rfl rfl rfl rfl rfl rfl ⟨rfl, rfl, rfl, rfl, rfl⟩ rfl rfl rfl rfl rfl (by kernel_rfl) Tryd.func4 (by kernel_rfl)
    (of_decide_eq_true (by kernel_rfl)) (by unfold Func.isWrapper; first | (rw [if_pos (by decide +kernel)]; kernel_rfl) | (rw [if_neg (by decide +kernel)]; exact ⟨rfl, rfl⟩))
    (fun os started H enc _ F => by rw [OpenClaim.pre_eq_preRow]; exact lifted os started H enc F)

/-- No parameter wants a stand-in; the program's own looks are off. -/
theorem plain (f : FuncId) (fn : Func) (hf : Tryd.pinned.checked.prog.funcNamed "lagoon/lagoonlaw14.ChooseMore" = some f) (hfn : Tryd.pinned.checked.prog.funcs[f]? = some fn) :
    false = Tryd.pinned.checked.prog.looks [] ∧ ∀ (j : Nat) t, fn.params[j]? = some t → Tryd.pinned.checked.prog.wantsStandIn t = false := by
  obtain rfl : f = 4 := Option.some.inj ((show Tryd.prog.funcNamed "lagoon/lagoonlaw14.ChooseMore" = some 4 by kernel_rfl).symm.trans hf) |>.symm
  obtain rfl : fn = Tryd.f4 := (Option.some.inj (Tryd.func4.symm.trans hfn)).symm
  refine ⟨by kernel_rfl, fun j t ht => ?_⟩
  rw [Tryd.params4] at ht
  have hm := Array.mem_of_getElem? ht
  simp at hm
  rcases hm with rfl | rfl
  · exact (show Tryd.prog.wantsStandIn 54 = false by kernel_rfl)
  · exact (show Tryd.prog.wantsStandIn 3 = false by kernel_rfl)
end chooseMore

/-- The card. -/
theorem chooseMore_card : Rows.ChooseMoreCardSaid :=
  Claim7.holds_tied_plain_at .later [] _ _ _ _ chooseMore.said (fun _ h => by cases h) (by kernel_rfl) (fun _ h => by cases h) chooseMore_row_tie rfl ⟨rfl, rfl⟩ (by kernel_rfl) rfl chooseMore.plain (by kernel_rfl)
#print axioms chooseMore_card
end Go.Proofs.YtdodjefeahpafaaDoor
