/- TxnSame of the statements of layer 4 answers true for every two transactions: txn.Same answers whether they are the same, txn.Clone answers a twin that shares nothing, and what is handed in stays, its spare room too. The card: the table of what each kind of request names and strconv's table of powers of ten stand as the program's text lays them; values without a ring, as the row says. No other condition. -/
import Derived.Test.YtoeialngbbfoeaaGreatDoorCards
import Derived.Test.YtoeialngbbfoeaaGreatDoorTie
import Derived.Test.YtoeialngbbfoeaaGreatDoorBqNJ
import Derived.Test.YtoeialngbbfoeaaGreatDoorTxOpenJ
import Derived.Deep.DeepHandedRow
import Derived.SizedLaws
import Derived.Lib.LaidTab
import Derived.Lib.SmallJoins
import Derived.Stop.LaidErr
import Derived.Laws.Cover2
namespace Go.Proofs.YtoeialngbbfoeaaGreatDoor
open Go.ChangeShapes Go.WideShapes Go.ChangeAt Go.RowKit Go.Joins
set_option maxRecDepth 8000
namespace txnSame
set_option linter.unusedVariables false

theorem own : ownKnob Tryz.prog.godebug = none := by kernel_rfl
theorem laidOut : laidOutB Tryz.prog = true := by kernel_rfl
theorem gTabType : (Tryz.prog.globals[0]?).map (·.type) = some 228 := by kernel_rfl
theorem cellsTab : Tryz.prog.cellsOf 228 = 13 := by kernel_rfl
theorem cellsElem : Tryz.prog.cellsOf 112 = 1 := by kernel_rfl
theorem cellsZ : Tryz.prog.cellsOf 24 = 2 := by kernel_rfl
theorem gPowType : (Tryz.prog.globals[1]?).map (·.type) = some 253 := by kernel_rfl
theorem cellsPow : Tryz.prog.cellsOf 253 = 20 := by kernel_rfl
theorem cellsPowElem : Tryz.prog.cellsOf 205 = 1 := by kernel_rfl

/-- What the row's list gives: the tables stand. -/
theorem table {W : World} (h : laidMetH Tryz.prog Rows.txnSameRow.laid W) : Nam W ∧ Tab W := by
  have h1 : laidMet Tryz.prog [("math/bits.deBruijn32tab", Rows.laid_math_bits_deBruijn32tab), ("math/bits.deBruijn64tab", Rows.laid_math_bits_deBruijn64tab), ("internal/strconv.uint64pow10", Rows.laid_internal_strconv_uint64pow10), ("lagoon/txn.named", Rows.laid_lagoon_txn_named)] W := h
  exact ⟨Lib.tabIs_of_head nam_global gTabType Tryz.underlying228 Tryz.underlying112 cellsElem cellsTab (laidMet.tail (laidMet.tail (laidMet.tail h1))),
    Lib.tabIs_of_head tab_global gPowType Tryz.underlying253 Tryz.underlying205 cellsPowElem cellsPow (laidMet.tail (laidMet.tail h1))⟩

theorem tab_lt {W : World} (h : Tab W) : 1 < W.heap.size := by
  have := World.block_lt_of_cell? W _ (Lib.TabIs.cell h tab_global 0 (by decide)); simpa using this

set_option maxHeartbeats 1000000 in
/-- What the walk gives, for all arguments and every world that holds the tables. -/
theorem contract (H : Type) (enc : TypeId × Value → H) (W : World) (base : Nat) (args : Array Value) (ds gs : List (DataW H)) (before : List MemPlace)
    (hval0 : ∀ (j : Nat) t v, Tryz.f3.params[j]? = some t → args[j]? = some v → Value.okWide Tryz.prog W .any base t v)
    (hW : DataW.Whole enc Tryz.prog Tryz.f3.params.toList Rows.txnSameSpec.vars false W args.toList ds gs before)
    (hsz : (DataW.weightsEach Tryz.prog (Tryz.f3.params.toList ++ (OpenSpec.ofChange Rows.txnSameSpec).bare.plain.varTypes Tryz.prog) (ds ++ gs)).all (· ≤ reachBytes) = true) (hL : laidMetH Tryz.prog Rows.txnSameRow.laid W) :
    Calls Tryz.prog 3 args W fun e W' => ∃ v, e = .returned v ∧ Rows.txnSameSpec.post enc Tryz.prog Tryz.f3 false true false false W args v W' := by
  have hval : ∀ (j : Nat) t v, Tryz.f3.params[j]? = some t → args[j]? = some v → Value.okWide Tryz.prog W .any base t v := hval0
  have hW' := hW
  obtain ⟨p, q, hA0, hV, rfl, hfz, hnd⟩ := hW
  have hA : DataW.TrodAll enc Tryz.prog W 0 (fun _ => true) true Tryz.f3.params.toList args.toList ds p := hA0
  rw [Tryz.params3] at hA hval hsz
  obtain ⟨v0, vs0, d0, ds0, p0, q0, hargs, rfl, rfl, h0, r0⟩ := trodAll_cons hA
  obtain ⟨v1, vs1, d1, ds1, p1, q1, rfl, rfl, rfl, h1, r1⟩ := trodAll_cons r0
  obtain ⟨rfl, rfl, rfl⟩ := trodAll_nil r1
  obtain rfl : args = #[v0, v1] := by cases args; simp_all
  obtain ⟨rfl, rfl⟩ := trodVars_none hV
  have k0 := h0
  have k1 := h1
  have lt0 : ∀ x ∈ p0, x.block < W.heap.size := by obtain ⟨m, hm⟩ := k0; exact DataW.trod_lt m _ _ _ hm
  have lt1 : ∀ x ∈ p1, x.block < W.heap.size := by obtain ⟨m, hm⟩ := k1; exact DataW.trod_lt m _ _ _ hm
  obtain ⟨cs0, rfl, _⟩ := okWide_struct Tryz.underlying35 (hval 0 35 v0 rfl rfl)
  obtain ⟨t0, hl0, hlg0⟩ : ∃ t : TxD, SeesTx W cs0.toList t ∧ t.good := by
    obtain ⟨fuel, hf⟩ := h0
    exact open_tx (show DataW.trod enc Tryz.prog W 0 (fun _ => true) true fuel 35 cs0.toList = some (d0, p0) from hf) (parts_all (t := 35) hsz 0 d0 rfl rfl)
  obtain ⟨cs1, rfl, _⟩ := okWide_struct Tryz.underlying35 (hval 1 35 v1 rfl rfl)
  obtain ⟨t1, hl1, hlg1⟩ : ∃ t : TxD, SeesTx W cs1.toList t ∧ t.good := by
    obtain ⟨fuel, hf⟩ := h1
    exact open_tx (show DataW.trod enc Tryz.prog W 0 (fun _ => true) true fuel 35 cs1.toList = some (d1, p1) from hf) (parts_all (t := 35) hsz 1 d1 rfl rfl)
  clear hA0 hval0
  have ht := table hL
  have hwk := txnSame_walk cs0.toList cs1.toList t0 t1 W ht.1 ht.2 (tab_lt ht.2) hl0 hl1 hlg0 hlg1
  rw [Array.toArray_toList, Array.toArray_toList] at hwk
  refine hwk.mono fun e W' ⟨he, bel⟩ => ?_
  subst he
  exact ⟨_, rfl, _, _, _, [], _, [], hW', trodAll_mk1 (shut_bool Tryz.underlying4 _), (trodAll_cons_mk (Below.trod laidOut (by kernel_rfl) (of_decide_eq_true (by kernel_rfl)) k0 bel lt0) (trodAll_cons_mk (Below.trod laidOut (by kernel_rfl) (of_decide_eq_true (by kernel_rfl)) k1 bel lt1) trodAll_mk0)), rfl, bel.frame _, fun h => by cases h⟩

/-- A block of cells that holds these. -/
def lay (cs : List Value) : Obj → Obj
  | .cells _ t frozen => .cells cs.toArray t frozen
  | o => o

mutual
/-- The cells of a datum of plain numbers. -/
def flat : DataW Unit → List Value
  | .lit (.int k v) => [.int k v]
  | .agg l => flats l
  | _ => []
def flats : List (DataW Unit) → List Value
  | [] => []
  | d :: r => flat d ++ flats r
end

/-- A world for the witness: the tables hold what their initialisers lay. -/
noncomputable def laidWorld (os : Os) : World :=
  { World.holding Tryz.prog os ⟨#[], #[], []⟩ with heap := ((((World.holding Tryz.prog os ⟨#[], #[], []⟩).heap.modify 2 (lay (flat Rows.laid_math_bits_deBruijn32tab))).modify 3 (lay (flat Rows.laid_math_bits_deBruijn64tab))).modify 1 (lay (flat Rows.laid_internal_strconv_uint64pow10))).modify 0 (lay (flat Rows.laid_lagoon_txn_named)) }
theorem laid_met (os : Os) : laidMet Tryz.prog Rows.txnSameRow.laid ((laidWorld os).forCall (fun _ _ => 0) ⟨#[], #[.agg #[.int .u32 0, .int .u32 0, .int .i8 0, .int .u32 0, .int .i64 0, .int .i8 0, .string ⟨#[]⟩, .slice none 0 0, .slice none 0 0, .int .i32 0, .bool false, .bool false, .int .i64 0, .int .i32 0, .slice none 0 0, .slice none 0 0], .agg #[.int .u32 0, .int .u32 0, .int .i8 0, .int .u32 0, .int .i64 0, .int .i8 0, .string ⟨#[]⟩, .slice none 0 0, .slice none 0 0, .int .i32 0, .bool false, .bool false, .int .i64 0, .int .i32 0, .slice none 0 0, .slice none 0 0]], []⟩).memory :=
  laidMet_of_run' 8 (by kernel_rfl) (by kernel_rfl)
theorem reads (os : Os) {H : Type} (enc : TypeId × Value → H) : ∃ places, DataW.whole enc Tryz.prog ((laidWorld os).forCall (fun _ _ => 0) ⟨#[], #[.agg #[.int .u32 0, .int .u32 0, .int .i8 0, .int .u32 0, .int .i64 0, .int .i8 0, .string ⟨#[]⟩, .slice none 0 0, .slice none 0 0, .int .i32 0, .bool false, .bool false, .int .i64 0, .int .i32 0, .slice none 0 0, .slice none 0 0], .agg #[.int .u32 0, .int .u32 0, .int .i8 0, .int .u32 0, .int .i64 0, .int .i8 0, .string ⟨#[]⟩, .slice none 0 0, .slice none 0 0, .int .i32 0, .bool false, .bool false, .int .i64 0, .int .i32 0, .slice none 0 0, .slice none 0 0]], []⟩).memory Tryz.f3.params.toList Rows.txnSameSpec.vars false (#[.agg #[.int .u32 0, .int .u32 0, .int .i8 0, .int .u32 0, .int .i64 0, .int .i8 0, .string ⟨#[]⟩, .slice none 0 0, .slice none 0 0, .int .i32 0, .bool false, .bool false, .int .i64 0, .int .i32 0, .slice none 0 0, .slice none 0 0], .agg #[.int .u32 0, .int .u32 0, .int .i8 0, .int .u32 0, .int .i64 0, .int .i8 0, .string ⟨#[]⟩, .slice none 0 0, .slice none 0 0, .int .i32 0, .bool false, .bool false, .int .i64 0, .int .i32 0, .slice none 0 0, .slice none 0 0]] : Array Value).toList 8 = some ([.agg [.agg [.lit (.int .u32 0), .lit (.int .u32 0)], .agg [.lit (.int .i8 0), .lit (.int .u32 0), .lit (.int .i64 0)], .agg [.lit (.int .i8 0), .lit (.string []), .nil, .nil, .lit (.int .i32 0), .lit (.bool false), .lit (.bool false), .lit (.int .i64 0), .lit (.int .i32 0), .nil, .nil]], .agg [.agg [.lit (.int .u32 0), .lit (.int .u32 0)], .agg [.lit (.int .i8 0), .lit (.int .u32 0), .lit (.int .i64 0)], .agg [.lit (.int .i8 0), .lit (.string []), .nil, .nil, .lit (.int .i32 0), .lit (.bool false), .lit (.bool false), .lit (.int .i64 0), .lit (.int .i32 0), .nil, .nil]]], [], places) :=
  ⟨[], by kernel_rfl⟩

set_option maxRecDepth 100000 in
theorem lifted (os : Os) (started : os.Started) (H : Type) (enc : TypeId × Value → H) (F : Stop.Interp) :
    ReturnsInHanded {} Tryz.checked os 3 .any ((OpenSpec.ofChange Rows.txnSameSpec).preRow enc Tryz.prog Tryz.f3 Rows.txnSameRow.domain false Rows.txnSameRow.laid) (((OpenSpec.ofChange Rows.txnSameSpec).at F).post enc Tryz.prog Tryz.f3 false true false false) := by
  obtain ⟨places, hx⟩ := reads os enc
  refine returnsInHanded_of_row (C := Tryz.checked) (s := OpenSpec.ofChange Rows.txnSameSpec) own started (by kernel_rfl) Tryz.func3
    (witness_row_at (enc := enc) (C := Tryz.checked) false (laidWorld os) #[.agg #[.int .u32 0, .int .u32 0, .int .i8 0, .int .u32 0, .int .i64 0, .int .i8 0, .string ⟨#[]⟩, .slice none 0 0, .slice none 0 0, .int .i32 0, .bool false, .bool false, .int .i64 0, .int .i32 0, .slice none 0 0, .slice none 0 0], .agg #[.int .u32 0, .int .u32 0, .int .i8 0, .int .u32 0, .int .i64 0, .int .i8 0, .string ⟨#[]⟩, .slice none 0 0, .slice none 0 0, .int .i32 0, .bool false, .bool false, .int .i64 0, .int .i32 0, .slice none 0 0, .slice none 0 0]] rfl (by kernel_rfl) (by kernel_rfl) (by kernel_rfl)
      (OpenSpec.preRow_of_cond 8 hx (by kernel_rfl) (fun k hk => by cases hk) (by kernel_rfl) (laid_met os))) ?_
  intro W base args ds gs before hval hW _ _ hsz hL _ _
  exact contract H enc W base args ds gs before hval hW hsz hL

theorem said : Rows.TxnSameSaid :=
  OpenClaim.holds_of_cond 3 Tryz.f3 rfl rfl rfl rfl rfl rfl rfl ⟨rfl, rfl, rfl, rfl, rfl⟩ rfl rfl rfl rfl rfl (by kernel_rfl) Tryz.func3 (by kernel_rfl)
    (of_decide_eq_true (by kernel_rfl)) (by unfold Func.isWrapper; first | (rw [if_pos (by decide +kernel)]; kernel_rfl) | (rw [if_neg (by decide +kernel)]; exact ⟨rfl, rfl⟩))
    (fun os started H enc _ F => by rw [OpenClaim.pre_eq_preRow]; exact lifted os started H enc F)

/-- No parameter wants a stand-in; the program's own looks are off. -/
theorem plain (f : FuncId) (fn : Func) (hf : Tryz.pinned.checked.prog.funcNamed "lagoon/lagoonlaw04.TxnSame" = some f) (hfn : Tryz.pinned.checked.prog.funcs[f]? = some fn) :
    false = Tryz.pinned.checked.prog.looks [] ∧ ∀ (j : Nat) t, fn.params[j]? = some t → Tryz.pinned.checked.prog.wantsStandIn t = false := by
  obtain rfl : f = 3 := Option.some.inj ((show Tryz.prog.funcNamed "lagoon/lagoonlaw04.TxnSame" = some 3 by kernel_rfl).symm.trans hf) |>.symm
  obtain rfl : fn = Tryz.f3 := (Option.some.inj (Tryz.func3.symm.trans hfn)).symm
  refine ⟨by kernel_rfl, fun j t ht => ?_⟩
  rw [Tryz.params3] at ht
  have hm := Array.mem_of_getElem? ht
  simp at hm
  subst hm
  exact (show Tryz.prog.wantsStandIn 35 = false by kernel_rfl)
end txnSame

/-- The card. -/
theorem txnSame_card : Rows.TxnSameCardSaid :=
  Claim7.holds_tied_plain_at .later [] _ _ _ _ txnSame.said (fun _ h => by cases h) (by kernel_rfl) (fun _ h => by cases h) txnSame_row_tie rfl ⟨rfl, rfl⟩ (by kernel_rfl) rfl txnSame.plain (by kernel_rfl)
#print axioms txnSame_card
end Go.Proofs.YtoeialngbbfoeaaGreatDoor
