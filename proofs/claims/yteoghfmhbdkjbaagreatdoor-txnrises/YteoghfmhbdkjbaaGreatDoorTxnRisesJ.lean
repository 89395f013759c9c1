/- TxnRises of the statements of layer 4 answers true for every zxid and every list of transactions: txn.Rises answers as the document's, and what is handed in stays, its spare room too. The card: the table of what each kind of request names and strconv's table of powers of ten stand as the program's text lays them; values without a ring, as the row says. No other condition. -/
import Derived.Test.YteoghfmhbdkjbaaGreatDoorCards
import Derived.Test.YteoghfmhbdkjbaaGreatDoorTie
import Derived.Test.YteoghfmhbdkjbaaGreatDoorWdNJ
import Derived.Test.YteoghfmhbdkjbaaGreatDoorTxOpenJ
import Derived.Deep.DeepHandedRow
import Derived.SizedLaws
import Derived.Lib.LaidTab
import Derived.Lib.SmallJoins
import Derived.Stop.LaidErr
namespace Go.Proofs.YteoghfmhbdkjbaaGreatDoor
open Go.ChangeShapes Go.WideShapes Go.ChangeAt Go.RowKit Go.Joins
set_option maxRecDepth 8000
namespace txnRises
set_option linter.unusedVariables false

theorem own : ownKnob Tryz.prog.godebug = none := by kernel_rfl
theorem laidOut : laidOutB Tryz.prog = true := by kernel_rfl
theorem gTabType : (Tryz.prog.globals[0]?).map (·.type) = some 124 := by kernel_rfl
theorem cellsTab : Tryz.prog.cellsOf 124 = 13 := by kernel_rfl
theorem cellsElem : Tryz.prog.cellsOf 57 = 1 := by kernel_rfl
theorem cellsZ : Tryz.prog.cellsOf 24 = 2 := by kernel_rfl

theorem gPowType : (Tryz.prog.globals[1]?).map (·.type) = some 149 := by kernel_rfl
theorem cellsPow : Tryz.prog.cellsOf 149 = 20 := by kernel_rfl
theorem cellsPowElem : Tryz.prog.cellsOf 103 = 1 := by kernel_rfl

/-- What the row's list gives: the tables stand. -/
theorem table {W : World} (h : laidMetH Tryz.prog Rows.txnRisesRow.laid W) : Nam W ∧ Tab W := by
  have h1 : laidMet Tryz.prog [("math/bits.deBruijn32tab", Rows.laid_math_bits_deBruijn32tab), ("math/bits.deBruijn64tab", Rows.laid_math_bits_deBruijn64tab), ("internal/strconv.uint64pow10", Rows.laid_internal_strconv_uint64pow10), ("lagoon/txn.named", Rows.laid_lagoon_txn_named)] W := h
  exact ⟨Lib.tabIs_of_head nam_global gTabType Tryz.underlying124 Tryz.underlying57 cellsElem cellsTab (laidMet.tail (laidMet.tail (laidMet.tail h1))),
    Lib.tabIs_of_head tab_global gPowType Tryz.underlying149 Tryz.underlying103 cellsPowElem cellsPow (laidMet.tail (laidMet.tail h1))⟩

theorem tab_lt {W : World} (h : Tab W) : 1 < W.heap.size := by
  have := World.block_lt_of_cell? W _ (Lib.TabIs.cell h tab_global 0 (by decide)); simpa using this

/-- What the walk gives, for all arguments and every world that holds the table. -/
theorem contract (H : Type) (enc : TypeId × Value → H) (W : World) (base : Nat) (args : Array Value) (ds gs : List (DataW H)) (before : List MemPlace)
    (hval0 : ∀ (j : Nat) t v, Tryz.f4.params[j]? = some t → args[j]? = some v → Value.okWide Tryz.prog W .any base t v)
    (hW : DataW.Whole enc Tryz.prog Tryz.f4.params.toList Rows.txnRisesSpec.vars false W args.toList ds gs before)
    (hsz : (DataW.weightsEach Tryz.prog (Tryz.f4.params.toList ++ (OpenSpec.ofChange Rows.txnRisesSpec).bare.plain.varTypes Tryz.prog) (ds ++ gs)).all (· ≤ reachBytes) = true) (hL : laidMetH Tryz.prog Rows.txnRisesRow.laid W) :
    Calls Tryz.prog 4 args W fun e W' => ∃ v, e = .returned v ∧ Rows.txnRisesSpec.post enc Tryz.prog Tryz.f4 false true false false W args v W' := by
  have hval : ∀ (j : Nat) t v, Tryz.f4.params[j]? = some t → args[j]? = some v → Value.okWide Tryz.prog W .any base t v := hval0
  have hW' := hW
  obtain ⟨p, q, hA0, hV, rfl, hfz, hnd⟩ := hW
  have hA : DataW.TrodAll enc Tryz.prog W 0 (fun _ => true) true Tryz.f4.params.toList args.toList ds p := hA0
  rw [Tryz.params4] at hA hval hsz
  obtain ⟨v0, vs0, d0, ds0, p0, q0, hargs, rfl, rfl, h0, r0⟩ := trodAll_cons hA
  obtain ⟨v1, vs1, d1, ds1, p1, q1, rfl, rfl, rfl, h1, r1⟩ := trodAll_cons r0
  obtain ⟨rfl, rfl, rfl⟩ := trodAll_nil r1
  obtain rfl : args = #[v0, v1] := by cases args; simp_all
  obtain ⟨rfl, rfl⟩ := trodVars_none hV
  have k0 := h0
  have k1 := h1
  have lt0 : ∀ x ∈ p0, x.block < W.heap.size := by obtain ⟨m, hm⟩ := k0; exact DataW.trod_lt m _ _ _ hm
  have lt1 : ∀ x ∈ p1, x.block < W.heap.size := by obtain ⟨m, hm⟩ := k1; exact DataW.trod_lt m _ _ _ hm
  have hz : ∀ (v : Value) (d : DataW H) (p : List MemPlace), Value.okWide Tryz.prog W .any base 24 v → DataW.Trod enc Tryz.prog W 0 (fun _ => true) true 24 v d p → ∃ e n : Int, v = zx e n ∧ 0 ≤ e ∧ e ≤ 4294967295 ∧ 0 ≤ n ∧ n ≤ 4294967295 := by
    intro v d p hv hd
    obtain ⟨c0, c1, y0, y1, m, rfl, rfl, rfl, hy0, hy1⟩ := open_agg2 Tryz.underlying24 (by kernel_rfl) cellsZ hv hd
    obtain ⟨a, e0, _, wa⟩ := DataW.trod_int Tryz.underlying22 hy0
    obtain ⟨b, e1, _, wb⟩ := DataW.trod_int Tryz.underlying22 hy1
    simp at e0 e1
    subst e0 e1
    have ha := bounds_u32 wa
    have hb := bounds_u32 wb
    exact ⟨a, b, rfl, by omega, by omega, by omega, by omega⟩
  obtain ⟨e, n, rfl, e0, e1, n0, n1⟩ := hz v0 d0 p0 (hval 0 24 v0 rfl rfl) h0
  obtain ⟨a1, len1, cap1, rfl⟩ := okWide_slice Tryz.underlying44 (hval 1 44 v1 rfl rfl)
  obtain ⟨l, hl, _, hlg⟩ : ∃ l : List TxD, SeesTxs W (.slice a1 len1 cap1) l ∧ l.length ≤ reachBytes ∧ ∀ t ∈ l, t.good := by
    obtain ⟨fuel, hf⟩ := h1
    exact open_txs (show DataW.trod enc Tryz.prog W 0 (fun _ => true) true fuel 44 [.slice a1 len1 cap1] = some (d1, p1) from hf) (parts_all (t := 44) hsz 1 d1 rfl rfl)
  clear hA0 hval0
  have ht := table hL
  refine (txnRises_walk e n _ l W ht.1 ht.2 (tab_lt ht.2) hl hlg).mono fun e W' ⟨he, bel⟩ => ?_
  subst he
  exact ⟨_, rfl, _, _, _, [], _, [], hW', trodAll_mk1 (shut_bool Tryz.underlying4 _), (trodAll_cons_mk (Below.trod laidOut (by kernel_rfl) (of_decide_eq_true (by kernel_rfl)) k0 bel lt0) (trodAll_cons_mk (Below.trod laidOut (by kernel_rfl) (of_decide_eq_true (by kernel_rfl)) k1 bel lt1) trodAll_mk0)), rfl, bel.frame _, fun h => by cases h⟩

/-- A block of cells that holds these. -/
def lay (cs : List Value) : Obj → Obj
  | .cells _ t frozen => .cells cs.toArray t frozen
  | o => o

mutual
/-- The cells of a datum of plain numbers. -/
def flat : DataW Unit → List Value
  | .lit (.int k v) => [.int k v]
  | .agg l => flats l
  | _ => []
def flats : List (DataW Unit) → List Value
  | [] => []
  | d :: r => flat d ++ flats r
end

/-- A world for the witness: the tables hold what their initialisers lay. -/
noncomputable def laidWorld (os : Os) : World :=
  { World.holding Tryz.prog os ⟨#[], #[], []⟩ with heap := ((((World.holding Tryz.prog os ⟨#[], #[], []⟩).heap.modify 2 (lay (flat Rows.laid_math_bits_deBruijn32tab))).modify 3 (lay (flat Rows.laid_math_bits_deBruijn64tab))).modify 1 (lay (flat Rows.laid_internal_strconv_uint64pow10))).modify 0 (lay (flat Rows.laid_lagoon_txn_named)) }
theorem laid_met (os : Os) : laidMet Tryz.prog Rows.txnRisesRow.laid ((laidWorld os).forCall (fun _ _ => 0) ⟨#[], #[zx 0 0, .slice none 0 0], []⟩).memory :=
  laidMet_of_run' 8 (by kernel_rfl) (by kernel_rfl)
theorem reads (os : Os) {H : Type} (enc : TypeId × Value → H) : ∃ places, DataW.whole enc Tryz.prog ((laidWorld os).forCall (fun _ _ => 0) ⟨#[], #[zx 0 0, .slice none 0 0], []⟩).memory Tryz.f4.params.toList Rows.txnRisesSpec.vars false #[zx 0 0, .slice none 0 0].toList 8 = some ([.agg [.lit (.int .u32 0), .lit (.int .u32 0)], .nil], [], places) :=
  ⟨[], by kernel_rfl⟩

set_option maxRecDepth 100000 in
theorem lifted (os : Os) (started : os.Started) (H : Type) (enc : TypeId × Value → H) (F : Stop.Interp) :
    ReturnsInHanded {} Tryz.checked os 4 .any ((OpenSpec.ofChange Rows.txnRisesSpec).preRow enc Tryz.prog Tryz.f4 Rows.txnRisesRow.domain false Rows.txnRisesRow.laid) (((OpenSpec.ofChange Rows.txnRisesSpec).at F).post enc Tryz.prog Tryz.f4 false true false false) := by
  obtain ⟨places, hx⟩ := reads os enc
  refine returnsInHanded_of_row (C := Tryz.checked) (s := OpenSpec.ofChange Rows.txnRisesSpec) own started (by kernel_rfl) Tryz.func4
    (witness_row_at (enc := enc) (C := Tryz.checked) false (laidWorld os) #[zx 0 0, .slice none 0 0] rfl (by kernel_rfl) (by kernel_rfl) (by kernel_rfl)
      (OpenSpec.preRow_of_cond 8 hx (by kernel_rfl) (fun k hk => by cases hk) (by kernel_rfl) (laid_met os))) ?_
  intro W base args ds gs before hval hW _ _ hsz hL _ _
  exact contract H enc W base args ds gs before hval hW hsz hL

theorem said : Rows.TxnRisesSaid :=
  OpenClaim.holds_of_cond 4 Tryz.f4 rfl rfl rfl rfl rfl rfl rfl ⟨rfl, rfl, rfl, rfl, rfl⟩ rfl rfl rfl rfl rfl (by kernel_rfl) Tryz.func4 (by kernel_rfl)
    (of_decide_eq_true (by kernel_rfl)) (by unfold Func.isWrapper; first | (rw [if_pos (by decide +kernel)]; kernel_rfl) | (rw [if_neg (by decide +kernel)]; exact ⟨rfl, rfl⟩))
    (fun os started H enc _ F => by rw [OpenClaim.pre_eq_preRow]; exact lifted os started H enc F)

/-- No parameter wants a stand-in; the program's own looks are off. -/
theorem plain (f : FuncId) (fn : Func) (hf : Tryz.pinned.checked.prog.funcNamed "lagoon/lagoonlaw04.TxnRises" = some f) (hfn : Tryz.pinned.checked.prog.funcs[f]? = some fn) :
    false = Tryz.pinned.checked.prog.looks [] ∧ ∀ (j : Nat) t, fn.params[j]? = some t → Tryz.pinned.checked.prog.wantsStandIn t = false := by
  obtain rfl : f = 4 := Option.some.inj ((show Tryz.prog.funcNamed "lagoon/lagoonlaw04.TxnRises" = some 4 by kernel_rfl).symm.trans hf) |>.symm
  obtain rfl : fn = Tryz.f4 := (Option.some.inj (Tryz.func4.symm.trans hfn)).symm
  refine ⟨by kernel_rfl, fun j t ht => ?_⟩
  rw [Tryz.params4] at ht
  have hm := Array.mem_of_getElem? ht
  simp at hm
  rcases hm with rfl | rfl
  · exact (show Tryz.prog.wantsStandIn 24 = false by kernel_rfl)
  · exact (show Tryz.prog.wantsStandIn 44 = false by kernel_rfl)
end txnRises

/-- The card. -/
theorem txnRises_card : Rows.TxnRisesCardSaid :=
  Claim7.holds_tied_plain_at .later [] _ _ _ _ txnRises.said (fun _ h => by cases h) (by kernel_rfl) (fun _ h => by cases h) txnRises_row_tie rfl ⟨rfl, rfl⟩ (by kernel_rfl) rfl txnRises.plain (by kernel_rfl)
#print axioms txnRises_card
end Go.Proofs.YteoghfmhbdkjbaaGreatDoor
