/- TxnPacked of the statements of layer 4 answers true for every two zxids: the numbers that Pack tells are in the zxids' order, and Unpack leads back. The card: the table of what each kind of request names stands as the program's text lays it. No other condition. -/
import Derived.Test.YtddecdnidiliaaaDoorCards
import Derived.Test.YtddecdnidiliaaaDoorTie
import Derived.Test.YtddecdnidiliaaaDoorPackedWalk
import Derived.Deep.DeepHandedRow
import Derived.SizedLaws
import Derived.Lib.LaidTab
import Derived.Lib.SmallJoins
import Derived.Stop.LaidErr
namespace Go.Proofs.YtddecdnidiliaaaDoor
open Go.ChangeShapes Go.WideShapes Go.ChangeAt Go.RowKit Go.Joins
set_option maxRecDepth 8000
namespace txnPacked
set_option linter.unusedVariables false

theorem own : ownKnob Tryd.prog.godebug = none := by kernel_rfl
theorem laidOut : laidOutB Tryd.prog = true := by kernel_rfl
theorem gTabType : (Tryd.prog.globals[0]?).map (·.type) = some 119 := by kernel_rfl
theorem cellsTab : Tryd.prog.cellsOf 119 = 13 := by kernel_rfl
theorem cellsElem : Tryd.prog.cellsOf 63 = 1 := by kernel_rfl
theorem cellsZ : Tryd.prog.cellsOf 24 = 2 := by kernel_rfl

/-- What the row's list gives: the table stands. -/
theorem table {W : World} (h : laidMetH Tryd.prog Rows.txnPackedRow.laid W) : Nam W := by
  have h1 : laidMet Tryd.prog [("lagoon/txn.named", Rows.laid_lagoon_txn_named)] W := h
  exact Lib.tabIs_of_head (rest := []) nam_global gTabType Tryd.underlying119 Tryd.underlying63 cellsElem cellsTab h1

/-- What the walk gives, for all arguments and every world that holds the table. -/
theorem contract (H : Type) (enc : TypeId × Value → H) (W : World) (base : Nat) (args : Array Value) (ds gs : List (DataW H)) (before : List MemPlace)
    (hval0 : ∀ (j : Nat) t v, Tryd.f4.params[j]? = some t → args[j]? = some v → Value.okWide Tryd.prog W .any base t v)
    (hW : DataW.Whole enc Tryd.prog Tryd.f4.params.toList Rows.txnPackedSpec.vars false W args.toList ds gs before)
    (hL : laidMetH Tryd.prog Rows.txnPackedRow.laid W) :
    Calls Tryd.prog 4 args W fun e W' => ∃ v, e = .returned v ∧ Rows.txnPackedSpec.post enc Tryd.prog Tryd.f4 false true false false W args v W' := by
  have hval : ∀ (j : Nat) t v, Tryd.f4.params[j]? = some t → args[j]? = some v → Value.okWide Tryd.prog W .any base t v := hval0
  have hW' := hW
  obtain ⟨p, q, hA0, hV, rfl, hfz, hnd⟩ := hW
  have hA : DataW.TrodAll enc Tryd.prog W 0 (fun _ => true) true Tryd.f4.params.toList args.toList ds p := hA0
  rw [Tryd.params4] at hA hval
  obtain ⟨v0, vs0, d0, ds0, p0, q0, hargs, rfl, rfl, h0, r0⟩ := trodAll_cons hA
  obtain ⟨v1, vs1, d1, ds1, p1, q1, rfl, rfl, rfl, h1, r1⟩ := trodAll_cons r0
  obtain ⟨rfl, rfl, rfl⟩ := trodAll_nil r1
  obtain rfl : args = #[v0, v1] := by cases args; simp_all
  obtain ⟨rfl, rfl⟩ := trodVars_none hV
  have k0 := h0
  have k1 := h1
  have lt0 : ∀ x ∈ p0, x.block < W.heap.size := by obtain ⟨m, hm⟩ := k0; exact DataW.trod_lt m _ _ _ hm
  have lt1 : ∀ x ∈ p1, x.block < W.heap.size := by obtain ⟨m, hm⟩ := k1; exact DataW.trod_lt m _ _ _ hm
  have hz : ∀ (v : Value) (d : DataW H) (p : List MemPlace), Value.okWide Tryd.prog W .any base 24 v → DataW.Trod enc Tryd.prog W 0 (fun _ => true) true 24 v d p → ∃ e n : Int, v = zx e n ∧ 0 ≤ e ∧ e ≤ 4294967295 ∧ 0 ≤ n ∧ n ≤ 4294967295 := by
    intro v d p hv hd
    obtain ⟨c0, c1, y0, y1, m, rfl, rfl, rfl, hy0, hy1⟩ := open_agg2 Tryd.underlying24 (by kernel_rfl) cellsZ hv hd
    obtain ⟨a, e0, _, wa⟩ := DataW.trod_int Tryd.underlying22 hy0
    obtain ⟨b, e1, _, wb⟩ := DataW.trod_int Tryd.underlying22 hy1
    simp at e0 e1
    subst e0 e1
    have ha := bounds_u32 wa
    have hb := bounds_u32 wb
    exact ⟨a, b, rfl, by omega, by omega, by omega, by omega⟩
  obtain ⟨e, n, rfl, e0, e1, n0, n1⟩ := hz v0 d0 p0 (hval 0 24 v0 rfl rfl) h0
  obtain ⟨f, m, rfl, f0, f1, m0, m1⟩ := hz v1 d1 p1 (hval 1 24 v1 rfl rfl) h1
  clear hA0 hval0
  have ht := table hL
  refine (packed_walk e n f m W ht e0 e1 n0 n1 f0 f1 m0 m1).mono fun e W' ⟨he, bel⟩ => ?_
  subst he
  exact ⟨_, rfl, _, _, _, [], _, [], hW', trodAll_mk1 (shut_bool Tryd.underlying4 _), (trodAll_cons_mk (Below.trod laidOut (by kernel_rfl) (of_decide_eq_true (by kernel_rfl)) k0 bel lt0) (trodAll_cons_mk (Below.trod laidOut (by kernel_rfl) (of_decide_eq_true (by kernel_rfl)) k1 bel lt1) trodAll_mk0)), rfl, bel.frame _, fun h => by cases h⟩

/-- A block of cells that holds these. -/
def lay (cs : Array Value) : Obj → Obj
  | .cells _ t frozen => .cells cs t frozen
  | o => o

/-- A world for the witness: the table holds what its initialiser lays. -/
noncomputable def laidWorld (os : Os) : World :=
  { World.holding Tryd.prog os ⟨#[], #[], []⟩ with heap := (World.holding Tryd.prog os ⟨#[], #[], []⟩).heap.modify 0 (lay #[.int .u16 0, .int .u16 375, .int .u16 329, .int .u16 331, .int .u16 333, .int .u16 329, .int .u16 832, .int .u16 128, .int .u16 64, .int .u16 321, .int .u16 321, .int .u16 321, .int .u16 321]) }
theorem laid_met (os : Os) : laidMet Tryd.prog Rows.txnPackedRow.laid ((laidWorld os).forCall (fun _ _ => 0) ⟨#[], #[zx 0 0, zx 0 0], []⟩).memory :=
  laidMet_of_run' 8 (by kernel_rfl) (by kernel_rfl)
theorem reads (os : Os) {H : Type} (enc : TypeId × Value → H) : ∃ places, DataW.whole enc Tryd.prog ((laidWorld os).forCall (fun _ _ => 0) ⟨#[], #[zx 0 0, zx 0 0], []⟩).memory Tryd.f4.params.toList Rows.txnPackedSpec.vars false #[zx 0 0, zx 0 0].toList 8 = some ([.agg [.lit (.int .u32 0), .lit (.int .u32 0)], .agg [.lit (.int .u32 0), .lit (.int .u32 0)]], [], places) :=
  ⟨[], by kernel_rfl⟩

set_option maxRecDepth 100000 in
theorem lifted (os : Os) (started : os.Started) (H : Type) (enc : TypeId × Value → H) (F : Stop.Interp) :
    ReturnsInHanded {} Tryd.checked os 4 .any ((OpenSpec.ofChange Rows.txnPackedSpec).preRow enc Tryd.prog Tryd.f4 Rows.txnPackedRow.domain false Rows.txnPackedRow.laid) (((OpenSpec.ofChange Rows.txnPackedSpec).at F).post enc Tryd.prog Tryd.f4 false true false false) := by
  obtain ⟨places, hx⟩ := reads os enc
  refine returnsInHanded_of_row (C := Tryd.checked) (s := OpenSpec.ofChange Rows.txnPackedSpec) own started (by kernel_rfl) Tryd.func4
    (witness_row_at (enc := enc) (C := Tryd.checked) false (laidWorld os) #[zx 0 0, zx 0 0] rfl (by kernel_rfl) (by kernel_rfl) (by kernel_rfl)
      (OpenSpec.preRow_of_cond 8 hx (by kernel_rfl) (fun k hk => by cases hk) (by kernel_rfl) (laid_met os))) ?_
  intro W base args ds gs before hval hW _ _ hsz hL _ _
  exact contract H enc W base args ds gs before hval hW hL

theorem said : Rows.TxnPackedSaid :=
  OpenClaim.holds_of_cond 4 Tryd.f4 rfl rfl rfl rfl rfl rfl rfl ⟨rfl, rfl, rfl, rfl, rfl⟩ rfl rfl rfl rfl rfl (by kernel_rfl) Tryd.func4 (by kernel_rfl)
    (of_decide_eq_true (by kernel_rfl)) (by unfold Func.isWrapper; first | (rw [if_pos (by decide +kernel)]; kernel_rfl) | (rw [if_neg (by decide +kernel)]; exact ⟨rfl, rfl⟩))
    (fun os started H enc _ F => by rw [OpenClaim.pre_eq_preRow]; exact lifted os started H enc F)

/-- No parameter wants a stand-in; the program's own looks are off. -/
theorem plain (f : FuncId) (fn : Func) (hf : Tryd.pinned.checked.prog.funcNamed "lagoon/lagoonlaw04.TxnPacked" = some f) (hfn : Tryd.pinned.checked.prog.funcs[f]? = some fn) :
    false = Tryd.pinned.checked.prog.looks [] ∧ ∀ (j : Nat) t, fn.params[j]? = some t → Tryd.pinned.checked.prog.wantsStandIn t = false := by
  obtain rfl : f = 4 := Option.some.inj ((show Tryd.prog.funcNamed "lagoon/lagoonlaw04.TxnPacked" = some 4 by kernel_rfl).symm.trans hf) |>.symm
  obtain rfl : fn = Tryd.f4 := (Option.some.inj (Tryd.func4.symm.trans hfn)).symm
  refine ⟨by kernel_rfl, fun j t ht => ?_⟩
  rw [Tryd.params4] at ht
  have hm := Array.mem_of_getElem? ht
  simp at hm
  subst hm
  exact (show Tryd.prog.wantsStandIn 24 = false by kernel_rfl)
end txnPacked

/-- The card. -/
theorem txnPacked_card : Rows.TxnPackedCardSaid :=
  Claim7.holds_tied_plain_at .later [] _ _ _ _ txnPacked.said (fun _ h => by cases h) (by kernel_rfl) (fun _ h => by cases h) txnPacked_row_tie rfl ⟨rfl, rfl⟩ (by kernel_rfl) rfl txnPacked.plain (by kernel_rfl)
#print axioms txnPacked_card
end Go.Proofs.YtddecdnidiliaaaDoor
