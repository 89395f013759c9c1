/- TxnStairs of the statements of layer 4 answers true for every zxid, every list of transactions and every place: a list that rises does so from each of its places on, and its packed numbers rise. The card: the table of what each kind of request names stands as the program's text lays it; values without a ring, as the row says. No other condition. -/
import Derived.Test.YtddecdnidiliaabDoorCards
import Derived.Test.YtddecdnidiliaabDoorTie
import Derived.Test.YtddecdnidiliaabDoorStairs
import Derived.Test.YtddecdnidiliaabDoorTxOpen
import Derived.Deep.DeepHandedRow
import Derived.SizedLaws
import Derived.Lib.LaidTab
import Derived.Lib.SmallJoins
import Derived.Stop.LaidErr
namespace Go.Proofs.YtddecdnidiliaabDoor
open Go.ChangeShapes Go.WideShapes Go.ChangeAt Go.RowKit Go.Joins
set_option maxRecDepth 8000
namespace txnStairs
set_option linter.unusedVariables false

theorem own : ownKnob Tryd.prog.godebug = none := by kernel_rfl
theorem laidOut : laidOutB Tryd.prog = true := by kernel_rfl
theorem gTabType : (Tryd.prog.globals[0]?).map (·.type) = some 116 := by kernel_rfl
theorem cellsTab : Tryd.prog.cellsOf 116 = 13 := by kernel_rfl
theorem cellsElem : Tryd.prog.cellsOf 58 = 1 := by kernel_rfl
theorem cellsZ : Tryd.prog.cellsOf 26 = 2 := by kernel_rfl

/-- What the row's list gives: the table stands. -/
theorem table {W : World} (h : laidMetH Tryd.prog Rows.txnStairsRow.laid W) : Nam W := by
  have h1 : laidMet Tryd.prog [("lagoon/txn.named", Rows.laid_lagoon_txn_named)] W := h
  exact Lib.tabIs_of_head (rest := []) nam_global gTabType Tryd.underlying116 Tryd.underlying58 cellsElem cellsTab h1

/-- What the walk gives, for all arguments and every world that holds the table. -/
theorem contract (H : Type) (enc : TypeId × Value → H) (W : World) (base : Nat) (args : Array Value) (ds gs : List (DataW H)) (before : List MemPlace)
    (hval0 : ∀ (j : Nat) t v, Tryd.f4.params[j]? = some t → args[j]? = some v → Value.okWide Tryd.prog W .any base t v)
    (hW : DataW.Whole enc Tryd.prog Tryd.f4.params.toList Rows.txnStairsSpec.vars false W args.toList ds gs before)
    (hsz : (DataW.weightsEach Tryd.prog (Tryd.f4.params.toList ++ (OpenSpec.ofChange Rows.txnStairsSpec).bare.plain.varTypes Tryd.prog) (ds ++ gs)).all (· ≤ reachBytes) = true) (hL : laidMetH Tryd.prog Rows.txnStairsRow.laid W) :
    Calls Tryd.prog 4 args W fun e W' => ∃ v, e = .returned v ∧ Rows.txnStairsSpec.post enc Tryd.prog Tryd.f4 false true false false W args v W' := by
  have hval : ∀ (j : Nat) t v, Tryd.f4.params[j]? = some t → args[j]? = some v → Value.okWide Tryd.prog W .any base t v := hval0
  have hW' := hW
  obtain ⟨p, q, hA0, hV, rfl, hfz, hnd⟩ := hW
  have hA : DataW.TrodAll enc Tryd.prog W 0 (fun _ => true) true Tryd.f4.params.toList args.toList ds p := hA0
  rw [Tryd.params4] at hA hval hsz
  obtain ⟨v0, vs0, d0, ds0, p0, q0, hargs, rfl, rfl, h0, r0⟩ := trodAll_cons hA
  obtain ⟨v1, vs1, d1, ds1, p1, q1, rfl, rfl, rfl, h1, r1⟩ := trodAll_cons r0
  obtain ⟨v2, vs2, d2, ds2, p2, q2, rfl, rfl, rfl, h2, r2⟩ := trodAll_cons r1
  obtain ⟨rfl, rfl, rfl⟩ := trodAll_nil r2
  obtain rfl : args = #[v0, v1, v2] := by cases args; simp_all
  obtain ⟨rfl, rfl⟩ := trodVars_none hV
  have k0 := h0
  have k1 := h1
  have k2 := h2
  have lt0 : ∀ x ∈ p0, x.block < W.heap.size := by obtain ⟨m, hm⟩ := k0; exact DataW.trod_lt m _ _ _ hm
  have lt1 : ∀ x ∈ p1, x.block < W.heap.size := by obtain ⟨m, hm⟩ := k1; exact DataW.trod_lt m _ _ _ hm
  have lt2 : ∀ x ∈ p2, x.block < W.heap.size := by obtain ⟨m, hm⟩ := k2; exact DataW.trod_lt m _ _ _ hm
  have hz : ∀ (v : Value) (d : DataW H) (p : List MemPlace), Value.okWide Tryd.prog W .any base 26 v → DataW.Trod enc Tryd.prog W 0 (fun _ => true) true 26 v d p → ∃ e n : Int, v = zx e n ∧ 0 ≤ e ∧ e ≤ 4294967295 ∧ 0 ≤ n ∧ n ≤ 4294967295 := by
    intro v d p hv hd
    obtain ⟨c0, c1, y0, y1, m, rfl, rfl, rfl, hy0, hy1⟩ := open_agg2 Tryd.underlying26 (by kernel_rfl) cellsZ hv hd
    obtain ⟨a, e0, _, wa⟩ := DataW.trod_int Tryd.underlying24 hy0
    obtain ⟨b, e1, _, wb⟩ := DataW.trod_int Tryd.underlying24 hy1
    simp at e0 e1
    subst e0 e1
    have ha := bounds_u32 wa
    have hb := bounds_u32 wb
    exact ⟨a, b, rfl, by omega, by omega, by omega, by omega⟩
  obtain ⟨e, n, rfl, e0, e1, n0, n1⟩ := hz v0 d0 p0 (hval 0 26 v0 rfl rfl) h0
  obtain ⟨a1, len1, cap1, rfl⟩ := okWide_slice Tryd.underlying45 (hval 1 45 v1 rfl rfl)
  obtain ⟨l, hl, _, hlg⟩ : ∃ l : List TxD, SeesTxs W (.slice a1 len1 cap1) l ∧ l.length ≤ reachBytes ∧ ∀ t ∈ l, t.good := by
    obtain ⟨fuel, hf⟩ := h1
    exact open_txs (show DataW.trod enc Tryd.prog W 0 (fun _ => true) true fuel 45 [.slice a1 len1 cap1] = some (d1, p1) from hf) (parts_all (t := 45) hsz 1 d1 rfl rfl)
  obtain ⟨k, rfl, kb0, kb1⟩ : ∃ k : Int, v2 = .int .i64 k ∧ -9223372036854775808 ≤ k ∧ k ≤ 9223372036854775807 := by
    obtain ⟨k, rfl, _, _, wk⟩ := open_int Tryd.underlying3 (hval 2 3 v2 rfl rfl) h2
    have := bounds_i64 wk
    exact ⟨k, rfl, this.1, this.2⟩
  clear hA0 hval0
  have ht := table hL
  refine (stairs_walk e n _ l k W ht hl hlg e0 e1 n0 n1 kb1).mono fun e W' ⟨he, bel⟩ => ?_
  subst he
  exact ⟨_, rfl, _, _, _, [], _, [], hW', trodAll_mk1 (shut_bool Tryd.underlying4 _), (trodAll_cons_mk (Below.trod laidOut (by kernel_rfl) (of_decide_eq_true (by kernel_rfl)) k0 bel lt0) (trodAll_cons_mk (Below.trod laidOut (by kernel_rfl) (of_decide_eq_true (by kernel_rfl)) k1 bel lt1) (trodAll_cons_mk (Below.trod laidOut (by kernel_rfl) (of_decide_eq_true (by kernel_rfl)) k2 bel lt2) trodAll_mk0))), rfl, bel.frame _, fun h => by cases h⟩

/-- A block of cells that holds these. -/
def lay (cs : Array Value) : Obj → Obj
  | .cells _ t frozen => .cells cs t frozen
  | o => o

/-- A world for the witness: the table holds what its initialiser lays. -/
noncomputable def laidWorld (os : Os) : World :=
  { World.holding Tryd.prog os ⟨#[], #[], []⟩ with heap := (World.holding Tryd.prog os ⟨#[], #[], []⟩).heap.modify 0 (lay #[.int .u16 0, .int .u16 375, .int .u16 329, .int .u16 331, .int .u16 333, .int .u16 329, .int .u16 832, .int .u16 128, .int .u16 64, .int .u16 321, .int .u16 321, .int .u16 321, .int .u16 321]) }
theorem laid_met (os : Os) : laidMet Tryd.prog Rows.txnStairsRow.laid ((laidWorld os).forCall (fun _ _ => 0) ⟨#[], #[zx 0 0, .slice none 0 0, .int .i64 0], []⟩).memory :=
  laidMet_of_run' 8 (by kernel_rfl) (by kernel_rfl)
theorem reads (os : Os) {H : Type} (enc : TypeId × Value → H) : ∃ places, DataW.whole enc Tryd.prog ((laidWorld os).forCall (fun _ _ => 0) ⟨#[], #[zx 0 0, .slice none 0 0, .int .i64 0], []⟩).memory Tryd.f4.params.toList Rows.txnStairsSpec.vars false #[zx 0 0, .slice none 0 0, .int .i64 0].toList 8 = some ([.agg [.lit (.int .u32 0), .lit (.int .u32 0)], .nil, .lit (.int .i64 0)], [], places) :=
  ⟨[], by kernel_rfl⟩

set_option maxRecDepth 100000 in
theorem lifted (os : Os) (started : os.Started) (H : Type) (enc : TypeId × Value → H) (F : Stop.Interp) :
    ReturnsInHanded {} Tryd.checked os 4 .any ((OpenSpec.ofChange Rows.txnStairsSpec).preRow enc Tryd.prog Tryd.f4 Rows.txnStairsRow.domain false Rows.txnStairsRow.laid) (((OpenSpec.ofChange Rows.txnStairsSpec).at F).post enc Tryd.prog Tryd.f4 false true false false) := by
  obtain ⟨places, hx⟩ := reads os enc
  refine returnsInHanded_of_row (C := Tryd.checked) (s := OpenSpec.ofChange Rows.txnStairsSpec) own started (by kernel_rfl) Tryd.func4
    (witness_row_at (enc := enc) (C := Tryd.checked) false (laidWorld os) #[zx 0 0, .slice none 0 0, .int .i64 0] rfl (by kernel_rfl) (by kernel_rfl) (by kernel_rfl)
      (OpenSpec.preRow_of_cond 8 hx (by kernel_rfl) (fun k hk => by cases hk) (by kernel_rfl) (laid_met os))) ?_
  intro W base args ds gs before hval hW _ _ hsz hL _ _
  exact contract H enc W base args ds gs before hval hW hsz hL

theorem said : Rows.TxnStairsSaid :=
  OpenClaim.holds_of_cond 4 Tryd.f4 rfl rfl rfl rfl rfl rfl rfl ⟨rfl, rfl, rfl, rfl, rfl⟩ rfl rfl rfl rfl rfl (by kernel_rfl) Tryd.func4 (by kernel_rfl)
    (of_decide_eq_true (by kernel_rfl)) (by unfold Func.isWrapper; first | (rw [if_pos (by decide +kernel)]; kernel_rfl) | (rw [if_neg (by decide +kernel)]; exact ⟨rfl, rfl⟩))
    (fun os started H enc _ F => by rw [OpenClaim.pre_eq_preRow]; exact lifted os started H enc F)

/-- No parameter wants a stand-in; the program's own looks are off. -/
theorem plain (f : FuncId) (fn : Func) (hf : Tryd.pinned.checked.prog.funcNamed "lagoon/lagoonlaw04.TxnStairs" = some f) (hfn : Tryd.pinned.checked.prog.funcs[f]? = some fn) :
    false = Tryd.pinned.checked.prog.looks [] ∧ ∀ (j : Nat) t, fn.params[j]? = some t → Tryd.pinned.checked.prog.wantsStandIn t = false := by
  obtain rfl : f = 4 := Option.some.inj ((show Tryd.prog.funcNamed "lagoon/lagoonlaw04.TxnStairs" = some 4 by kernel_rfl).symm.trans hf) |>.symm
  obtain rfl : fn = Tryd.f4 := (Option.some.inj (Tryd.func4.symm.trans hfn)).symm
  refine ⟨by kernel_rfl, fun j t ht => ?_⟩
  rw [Tryd.params4] at ht
  have hm := Array.mem_of_getElem? ht
  simp at hm
  rcases hm with rfl | rfl | rfl
  · exact (show Tryd.prog.wantsStandIn 26 = false by kernel_rfl)
  · exact (show Tryd.prog.wantsStandIn 45 = false by kernel_rfl)
  · exact (show Tryd.prog.wantsStandIn 3 = false by kernel_rfl)
end txnStairs

/-- The card. -/
theorem txnStairs_card : Rows.TxnStairsCardSaid :=
  Claim7.holds_tied_plain_at .later [] _ _ _ _ txnStairs.said (fun _ h => by cases h) (by kernel_rfl) (fun _ h => by cases h) txnStairs_row_tie rfl ⟨rfl, rfl⟩ (by kernel_rfl) rfl txnStairs.plain (by kernel_rfl)
#print axioms txnStairs_card
end Go.Proofs.YtddecdnidiliaabDoor
