/- LinkSpoilt of the statements of layer 22 (the theorem of stage 22) answers true for every packet, place and byte: a packet that is spoilt under way is no packet; its copy, doubled ahead, is. The card: the tables of what each kind of request and each kind of packet names stand as the program's text lays them; values without a ring, as the row says. No other condition. The card: the tables of what each kind of request and each kind of packet names stand as the program's text lays them; values without a ring, as the row says. No other condition. -/
import Derived.Test.YtldcbabgommghaaGreatDoorCards
import Derived.Test.YtldcbabgommghaaGreatDoorTie
import Derived.Test.YtldcbabgommghaaGreatDoorLsBJ
import Derived.Test.YtldcbabgommghaaGreatDoorPkOpenJ
import Derived.Deep.DeepHandedRow
import Derived.SizedLaws
import Derived.Lib.LaidTab
import Derived.Lib.SmallJoins
import Derived.Stop.LaidErr
import Derived.Laws.Cover2
namespace Go.Proofs.YtldcbabgommghaaGreatDoor
open Go.ChangeShapes Go.WideShapes Go.ChangeAt Go.RowKit Go.Joins
set_option maxRecDepth 8000
namespace linkSpoilt
set_option linter.unusedVariables false

theorem own : ownKnob Tryz.prog.godebug = none := by kernel_rfl
theorem laidOut : laidOutB Tryz.prog = true := by kernel_rfl
theorem gTabType : (Tryz.prog.globals[1]?).map (·.type) = some 176 := by kernel_rfl
theorem cellsTab : Tryz.prog.cellsOf 176 = 13 := by kernel_rfl
theorem cellsElem : Tryz.prog.cellsOf 92 = 1 := by kernel_rfl
theorem cellsZ : Tryz.prog.cellsOf 27 = 2 := by kernel_rfl
theorem gPType : (Tryz.prog.globals[0]?).map (·.type) = some 117 := by kernel_rfl
theorem cellsTabP : Tryz.prog.cellsOf 117 = 15 := by kernel_rfl

/-- What the row's list gives: the tables stand. -/
theorem table {W : World} (h : laidMetH Tryz.prog Rows.linkSpoiltRow.laid W) : Nam W ∧ PNam W := by
  have h0 : laidMet Tryz.prog [("lagoon/txn.named", Rows.laid_lagoon_txn_named), ("lagoon/packet.named", Rows.laid_lagoon_packet_named)] W := h
  have h1 := h0
  exact ⟨Lib.tabIs_of_head nam_global gTabType Tryz.underlying176 Tryz.underlying92 cellsElem cellsTab h1, Lib.tabIs_of_head pnam_global gPType Tryz.underlying117 Tryz.underlying92 cellsElem cellsTabP (laidMet.tail h1)⟩

/-- What the walk gives, for all arguments and every world that holds the tables. -/
theorem contract (H : Type) (enc : TypeId × Value → H) (W : World) (base : Nat) (args : Array Value) (ds gs : List (DataW H)) (before : List MemPlace)
    (hval0 : ∀ (j : Nat) t v, Tryz.f3.params[j]? = some t → args[j]? = some v → Value.okWide Tryz.prog W .any base t v)
    (hW : DataW.Whole enc Tryz.prog Tryz.f3.params.toList Rows.linkSpoiltSpec.vars false W args.toList ds gs before)
    (hsz : (DataW.weightsEach Tryz.prog (Tryz.f3.params.toList ++ (OpenSpec.ofChange Rows.linkSpoiltSpec).bare.plain.varTypes Tryz.prog) (ds ++ gs)).all (· ≤ reachBytes) = true) (hL : laidMetH Tryz.prog Rows.linkSpoiltRow.laid W) :
    Calls Tryz.prog 3 args W fun e W' => ∃ v, e = .returned v ∧ Rows.linkSpoiltSpec.post enc Tryz.prog Tryz.f3 false true false false W args v W' := by
  have hval : ∀ (j : Nat) t v, Tryz.f3.params[j]? = some t → args[j]? = some v → Value.okWide Tryz.prog W .any base t v := hval0
  have hW' := hW
  obtain ⟨p, q, hA0, hV, rfl, hfz, hnd⟩ := hW
  have hA : DataW.TrodAll enc Tryz.prog W 0 (fun _ => true) true Tryz.f3.params.toList args.toList ds p := hA0
  rw [Tryz.params3] at hA hval hsz
  obtain ⟨v0, vs0, d0, ds0, p0, q0, hargs, rfl, rfl, h0, r0⟩ := trodAll_cons hA
  obtain ⟨v1, vs1, d1, ds1, p1, q1, rfl, rfl, rfl, h1, r1⟩ := trodAll_cons r0
  obtain ⟨v2, vs2, d2, ds2, p2, q2, rfl, rfl, rfl, h2, r2⟩ := trodAll_cons r1
  obtain ⟨rfl, rfl, rfl⟩ := trodAll_nil r2
  obtain rfl : args = #[v0, v1, v2] := by cases args; simp_all
  obtain ⟨rfl, rfl⟩ := trodVars_none hV
  have k0 := h0
  have k1 := h1
  have k2 := h2
  have lt0 : ∀ x ∈ p0, x.block < W.heap.size := by obtain ⟨m, hm⟩ := k0; exact DataW.trod_lt m _ _ _ hm
  have lt1 : ∀ x ∈ p1, x.block < W.heap.size := by obtain ⟨m, hm⟩ := k1; exact DataW.trod_lt m _ _ _ hm
  have lt2 : ∀ x ∈ p2, x.block < W.heap.size := by obtain ⟨m, hm⟩ := k2; exact DataW.trod_lt m _ _ _ hm
  obtain ⟨cs0, rfl, _⟩ := okWide_struct Tryz.underlying39 (hval 0 39 v0 rfl rfl)
  obtain ⟨pk0, tc0, bv0, ecs0, hpk0, hgd0⟩ : ∃ (p : PkD) (tc : List Value) (bv : Value), cs0.toList = pkL p tc bv ∧ SeesPk W tc bv p ∧ p.good := by
    obtain ⟨fuel, hf⟩ := h0
    exact open_pk (show DataW.trod enc Tryz.prog W 0 (fun _ => true) true fuel 39 cs0.toList = some (d0, p0) from hf) (parts_all (t := 39) hsz 0 d0 rfl rfl)
  obtain rfl : cs0 = (pkL pk0 tc0 bv0).toArray := by rw [← ecs0, Array.toArray_toList]
  obtain ⟨n1, rfl, nl1, nh1⟩ : ∃ k : Int, v1 = .int .i64 k ∧ -9223372036854775808 ≤ k ∧ k ≤ 9223372036854775807 := by
    obtain ⟨k, rfl, _, _, wk⟩ := open_int Tryz.underlying3 (hval 1 3 v1 rfl rfl) h1
    have := bounds_i64 wk
    exact ⟨k, rfl, this.1, this.2⟩
  obtain ⟨n2, rfl, nl2, nh2⟩ : ∃ k : Int, v2 = .int .u8 k ∧ 0 ≤ k ∧ k ≤ 255 := by
    obtain ⟨k, rfl, _, _, wk⟩ := open_int Tryz.underlying5 (hval 2 5 v2 rfl rfl) h2
    have := bounds_u8 wk
    exact ⟨k, rfl, this.1, this.2⟩
  clear hA0 hval0
  have ht := table hL
  have hwk := spoilt_walk pk0 tc0 bv0 n1 n2 W ht.1 ht.2 hgd0 hpk0 nl2 nh2
  refine hwk.mono fun e W' ⟨he, bel⟩ => ?_
  subst he
  exact ⟨_, rfl, _, _, _, [], _, [], hW', trodAll_mk1 (shut_bool Tryz.underlying4 _), (trodAll_cons_mk (Below.trod laidOut (by kernel_rfl) (of_decide_eq_true (by kernel_rfl)) k0 bel lt0) (trodAll_cons_mk (Below.trod laidOut (by kernel_rfl) (of_decide_eq_true (by kernel_rfl)) k1 bel lt1) (trodAll_cons_mk (Below.trod laidOut (by kernel_rfl) (of_decide_eq_true (by kernel_rfl)) k2 bel lt2) trodAll_mk0))), rfl, bel.frame _, fun h => by cases h⟩

/-- A block of cells that holds these. -/
def lay (cs : List Value) : Obj → Obj
  | .cells _ t frozen => .cells cs.toArray t frozen
  | o => o

mutual
/-- The cells of a datum of plain numbers. -/
def flat : DataW Unit → List Value
  | .lit (.int k v) => [.int k v]
  | .agg l => flats l
  | _ => []
def flats : List (DataW Unit) → List Value
  | [] => []
  | d :: r => flat d ++ flats r
end

/-- A world for the witness: the tables hold what their initialisers lay. -/
noncomputable def laidWorld (os : Os) : World :=
  { World.holding Tryz.prog os ⟨#[], #[], []⟩ with heap := (((World.holding Tryz.prog os ⟨#[], #[], []⟩).heap.modify 1 (lay (flat Rows.laid_lagoon_txn_named))).modify 0 (lay (flat Rows.laid_lagoon_packet_named))) }
theorem laid_met (os : Os) : laidMet Tryz.prog Rows.linkSpoiltRow.laid ((laidWorld os).forCall (fun _ _ => 0) ⟨#[], #[.agg (zPk 0), .int .i64 0, .int .u8 0], []⟩).memory :=
  laidMet_of_run' 8 (by kernel_rfl) (by kernel_rfl)
theorem reads (os : Os) {H : Type} (enc : TypeId × Value → H) : ∃ places, DataW.whole enc Tryz.prog ((laidWorld os).forCall (fun _ _ => 0) ⟨#[], #[.agg (zPk 0), .int .i64 0, .int .u8 0], []⟩).memory Tryz.f3.params.toList Rows.linkSpoiltSpec.vars false (#[.agg (zPk 0), .int .i64 0, .int .u8 0] : Array Value).toList 8 = some ([.agg [.lit (.int .i8 0), .agg [.lit (.int .u32 0), .lit (.int .u32 0)], .agg [.lit (.int .u32 0), .lit (.int .u32 0)], .lit (.int .i64 0), .lit (.int .u32 0), .lit (.int .u32 0), .agg [.lit (.int .u32 0), .lit (.int .u32 0)], .agg [.lit (.int .u32 0), .lit (.int .u32 0)], .lit (.bool false), .lit (.bool false), .agg [.agg [.lit (.int .u32 0), .lit (.int .u32 0)], .agg [.lit (.int .i8 0), .lit (.int .u32 0), .lit (.int .i64 0)], .agg [.lit (.int .i8 0), .lit (.string []), .nil, .nil, .lit (.int .i32 0), .lit (.bool false), .lit (.bool false), .lit (.int .i64 0), .lit (.int .i32 0), .nil, .nil]], .nil, .lit (.int .i64 0)], .lit (.int .i64 0), .lit (.int .u8 0)], [], places) :=
  ⟨[], by kernel_rfl⟩

set_option maxRecDepth 100000 in
theorem lifted (os : Os) (started : os.Started) (H : Type) (enc : TypeId × Value → H) (F : Stop.Interp) :
    ReturnsInHanded {} Tryz.checked os 3 .any ((OpenSpec.ofChange Rows.linkSpoiltSpec).preRow enc Tryz.prog Tryz.f3 Rows.linkSpoiltRow.domain false Rows.linkSpoiltRow.laid) (((OpenSpec.ofChange Rows.linkSpoiltSpec).at F).post enc Tryz.prog Tryz.f3 false true false false) := by
  obtain ⟨places, hx⟩ := reads os enc
  refine returnsInHanded_of_row (C := Tryz.checked) (s := OpenSpec.ofChange Rows.linkSpoiltSpec) own started (by kernel_rfl) Tryz.func3
    (witness_row_at (enc := enc) (C := Tryz.checked) false (laidWorld os) #[.agg (zPk 0), .int .i64 0, .int .u8 0] rfl (by kernel_rfl) (by kernel_rfl) (by kernel_rfl)
      (OpenSpec.preRow_of_cond 8 hx (by kernel_rfl) (fun k hk => by cases hk) (by kernel_rfl) (laid_met os))) ?_
  intro W base args ds gs before hval hW _ _ hsz hL _ _
  exact contract H enc W base args ds gs before hval hW hsz hL

theorem said : Rows.LinkSpoiltSaid :=
  OpenClaim.holds_of_cond 3 Tryz.f3 rfl rfl rfl rfl rfl rfl rfl ⟨rfl, rfl, rfl, rfl, rfl⟩ rfl rfl rfl rfl rfl (by kernel_rfl) Tryz.func3 (by kernel_rfl)
    (of_decide_eq_true (by kernel_rfl)) (by unfold Func.isWrapper; first | (rw [if_pos (by decide +kernel)]; kernel_rfl) | (rw [if_neg (by decide +kernel)]; exact ⟨rfl, rfl⟩))
    (fun os started H enc _ F => by rw [OpenClaim.pre_eq_preRow]; exact lifted os started H enc F)

/-- No parameter wants a stand-in; the program's own looks are off. -/
theorem plain (f : FuncId) (fn : Func) (hf : Tryz.pinned.checked.prog.funcNamed "lagoon/lagoonlaw22.LinkSpoilt" = some f) (hfn : Tryz.pinned.checked.prog.funcs[f]? = some fn) :
    false = Tryz.pinned.checked.prog.looks [] ∧ ∀ (j : Nat) t, fn.params[j]? = some t → Tryz.pinned.checked.prog.wantsStandIn t = false := by
  obtain rfl : f = 3 := Option.some.inj ((show Tryz.prog.funcNamed "lagoon/lagoonlaw22.LinkSpoilt" = some 3 by kernel_rfl).symm.trans hf) |>.symm
  obtain rfl : fn = Tryz.f3 := (Option.some.inj (Tryz.func3.symm.trans hfn)).symm
  refine ⟨by kernel_rfl, fun j t ht => ?_⟩
  rw [Tryz.params3] at ht
  have hm := Array.mem_of_getElem? ht
  simp at hm
  rcases hm with rfl | rfl | rfl
  · exact (show Tryz.prog.wantsStandIn 39 = false by kernel_rfl)
  · exact (show Tryz.prog.wantsStandIn 3 = false by kernel_rfl)
  · exact (show Tryz.prog.wantsStandIn 5 = false by kernel_rfl)
end linkSpoilt

/-- The card. -/
theorem linkSpoilt_card : Rows.LinkSpoiltCardSaid :=
  Claim7.holds_tied_plain_at .later [] _ _ _ _ linkSpoilt.said (fun _ h => by cases h) (by kernel_rfl) (fun _ h => by cases h) linkSpoilt_row_tie rfl ⟨rfl, rfl⟩ (by kernel_rfl) rfl linkSpoilt.plain (by kernel_rfl)
#print axioms linkSpoilt_card
end Go.Proofs.YtldcbabgommghaaGreatDoor
