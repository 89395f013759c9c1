/- AclPerms of the statements of layer 6 answers true for every number and every text: acl.Perms and acl.ParsePerms answer as the document's do, and what Perms writes is read as the number it was. The card: the table of letters stands as the program's text lays it (so do two tables of package unicode/utf8, which no proof here reads). -/
import Derived.Test.YtadidhgaeegokaaDoorCards
import Derived.Test.YtadidhgaeegokaaDoorTie
import Derived.Test.YtadidhgaeegokaaDoorQcX
import Derived.Deep.DeepHandedRow
import Derived.SizedLaws
import Derived.Lib.LaidTab
import Derived.Lib.SmallJoins
import Derived.Stop.LaidErr
import Derived.WideKeyPair
import Derived.ProofKit
import Derived.OpenShut
import Derived.ShutString
import Derived.ChangeOld
namespace Go.Proofs.YtadidhgaeegokaaDoor
open Go.ChangeShapes Go.WideShapes Go.ChangeAt Go.RowKit Go.Joins
open Go.ChangeMaps (open_string shut_string)
set_option maxRecDepth 8000
theorem Tryd.own : ownKnob Tryd.prog.godebug = none := by kernel_rfl

namespace aclPerms
set_option linter.unusedVariables false

theorem laidOut : laidOutB Tryd.prog = true := by kernel_rfl
theorem let_global : Tryd.prog.globalNamed "lagoon/acl.letters" = some 0 := by kernel_rfl
theorem let_type : (Tryd.prog.globals[0]?).map (·.type) = some 52 := by kernel_rfl
theorem cellsS : Tryd.prog.cellsOf 51 = 2 := by kernel_rfl
theorem cellsR : Tryd.prog.cellsOf 21 = 1 := by kernel_rfl
theorem cellsB : Tryd.prog.cellsOf 5 = 1 := by kernel_rfl

/-- One letter of the table. -/
theorem one {W : World} {fuel : Nat} {cs : List Value} {p : List MemPlace} {r s : Int} (h : DataW.trod (fun _ => ()) Tryd.prog W 0 (fun _ => true) false fuel 51 cs = some (.agg [.lit (.int .i32 r), .lit (.int .u8 s)], p)) : cs = [.int .i32 r, .int .u8 s] := by
  obtain ⟨y0, y1, n, hx, hl, t0, t1⟩ := trod_struct2 Tryd.underlying51 h
  rw [cellsS] at hl
  obtain ⟨z0, e0, rfl, _⟩ := DataW.trod_int Tryd.underlying21 t0
  obtain ⟨z1, e1, rfl, _⟩ := DataW.trod_int Tryd.underlying5 t1
  rw [cellsR] at e0
  rw [cellsB] at e1
  match cs, hl with
  | [c0, c1], _ =>
    simp at e0 e1 hx
    rw [e0, e1, hx.1.1, hx.1.2]

/-- What the row's list gives: the table of letters stands. -/
theorem table {W : World} (h : laidMetH Tryd.prog Rows.aclPermsRow.laid W) : Ltr W := by
  have h1 : laidMet Tryd.prog [("unicode/utf8.acceptRanges", Rows.laid_unicode_utf8_acceptRanges), ("lagoon/acl.letters", Rows.laid_lagoon_acl_letters), ("unicode/utf8.first", Rows.laid_unicode_utf8_first)] W := h
  obtain ⟨ps, ⟨g, t, cs, fuel, p, q, hg, ht, hvar, hd, _, _⟩, _⟩ := laidMet.tail h1
  obtain rfl := Option.some.inj (let_global.symm.trans hg)
  obtain rfl := Option.some.inj (let_type.symm.trans ht)
  obtain ⟨xs, m, _, hx, hl, hlen, hat⟩ := DataW.trod_array Tryd.underlying52 hd
  rw [cellsS] at hat
  have hxs := congrArg Prod.fst hx
  dsimp only [Rows.laid_lagoon_acl_letters] at hxs
  injection hxs with hxs
  match xs, hlen with
  | [x0, x1, x2, x3, x4], _ =>
    simp only [List.map_cons, List.map_nil, List.cons.injEq, and_true] at hxs
    obtain ⟨a0, a1, a2, a3, a4⟩ := hxs
    have g0 := hat 0 (by omega)
    have g1 := hat 1 (by omega)
    have g2 := hat 2 (by omega)
    have g3 := hat 3 (by omega)
    have g4 := hat 4 (by omega)
    have c0 := one (g0.trans (congrArg some (Prod.ext a0.symm rfl)))
    have c1 := one (g1.trans (congrArg some (Prod.ext a1.symm rfl)))
    have c2 := one (g2.trans (congrArg some (Prod.ext a2.symm rfl)))
    have c3 := one (g3.trans (congrArg some (Prod.ext a3.symm rfl)))
    have c4 := one (g4.trans (congrArg some (Prod.ext a4.symm rfl)))
    have hrow : ∃ tt fr, W.heap[0]? = some (.cells cs tt fr) := by
      unfold World.var? at hvar
      rw [let_global] at hvar
      simp only [Option.bind_some] at hvar
      split at hvar
      · rename_i cs' tt fr hh
        cases hvar
        exact ⟨tt, fr, hh⟩
      · cases hvar
    obtain ⟨tt, fr, hrow⟩ := hrow
    have cell : ∀ (i j : Nat) (x y : Value), (cs.toList.drop (i * 2)).take 2 = [x, y] → W.cell? ⟨0, i * 2, none⟩ = some x ∧ W.cell? ⟨0, i * 2 + 1, none⟩ = some y := by
      intro i _ x y hh
      have q0 := congrArg (·[0]?) hh
      have q1 := congrArg (·[1]?) hh
      simp [List.getElem?_drop] at q0 q1
      refine ⟨?_, ?_⟩
      · rw [cell_of_row W _ _ _ _ _ hrow]; exact q0
      · rw [cell_of_row W _ _ _ _ _ hrow]; exact q1
    obtain ⟨k0, k1⟩ := cell 0 0 _ _ c0
    obtain ⟨k2, k3⟩ := cell 1 0 _ _ c1
    obtain ⟨k4, k5⟩ := cell 2 0 _ _ c2
    obtain ⟨k6, k7⟩ := cell 3 0 _ _ c3
    obtain ⟨k8, k9⟩ := cell 4 0 _ _ c4
    exact ⟨k0, k1, k2, k3, k4, k5, k6, k7, k8, k9⟩

/-- What the walk gives, for all arguments and every world that holds the table. -/
theorem contract (H : Type) (enc : TypeId × Value → H) (W : World) (base : Nat) (args : Array Value) (ds gs : List (DataW H)) (before : List MemPlace)
    (hval : ∀ (j : Nat) t v, Tryd.f4.params[j]? = some t → args[j]? = some v → Value.okWide Tryd.prog W .any base t v)
    (hW : DataW.Whole enc Tryd.prog Tryd.f4.params.toList Rows.aclPermsSpec.vars false W args.toList ds gs before) (hL : laidMetH Tryd.prog Rows.aclPermsRow.laid W) :
    Calls Tryd.prog 4 args W fun e W' => ∃ v, e = .returned v ∧ Rows.aclPermsSpec.post enc Tryd.prog Tryd.f4 false true false false W args v W' := by
  have hW' := hW
  obtain ⟨p, q, hA0, hV, rfl, hfz, hnd⟩ := hW
  have hA : DataW.TrodAll enc Tryd.prog W 0 (fun _ => true) true Tryd.f4.params.toList args.toList ds p := hA0
  rw [Tryd.params4] at hA hval
  obtain ⟨v0, vs0, d0, ds0, p0, q0, hargs, rfl, rfl, h0, r0⟩ := trodAll_cons hA
  obtain ⟨v1, vs1, d1, ds1, p1, q1, rfl, rfl, rfl, h1, r1⟩ := trodAll_cons r0
  obtain ⟨rfl, rfl, rfl⟩ := trodAll_nil r1
  obtain rfl : args = #[v0, v1] := by cases args; simp_all
  obtain ⟨rfl, rfl⟩ := trodVars_none hV
  obtain ⟨pv, rfl, rfl, rfl, wp⟩ := open_int Tryd.underlying28 (hval 0 28 v0 rfl rfl) h0
  obtain ⟨sv, rfl, rfl, rfl, ws⟩ := open_string Tryd.underlying9 (hval 1 9 v1 rfl rfl) h1
  clear hA0
  simp only [List.append_nil] at hW'
  refine (perms_walk pv sv W (table hL)).mono fun e W' ⟨he, bel⟩ => ?_
  subst he
  exact ⟨_, rfl, _, _, _, [], _, [], hW', trodAll_mk1 (shut_bool Tryd.underlying4 _), (trodAll_cons_mk (shut_int Tryd.underlying28 wp) (trodAll_cons_mk (shut_string Tryd.underlying9 ws) trodAll_mk0)), rfl, bel.frame _, fun h => by cases h⟩

/-- A block of cells that holds these. -/
def lay (cs : List Value) : Obj → Obj
  | .cells _ t frozen => .cells cs.toArray t frozen
  | o => o

mutual
/-- The cells of a datum of plain numbers. -/
def flat : DataW Unit → List Value
  | .lit (.int k v) => [.int k v]
  | .agg l => flats l
  | _ => []
def flats : List (DataW Unit) → List Value
  | [] => []
  | d :: r => flat d ++ flats r
end

/-- A world for the witness: the tables hold what their initialisers lay. -/
noncomputable def laidWorld (os : Os) : World :=
  { World.holding Tryd.prog os ⟨#[], #[], []⟩ with heap := (((World.holding Tryd.prog os ⟨#[], #[], []⟩).heap.modify 0 (lay (flat Rows.laid_lagoon_acl_letters))).modify 3 (lay (flat Rows.laid_unicode_utf8_acceptRanges))).modify 2 (lay (flat Rows.laid_unicode_utf8_first)) }
theorem laid_met (os : Os) : laidMet Tryd.prog Rows.aclPermsRow.laid ((laidWorld os).forCall (fun _ _ => 0) ⟨#[], #[.int .i8 0, .string ⟨#[]⟩], []⟩).memory :=
  laidMet_of_run' 8 (by kernel_rfl) (by kernel_rfl)
theorem reads (os : Os) {H : Type} (enc : TypeId × Value → H) : ∃ places, DataW.whole enc Tryd.prog ((laidWorld os).forCall (fun _ _ => 0) ⟨#[], #[.int .i8 0, .string ⟨#[]⟩], []⟩).memory Tryd.f4.params.toList Rows.aclPermsSpec.vars false #[Value.int .i8 0, .string ⟨#[]⟩].toList 8 = some ([.lit (.int .i8 0), .lit (.string [])], [], places) :=
  ⟨[], by kernel_rfl⟩

set_option maxRecDepth 100000 in
theorem lifted (os : Os) (started : os.Started) (H : Type) (enc : TypeId × Value → H) (F : Stop.Interp) :
    ReturnsInHanded {} Tryd.checked os 4 .any ((OpenSpec.ofChange Rows.aclPermsSpec).preRow enc Tryd.prog Tryd.f4 Rows.aclPermsRow.domain false Rows.aclPermsRow.laid) (((OpenSpec.ofChange Rows.aclPermsSpec).at F).post enc Tryd.prog Tryd.f4 false true false false) := by
  obtain ⟨places, hx⟩ := reads os enc
  refine returnsInHanded_of_row (C := Tryd.checked) (s := OpenSpec.ofChange Rows.aclPermsSpec) Tryd.own started (by kernel_rfl) Tryd.func4
    (witness_row_at (enc := enc) (C := Tryd.checked) false (laidWorld os) #[.int .i8 0, .string ⟨#[]⟩] rfl (by kernel_rfl) (by kernel_rfl) (by kernel_rfl)
      (OpenSpec.preRow_of_cond 8 hx (by kernel_rfl) (fun k hk => by cases hk) (by kernel_rfl) (laid_met os))) ?_
  intro W base args ds gs before hval hW _ _ _ hL _ _
  exact contract H enc W base args ds gs before hval hW hL

theorem said : Rows.AclPermsSaid :=
  OpenClaim.holds_of_cond 4 Tryd.f4 rfl rfl rfl rfl rfl rfl rfl ⟨rfl, rfl, rfl, rfl, rfl⟩ rfl rfl rfl rfl rfl (by kernel_rfl) Tryd.func4 (by kernel_rfl)
    (of_decide_eq_true (by kernel_rfl)) (by unfold Func.isWrapper; first | (rw [if_pos (by decide +kernel)]; kernel_rfl) | (rw [if_neg (by decide +kernel)]; exact ⟨rfl, rfl⟩))
    (fun os started H enc _ F => by rw [OpenClaim.pre_eq_preRow]; exact lifted os started H enc F)

/-- No parameter wants a stand-in; the program's own looks are off. -/
theorem plain (f : FuncId) (fn : Func) (hf : Tryd.pinned.checked.prog.funcNamed "lagoon/lagoonlaw06.AclPerms" = some f) (hfn : Tryd.pinned.checked.prog.funcs[f]? = some fn) :
    false = Tryd.pinned.checked.prog.looks [] ∧ ∀ (j : Nat) t, fn.params[j]? = some t → Tryd.pinned.checked.prog.wantsStandIn t = false := by
  obtain rfl : f = 4 := Option.some.inj ((show Tryd.prog.funcNamed "lagoon/lagoonlaw06.AclPerms" = some 4 by kernel_rfl).symm.trans hf) |>.symm
  obtain rfl : fn = Tryd.f4 := (Option.some.inj (Tryd.func4.symm.trans hfn)).symm
  refine ⟨by kernel_rfl, fun j t ht => ?_⟩
  rw [Tryd.params4] at ht
  have hm := Array.mem_of_getElem? ht
  simp at hm
  rcases hm with rfl | rfl
  · exact (show Tryd.prog.wantsStandIn 28 = false by kernel_rfl)
  · exact (show Tryd.prog.wantsStandIn 9 = false by kernel_rfl)
end aclPerms

/-- The card. -/
theorem aclPerms_card : Rows.AclPermsCardSaid :=
  Claim7.holds_tied_plain_at .later [] _ _ _ _ aclPerms.said (fun _ h => by cases h) (by kernel_rfl) (fun _ h => by cases h) aclPerms_row_tie rfl ⟨rfl, rfl⟩ (by kernel_rfl) rfl aclPerms.plain (by kernel_rfl)
#print axioms aclPerms_card
end Go.Proofs.YtadidhgaeegokaaDoor
