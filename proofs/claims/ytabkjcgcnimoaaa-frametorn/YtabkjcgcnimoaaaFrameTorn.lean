/- FrameTorn of the statements of layer 3 answers true for every list of lists of bytes and every place to cut at: of frames one behind the other, cut off anywhere, just those are read that lie in what is left whole. No condition. -/
import Derived.Test.YtabkjcgcnimoaaaRows
import Derived.Test.YtabkjcgcnimoaaaTornM1
import Derived.Test.YtabkjcgcnimoaaaTornM2
import Derived.Test.YtabkjcgcnimoaaaTornM3
import Derived.Test.YtabkjcgcnimoaaaTornZA
import Derived.Test.YtabkjcgcnimoaaaTornZB
import Derived.Test.YtabkjcgcnimoaaaTornZC
namespace Go.Proofs.Ytabkjcgcnimoaaa
open Go.ChangeShapes Go.WideShapes Go.ChangeAt Go.RowKit
set_option maxRecDepth 8000
namespace frameTorn
set_option linter.unusedVariables false

theorem walk (ao : Option Addr) (cap : Nat) (ps : List Pcd) (a1 : Int) (w : World) (h : SeesPs w (.slice ao ps.length cap) ps) :
    Calls Try.prog 3 #[.slice ao ps.length cap, .int .i64 a1] w fun e w' => e = .returned (.bool true) ∧ Below w.heap.size w w' := by
  by_cases hne : goods ps = []
  · by_cases h0 : a1 < 0
    · exact tornA ao cap ps a1 w h hne h0
    · by_cases h1 : 0 < a1
      · exact tornB ao cap ps a1 w h hne (by omega) h1
      · exact tornC ao cap ps a1 w h hne (by omega)
  · by_cases h0 : a1 < 0
    · exact torn1 ao cap ps a1 _ w h hne (Nat.le_refl _) h0 rfl
    · by_cases h1 : ((framesL (ysOf (goods ps))).length : Int) < a1
      · exact torn2 ao cap ps a1 _ w h hne (Nat.le_refl _) (by omega) rfl h1
      · exact torn3 ao cap ps a1 a1.toNat w h hne (by omega) (by omega) (by omega)

/-! ### The row's step -/
set_option maxRecDepth 100000 in
theorem lifted (os : Os) (started : os.Started) (H : Type) (enc : TypeId × Value → H) :
    ReturnsInHanded {} Try.checked os 3 .any (Rows.frameTornSpec.pre6 enc Try.prog Try.f3 Rows.frameTornRow.domain false) (Rows.frameTornSpec.post enc Try.prog Try.f3 false true false false) := by
  refine returnsInHanded_of_change (C := Try.checked) Try.own started (by kernel_rfl) Try.func3
    (ChangeSpec.witness6 (enc := enc) (C := Try.checked) false ⟨#[], #[.slice none 0 0, .int .i64 0], []⟩ 8 (by kernel_rfl) (by kernel_rfl) (by kernel_rfl) (by kernel_rfl)) ?_
  intro W base args ds gs before hval0 hW hcnd _
  have hval : ∀ (j : Nat) t v, Try.f3.params[j]? = some t → args[j]? = some v → Value.okWide Try.prog W .any base t v := hval0
  have hW' := hW
  obtain ⟨p, q, hA0, hV, rfl, hfz, hnd⟩ := hW
  have hA : DataW.TrodAll enc Try.prog W 0 (fun _ => true) true Try.f3.params.toList args.toList ds p := hA0
  rw [Try.params3] at hA hval
  obtain ⟨v0, vs0, d0, ds0, p0, q0, hargs, rfl, rfl, h0, r0⟩ := trodAll_cons hA
  obtain ⟨v1, vs1, d1, ds1, p1, q1, rfl, rfl, rfl, h1, r1⟩ := trodAll_cons r0
  obtain ⟨rfl, rfl, rfl⟩ := trodAll_nil r1
  obtain rfl : args = #[v0, v1] := by cases args; simp_all
  obtain ⟨rfl, rfl⟩ := trodVars_none hV
  obtain ⟨a0, len0, cap0, rfl⟩ := okWide_slice Try.underlying22 (hval 0 22 v0 rfl rfl)
  have k0 := h0
  have lt0 : ∀ x ∈ p0, x.block < W.heap.size := by obtain ⟨m, hm⟩ := k0; exact DataW.trod_lt m _ _ _ hm
  obtain ⟨a1, rfl, rfl, rfl, w1⟩ := open_int Try.underlying3 (hval 1 3 v1 rfl rfl) h1
  obtain ⟨ps, hlen, hs⟩ : ∃ ps : List Pcd, ps.length = len0 ∧ SeesPs W (.slice a0 len0 cap0) ps := by
    obtain ⟨fuel, hf⟩ := h0
    exact open_ps (show DataW.trod enc Try.prog W 0 (fun _ => true) true fuel 22 [.slice a0 len0 cap0] = some (d0, p0) from hf)
  subst hlen
  clear hA0 hval0
  refine (walk a0 cap0 ps a1 W hs).mono fun e W' ⟨he, bel⟩ => ?_
  subst he
  exact ⟨_, rfl, _, _, _, [], _, [], hW', trodAll_mk1 (shut_bool Try.underlying4 _), (trodAll_cons_mk (Below.trod Try.laidOut (by kernel_rfl) (of_decide_eq_true (by kernel_rfl)) k0 bel lt0) (trodAll_cons_mk (shut_int Try.underlying3 w1) trodAll_mk0)), rfl, bel.frame _, fun h => by cases h⟩

theorem over : Rows.frameTornRow.holds Try.pinned (OpenSpec.ofChange Rows.frameTornSpec) :=
  OpenClaim.holds_of_wide 3 Try.f3 rfl rfl rfl rfl rfl rfl rfl ⟨rfl, rfl, rfl, rfl, rfl⟩ rfl rfl rfl rfl rfl (by kernel_rfl) Try.func3 (by kernel_rfl)
    (of_decide_eq_true (by kernel_rfl)) (by unfold Func.isWrapper; first | (rw [if_pos (by decide +kernel)]; kernel_rfl) | (rw [if_neg (by decide +kernel)]; exact ⟨rfl, rfl⟩))
    (fun os started H enc _ => lifted os started H enc)

end frameTorn

/-- The statement. -/
theorem frameTorn_holds : Rows.FrameTornSaid := frameTorn.over
#print axioms frameTorn_holds
end Go.Proofs.Ytabkjcgcnimoaaa
