/- QuorumTwo is true for every Pair (two lists of weights and groups, two lists of calls of Put): two Acks of one System, and one of another System, know nothing of each other. No condition. -/
import Derived.Test.YtlnoighjdmjdeaaRows
import Derived.Test.YtlnoighjdmjdeaaQwK
import Derived.Test.YtlnoighjdmjdeaaQuO
namespace Go.Proofs.Ytlnoighjdmjdeaa
open Go.ChangeShapes Go.WideShapes Go.ChangeAt Go.RowKit
set_option maxRecDepth 8000
namespace quorumTwo
set_option linter.unusedVariables false

/-! ### The row's step -/
set_option maxRecDepth 100000 in
set_option maxHeartbeats 4000000 in
theorem lifted (os : Os) (started : os.Started) (H : Type) (enc : TypeId × Value → H) :
    ReturnsInHanded {} Try.checked os 4 .any (Rows.quorumTwoSpec.pre6 enc Try.prog Try.f4 Rows.quorumTwoRow.domain false) (Rows.quorumTwoSpec.post enc Try.prog Try.f4 false true false false) := by
  refine returnsInHanded_of_change_sized (C := Try.checked) Try.own started (by kernel_rfl) Try.func4
    (ChangeSpec.witness6 (enc := enc) (C := Try.checked) false ⟨#[], #[.agg #[.slice none 0 0, .slice none 0 0, .slice none 0 0, .slice none 0 0]], []⟩ 8 (by kernel_rfl) (by kernel_rfl) (by kernel_rfl) (by kernel_rfl)) ?_
  intro W base args ds gs before hval0 hW hcnd hsz _
  have hval : ∀ (j : Nat) t v, Try.f4.params[j]? = some t → args[j]? = some v → Value.okWide Try.prog W .any base t v := hval0
  have hW' := hW
  obtain ⟨p, q, hA0, hV, rfl, hfz, hnd⟩ := hW
  have hA : DataW.TrodAll enc Try.prog W 0 (fun _ => true) true Try.f4.params.toList args.toList ds p := hA0
  rw [Try.params4] at hA hval hsz
  obtain ⟨v0, vs0, d0, ds0, p0, q0, hargs, rfl, rfl, h0, r0⟩ := trodAll_cons hA
  obtain ⟨rfl, rfl, rfl⟩ := trodAll_nil r0
  obtain rfl : args = #[v0] := by cases args; simp_all
  obtain ⟨rfl, rfl⟩ := trodVars_none hV
  obtain ⟨ca0, rfl, _⟩ := okWide_struct Try.underlying56 (hval 0 56 v0 rfl rfl)
  obtain ⟨cs0, rfl⟩ : ∃ cl : List Value, ca0 = cl.toArray := ⟨ca0.toList, by simp⟩
  have k0 := h0
  have lt0 : ∀ x ∈ p0, x.block < W.heap.size := by obtain ⟨m, hm⟩ := k0; exact DataW.trod_lt m _ _ _ hm
  have hw0 : (d0.weights Try.prog 56).all (· ≤ reachBytes) = true := by
    rw [List.all_eq_true] at hsz ⊢
    intro m hm
    exact hsz m (DataW.weights_mem_each (j := 0) (t := 56) (d := d0) rfl rfl m hm)
  obtain ⟨fuel, hf⟩ := h0
  obtain ⟨sv, su, so, st, ws, gs, po, pt, rfl, s0, s1, s2, s3, hl, l2, l3⟩ := open_pairQ (show DataW.trod enc Try.prog W 0 (fun _ => true) true fuel 56 cs0 = some (d0, p0) from hf) hw0
  clear hA0 hval0
  refine (two_row sv su so st ws gs po pt W s0 s1 s2 s3 hl l2 l3).mono fun e W' ⟨he, bel⟩ => ?_
  subst he
  exact ⟨_, rfl, _, _, _, [], _, [], hW', trodAll_mk1 (shut_bool Try.underlying4 _), (trodAll_cons_mk (Below.trod Try.laidOut (by kernel_rfl) (of_decide_eq_true (by kernel_rfl)) k0 bel lt0) trodAll_mk0), rfl, bel.frame _, fun h => by cases h⟩

theorem over : Rows.quorumTwoRow.holds Try.pinned (OpenSpec.ofChange Rows.quorumTwoSpec) :=
  OpenClaim.holds_of_wide 4 Try.f4 rfl rfl rfl rfl rfl rfl rfl ⟨rfl, rfl, rfl, rfl, rfl⟩ rfl rfl rfl rfl rfl (by kernel_rfl) Try.func4 (by kernel_rfl)
    (of_decide_eq_true (by kernel_rfl)) (by unfold Func.isWrapper; first | (rw [if_pos (by decide +kernel)]; kernel_rfl) | (rw [if_neg (by decide +kernel)]; exact ⟨rfl, rfl⟩))
    (fun os started H enc _ => lifted os started H enc)

end quorumTwo

/-- The statement. -/
theorem quorumTwo_holds : Rows.QuorumTwoSaid := quorumTwo.over
#print axioms quorumTwo_holds
end Go.Proofs.Ytlnoighjdmjdeaa
