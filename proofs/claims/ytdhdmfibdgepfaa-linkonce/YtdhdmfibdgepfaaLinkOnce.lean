/- LinkOnce is true for every list of texts and every list of picks: of messages that are sent, none doubled, each arrives just once, in whatever order they are taken. No condition. -/
import Derived.Test.YtdhdmfibdgepfaaRows
import Derived.Test.YtdhdmfibdgepfaaLkX
namespace Go.Proofs.Ytdhdmfibdgepfaa
open Go.ChangeShapes Go.WideShapes Go.ChangeAt Go.RowKit
set_option maxRecDepth 8000
namespace linkOnce
set_option linter.unusedVariables false

/-! ### The row's step -/
set_option maxRecDepth 100000 in
set_option maxHeartbeats 4000000 in
theorem lifted (os : Os) (started : os.Started) (H : Type) (enc : TypeId × Value → H) :
    ReturnsInHanded {} Try.checked os 4 .any (Rows.linkOnceSpec.pre6 enc Try.prog Try.f4 Rows.linkOnceRow.domain false) (Rows.linkOnceSpec.post enc Try.prog Try.f4 false true false false) := by
  refine returnsInHanded_of_change_sized (C := Try.checked) Try.own started (by kernel_rfl) Try.func4
    (ChangeSpec.witness6 (enc := enc) (C := Try.checked) false ⟨#[], #[.slice none 0 0, .slice none 0 0], []⟩ 8 (by kernel_rfl) (by kernel_rfl) (by kernel_rfl) (by kernel_rfl)) ?_
  intro W base args ds gs before hval0 hW hcnd hsz _
  have hval : ∀ (j : Nat) t v, Try.f4.params[j]? = some t → args[j]? = some v → Value.okWide Try.prog W .any base t v := hval0
  have hW' := hW
  obtain ⟨p, q, hA0, hV, rfl, hfz, hnd⟩ := hW
  have hA : DataW.TrodAll enc Try.prog W 0 (fun _ => true) true Try.f4.params.toList args.toList ds p := hA0
  rw [Try.params4] at hA hval hsz
  obtain ⟨v0, vs0, d0, ds0, p0, q0, hargs, rfl, rfl, h0, r0⟩ := trodAll_cons hA
  obtain ⟨v1, vs1, d1, ds1, p1, q1, rfl, rfl, rfl, h1, r1⟩ := trodAll_cons r0
  obtain ⟨rfl, rfl, rfl⟩ := trodAll_nil r1
  obtain rfl : args = #[v0, v1] := by cases args; simp_all
  obtain ⟨rfl, rfl⟩ := trodVars_none hV
  obtain ⟨a0, len0, cap0, rfl⟩ := okWide_slice Try.underlying44 (hval 0 44 v0 rfl rfl)
  obtain ⟨a1, len1, cap1, rfl⟩ := okWide_slice Try.underlying45 (hval 1 45 v1 rfl rfl)
  have k0 := h0
  have lt0 : ∀ x ∈ p0, x.block < W.heap.size := by obtain ⟨m, hm⟩ := k0; exact DataW.trod_lt m _ _ _ hm
  have k1 := h1
  have lt1 : ∀ x ∈ p1, x.block < W.heap.size := by obtain ⟨m, hm⟩ := k1; exact DataW.trod_lt m _ _ _ hm
  have hw0 : (d0.weights Try.prog 44).all (· ≤ reachBytes) = true := by
    rw [List.all_eq_true] at hsz ⊢
    intro m hm
    exact hsz m (DataW.weights_mem_each (j := 0) (t := 44) (d := d0) rfl rfl m hm)
  obtain ⟨xs0, hs0, hl0⟩ : ∃ xs : List BbT, SeesBb W (.slice a0 len0 cap0) xs ∧ xs.length ≤ 140737488355328 := by
    obtain ⟨fuel, hf⟩ := h0
    exact open_bbT (show DataW.trod enc Try.prog W 0 (fun _ => true) true fuel 44 [.slice a0 len0 cap0] = some (d0, p0) from hf) hw0
  have hw1 : (d1.weights Try.prog 45).all (· ≤ reachBytes) = true := by
    rw [List.all_eq_true] at hsz ⊢
    intro m hm
    exact hsz m (DataW.weights_mem_each (j := 1) (t := 45) (d := d1) rfl rfl m hm)
  obtain ⟨xs1, hs1, hl1⟩ : ∃ xs : List Int, SeesNl W (.slice a1 len1 cap1) xs ∧ xs.length ≤ 140737488355328 := by
    obtain ⟨fuel, hf⟩ := h1
    exact open_numsL (show DataW.trod enc Try.prog W 0 (fun _ => true) true fuel 45 [.slice a1 len1 cap1] = some (d1, p1) from hf) hw1
  clear hA0 hval0
  refine (once_walk22 _ xs0 _ xs1 W hs0 hl0 hs1 hl1).mono fun e W' ⟨he, bel⟩ => ?_
  subst he
  exact ⟨_, rfl, _, _, _, [], _, [], hW', trodAll_mk1 (shut_bool Try.underlying4 _), (trodAll_cons_mk (Below.trod Try.laidOut (by kernel_rfl) (of_decide_eq_true (by kernel_rfl)) k0 bel lt0) (trodAll_cons_mk (Below.trod Try.laidOut (by kernel_rfl) (of_decide_eq_true (by kernel_rfl)) k1 bel lt1) trodAll_mk0)), rfl, bel.frame _, fun h => by cases h⟩

theorem over : Rows.linkOnceRow.holds Try.pinned (OpenSpec.ofChange Rows.linkOnceSpec) :=
  OpenClaim.holds_of_wide 4 Try.f4 rfl rfl rfl rfl rfl rfl rfl ⟨rfl, rfl, rfl, rfl, rfl⟩ rfl rfl rfl rfl rfl (by kernel_rfl) Try.func4 (by kernel_rfl)
    (of_decide_eq_true (by kernel_rfl)) (by unfold Func.isWrapper; first | (rw [if_pos (by decide +kernel)]; kernel_rfl) | (rw [if_neg (by decide +kernel)]; exact ⟨rfl, rfl⟩))
    (fun os started H enc _ => lifted os started H enc)

end linkOnce

/-- The statement. -/
theorem linkOnce_holds : Rows.LinkOnceSaid := linkOnce.over
#print axioms linkOnce_holds
end Go.Proofs.Ytdhdmfibdgepfaa
