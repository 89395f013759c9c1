/- QuorumNone is true for every server, every set and every zxid: nil and plain Systems have no server, no quorum, and no Acks; nil and plain Acks take nothing and tell nothing. No condition. -/
import Derived.Test.YtlnoighjdmjdeaaRows
import Derived.Test.YtlnoighjdmjdeaaQuS
import Derived.Test.YtlnoighjdmjdeaaQuO
namespace Go.Proofs.Ytlnoighjdmjdeaa
open Go.ChangeShapes Go.WideShapes Go.ChangeAt Go.RowKit
set_option maxRecDepth 8000
namespace quorumNone
set_option linter.unusedVariables false

/-! ### The row's step -/
set_option maxRecDepth 100000 in
set_option maxHeartbeats 4000000 in
theorem lifted (os : Os) (started : os.Started) (H : Type) (enc : TypeId × Value → H) :
    ReturnsInHanded {} Try.checked os 7 .any (Rows.quorumNoneSpec.pre6 enc Try.prog Try.f7 Rows.quorumNoneRow.domain false) (Rows.quorumNoneSpec.post enc Try.prog Try.f7 false true false false) := by
  refine returnsInHanded_of_change_sized (C := Try.checked) Try.own started (by kernel_rfl) Try.func7
    (ChangeSpec.witness6 (enc := enc) (C := Try.checked) false ⟨#[], #[.int .i8 0, .int .u8 0, .agg #[.int .u32 0, .int .u32 0]], []⟩ 8 (by kernel_rfl) (by kernel_rfl) (by kernel_rfl) (by kernel_rfl)) ?_
  intro W base args ds gs before hval0 hW hcnd hsz _
  have hval : ∀ (j : Nat) t v, Try.f7.params[j]? = some t → args[j]? = some v → Value.okWide Try.prog W .any base t v := hval0
  have hW' := hW
  obtain ⟨p, q, hA0, hV, rfl, hfz, hnd⟩ := hW
  have hA : DataW.TrodAll enc Try.prog W 0 (fun _ => true) true Try.f7.params.toList args.toList ds p := hA0
  rw [Try.params7] at hA hval hsz
  obtain ⟨v0, vs0, d0, ds0, p0, q0, hargs, rfl, rfl, h0, r0⟩ := trodAll_cons hA
  obtain ⟨v1, vs1, d1, ds1, p1, q1, rfl, rfl, rfl, h1, r1⟩ := trodAll_cons r0
  obtain ⟨v2, vs2, d2, ds2, p2, q2, rfl, rfl, rfl, h2, r2⟩ := trodAll_cons r1
  obtain ⟨rfl, rfl, rfl⟩ := trodAll_nil r2
  obtain rfl : args = #[v0, v1, v2] := by cases args; simp_all
  obtain ⟨rfl, rfl⟩ := trodVars_none hV
  obtain ⟨n0, rfl⟩ := okWide_int Try.underlying48 (hval 0 48 v0 rfl rfl)
  obtain ⟨n1, rfl⟩ := okWide_int Try.underlying5 (hval 1 5 v1 rfl rfl)
  obtain ⟨ca2, rfl, _⟩ := okWide_struct Try.underlying38 (hval 2 38 v2 rfl rfl)
  obtain ⟨cs2, rfl⟩ : ∃ cl : List Value, ca2 = cl.toArray := ⟨ca2.toList, by simp⟩
  have k0 := h0
  have lt0 : ∀ x ∈ p0, x.block < W.heap.size := by obtain ⟨m, hm⟩ := k0; exact DataW.trod_lt m _ _ _ hm
  have k1 := h1
  have lt1 : ∀ x ∈ p1, x.block < W.heap.size := by obtain ⟨m, hm⟩ := k1; exact DataW.trod_lt m _ _ _ hm
  have k2 := h2
  have lt2 : ∀ x ∈ p2, x.block < W.heap.size := by obtain ⟨m, hm⟩ := k2; exact DataW.trod_lt m _ _ _ hm
  have hb0 : -128 ≤ n0 ∧ n0 ≤ 127 := by
    obtain ⟨fuel, hf⟩ := h0
    obtain ⟨m, e, _, hwf⟩ := DataW.trod_int Try.underlying48 (show DataW.trod enc Try.prog W 0 (fun _ => true) true fuel 48 [.int .i8 n0] = some (d0, p0) from hf)
    simp at e
    subst e
    exact bounds_i8 hwf
  have hb1 : 0 ≤ n1 ∧ n1 ≤ 255 := by
    obtain ⟨fuel, hf⟩ := h1
    obtain ⟨m, e, _, hwf⟩ := DataW.trod_int Try.underlying5 (show DataW.trod enc Try.prog W 0 (fun _ => true) true fuel 5 [.int .u8 n1] = some (d1, p1) from hf)
    simp at e
    subst e
    exact bounds_u8 hwf
  obtain ⟨e2, f2, rfl, hz2⟩ : ∃ e n : Int, cs2 = [.int .u32 e, .int .u32 n] ∧ (0 ≤ e ∧ e ≤ 4294967295) ∧ 0 ≤ n ∧ n ≤ 4294967295 := by
    obtain ⟨fuel, hf⟩ := h2
    exact open_zxQ (show DataW.trod enc Try.prog W 0 (fun _ => true) true fuel 38 cs2 = some (d2, p2) from hf)
  clear hA0 hval0
  refine (none_row20 n0 n1 e2 f2 W hb0 hb1 hz2).mono fun e W' ⟨he, bel⟩ => ?_
  subst he
  exact ⟨_, rfl, _, _, _, [], _, [], hW', trodAll_mk1 (shut_bool Try.underlying4 _), (trodAll_cons_mk (Below.trod Try.laidOut (by kernel_rfl) (of_decide_eq_true (by kernel_rfl)) k0 bel lt0) (trodAll_cons_mk (Below.trod Try.laidOut (by kernel_rfl) (of_decide_eq_true (by kernel_rfl)) k1 bel lt1) (trodAll_cons_mk (Below.trod Try.laidOut (by kernel_rfl) (of_decide_eq_true (by kernel_rfl)) k2 bel lt2) trodAll_mk0))), rfl, bel.frame _, fun h => by cases h⟩

theorem over : Rows.quorumNoneRow.holds Try.pinned (OpenSpec.ofChange Rows.quorumNoneSpec) :=
  OpenClaim.holds_of_wide 7 Try.f7 rfl rfl rfl rfl rfl rfl rfl ⟨rfl, rfl, rfl, rfl, rfl⟩ rfl rfl rfl rfl rfl (by kernel_rfl) Try.func7 (by kernel_rfl)
    (of_decide_eq_true (by kernel_rfl)) (by unfold Func.isWrapper; first | (rw [if_pos (by decide +kernel)]; kernel_rfl) | (rw [if_neg (by decide +kernel)]; exact ⟨rfl, rfl⟩))
    (fun os started H enc _ => lifted os started H enc)

end quorumNone

/-- The statement. -/
theorem quorumNone_holds : Rows.QuorumNoneSaid := quorumNone.over
#print axioms quorumNone_holds
end Go.Proofs.Ytlnoighjdmjdeaa
