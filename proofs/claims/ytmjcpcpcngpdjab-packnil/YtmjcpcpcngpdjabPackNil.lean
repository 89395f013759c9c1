/- PackNil of the statements of layer 1 answers true for every call: every call of a nil Writer and of a nil Reader does nothing and answers what the document asks. No condition. -/
import Derived.Test.YtmjcpcpcngpdjabRows
import Derived.Test.YtmjcpcpcngpdjabNilWalk
import Derived.SizedLaws
namespace Go.Proofs.Ytmjcpcpcngpdjab
open Go.ChangeShapes Go.WideShapes Go.ChangeAt Go.RowKit
namespace packNil
set_option linter.unusedVariables false

/-! ### The row's step -/
set_option maxRecDepth 100000 in
theorem lifted (os : Os) (started : os.Started) (H : Type) (enc : TypeId × Value → H) :
    ReturnsInHanded {} Try.checked os 4 .any (Rows.packNilSpec.pre6 enc Try.prog Try.f4 Rows.packNilRow.domain false) (Rows.packNilSpec.post enc Try.prog Try.f4 false true false false) := by
  refine returnsInHanded_of_change_sized (C := Try.checked) Try.own started (by kernel_rfl) Try.func4
    (ChangeSpec.witness6 (enc := enc) (C := Try.checked) false ⟨#[], #[.agg #[.int .i64 0, .int .i64 0, .int .i64 0, .float .f64 0, .string ⟨#[]⟩, .slice none 0 0]], []⟩ 8 (by kernel_rfl) (by kernel_rfl) (by kernel_rfl) (by kernel_rfl)) ?_
  intro W base args ds gs before hval0 hW hcnd hsz _
  have hval : ∀ (j : Nat) t v, Try.f4.params[j]? = some t → args[j]? = some v → Value.okWide Try.prog W .any base t v := hval0
  have hW' := hW
  obtain ⟨p, q, hA0, hV, rfl, hfz, hnd⟩ := hW
  have hA : DataW.TrodAll enc Try.prog W 0 (fun _ => true) true Try.f4.params.toList args.toList ds p := hA0
  rw [Try.params4] at hA hval hsz
  obtain ⟨v0, vs0, d0, ds0, p0, q0, hargs, rfl, rfl, h0, r0⟩ := trodAll_cons hA
  obtain ⟨rfl, rfl, rfl⟩ := trodAll_nil r0
  obtain rfl : args = #[v0] := by cases args; simp_all
  obtain ⟨rfl, rfl⟩ := trodVars_none hV
  obtain ⟨cs, rfl, hcs⟩ := okWide_struct Try.underlying40 (hval 0 40 v0 rfl rfl)
  have k0 := h0
  have lt0 : ∀ x ∈ p0, x.block < W.heap.size := by obtain ⟨m, hm⟩ := k0; exact DataW.trod_lt m _ _ _ hm
  have hw0 : (d0.weights Try.prog 40).all (· ≤ reachBytes) = true := by
    rw [List.all_eq_true] at hsz ⊢
    intro m hm
    exact hsz m (DataW.weights_mem_each (j := 0) (t := 40) (d := d0) rfl rfl m hm)
  obtain ⟨o, hc, hg, hs, hy⟩ : ∃ o : OpD, cs.toList = [.int .i64 o.kind, .int .i64 o.on, .int .i64 o.n, .float .f64 o.x, .string o.s, .slice o.ao o.ys.length o.cap] ∧ GoodOp W o ∧ o.s.size ≤ reachBytes ∧ o.ys.length ≤ reachBytes := by
    obtain ⟨fuel, hf⟩ := h0
    exact open_op (show DataW.trod enc Try.prog W 0 (fun _ => true) true fuel 40 cs.toList = some (d0, p0) from hf) hw0
  obtain rfl : cs = #[.int .i64 o.kind, .int .i64 o.on, .int .i64 o.n, .float .f64 o.x, .string o.s, .slice o.ao o.ys.length o.cap] := by
    cases cs; simp_all
  clear hA0 hval0 hc
  refine (packNil_walk o W hg hs hy).mono fun e W' ⟨he, bel⟩ => ?_
  subst he
  exact ⟨_, rfl, _, _, _, [], _, [], hW', trodAll_mk1 (shut_bool Try.underlying4 _), (trodAll_cons_mk (Below.trod Try.laidOut (by kernel_rfl) (of_decide_eq_true (by kernel_rfl)) k0 bel lt0) trodAll_mk0), rfl, bel.frame _, fun h => by cases h⟩

theorem over : Rows.packNilRow.holds Try.pinned (OpenSpec.ofChange Rows.packNilSpec) :=
  OpenClaim.holds_of_wide 4 Try.f4 rfl rfl rfl rfl rfl rfl rfl ⟨rfl, rfl, rfl, rfl, rfl⟩ rfl rfl rfl rfl rfl (by kernel_rfl) Try.func4 (by kernel_rfl)
    (of_decide_eq_true (by kernel_rfl)) (by unfold Func.isWrapper; first | (rw [if_pos (by decide +kernel)]; kernel_rfl) | (rw [if_neg (by decide +kernel)]; exact ⟨rfl, rfl⟩))
    (fun os started H enc _ => lifted os started H enc)

end packNil

/-- The statement. -/
theorem packNil_holds : Rows.PackNilSaid := packNil.over
#print axioms packNil_holds
end Go.Proofs.Ytmjcpcpcngpdjab
