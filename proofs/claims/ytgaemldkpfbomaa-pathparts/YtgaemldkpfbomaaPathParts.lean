/- PathParts of the statements of layer 5 answers true for every text: path.Parent, Base and Above answer what the document's own do. No condition. -/
import Derived.Test.YtgaemldkpfbomaaRows
import Derived.Test.YtgaemldkpfbomaaPbF
import Derived.Test.YtgaemldkpfbomaaPbG
import Derived.Test.YtgaemldkpfbomaaPaV
import Derived.Test.YtgaemldkpfbomaaPaS
namespace Go.Proofs.Ytgaemldkpfbomaa
open Go.ChangeShapes Go.WideShapes Go.ChangeAt Go.RowKit
open Go.ChangeMaps (open_string shut_string)
set_option maxRecDepth 8000
namespace pathParts
set_option linter.unusedVariables false

set_option maxHeartbeats 1000000 in
theorem walk (p : ByteArray) (w : World) : Calls Try.prog 4 #[.string p] w fun e w' => e = .returned (.bool true) ∧ Below w.heap.size w w' := by
  by_cases h : 2147483632 ≤ p.size
  · have hd := decide_eq_true h
    go_enter Try.func4, Try.ntmps4
    go_wp2_with fail
    refine (long_any _ _).mono ?_
    rintro e w1 ⟨rfl, rfl⟩
    rw [hd]
    go_wp2
    go_ret
    exact ⟨rfl, Below.refl _ _⟩
  · have hd := decide_eq_false h
    obtain ⟨pb, hpb⟩ : ∃ pb : ByteArray, pb = ⟨(parL p.data.toList).toArray⟩ := ⟨_, rfl⟩
    obtain ⟨bb, hbb⟩ : ∃ bb : ByteArray, bb = ⟨(basL p.data.toList).toArray⟩ := ⟨_, rfl⟩
    have H1 : Hid (∀ w, Calls Try.prog 12 #[.string p] w fun e w' => e = .returned (.string pb) ∧ Below w.heap.size w w') := fun w => by rw [hpb]; exact parent_any p w (by omega)
    have H2 : Hid (∀ w, Calls Try.prog 13 #[.string p] w fun e w' => e = .returned (.string bb) ∧ Below w.heap.size w w') := fun w => by rw [hbb]; exact base_any p w (by omega)
    have H3 : Hid (∀ w, Calls Try.prog 15 #[.string p] w fun e w' => e = .returned (.string pb) ∧ Below w.heap.size w w') := fun w => by rw [hpb]; exact parentR_any p w (by omega)
    have H4 : Hid (∀ w, Calls Try.prog 16 #[.string p] w fun e w' => e = .returned (.string bb) ∧ Below w.heap.size w w') := fun w => by rw [hbb]; exact baseR_any p w (by omega)
    clear hpb hbb
    go_enter Try.func4, Try.ntmps4
    go_wp2_with fail
    refine (long_any _ _).mono ?_
    rintro e w1 ⟨rfl, rfl⟩
    rw [hd]
    go_wp2_with fail
    refine (lives_any _).mono ?_
    rintro e w2 ⟨rfl, k2⟩
    go_wp2_with fail
    refine (H1.out _).mono ?_
    rintro e w3 ⟨rfl, k3⟩
    have j3 := k2.trans (k3.mono k2.size)
    go_wp2_with fail
    refine (H2.out _).mono ?_
    rintro e w4 ⟨rfl, k4⟩
    have j4 := j3.trans (k4.mono j3.size)
    go_wp2_with fail
    refine (aboveL_any p _ (by omega)).mono ?_
    rintro e w5 ⟨v5, rfl, hr5, k5⟩
    have j5 := j4.trans (k5.mono j4.size)
    obtain ⟨a5, c5, rfl⟩ := row_shape hr5
    go_wp2_with fail
    refine (H3.out _).mono ?_
    rintro e w6 ⟨rfl, k6⟩
    have j6 := j5.trans (k6.mono j5.size)
    go_wp2_with fail
    refine (H4.out _).mono ?_
    rintro e w7 ⟨rfl, k7⟩
    have j7 := j6.trans (k7.mono j6.size)
    go_wp2_with fail
    refine (aboveR_any p _ (by omega)).mono ?_
    rintro e w8 ⟨v8, rfl, hr8, k8⟩
    have j8 := j7.trans (k8.mono j7.size)
    obtain ⟨a8, c8, rfl⟩ := row_shape hr8
    have k58 : Below w5.heap.size w5 w8 := (k6.trans (k7.mono k6.size)).trans (k8.mono (k6.trans (k7.mono k6.size)).size)
    have HR : Hid (w8.ownsRow w4.heap.size 9 1 (.slice a5 (abv p.data.toList).length c5) (abv p.data.toList).length ((abv p.data.toList).map bytesV) ∧ w8.ownsRow w7.heap.size 9 1 (.slice a8 (abv p.data.toList).length c8) (abv p.data.toList).length ((abv p.data.toList).map bytesV)) := ⟨row_kept hr5 (kept_below k58 (fun _ => False)) (fun _ _ h => h), hr8⟩
    have HJ : Hid (Below w1.heap.size w1 w8) := j8
    clear k2 k3 k4 k5 k6 k7 k8 j3 j4 j5 j6 j7 j8 hr5 hr8 k58
    go_wp2_with fail
    refine (eqTexts_same _ _ (abv p.data.toList) _ _ _ HR.out.1 HR.out.2).mono ?_
    rintro e w9 ⟨rfl, n9, rfl⟩
    go_wp2
    go_ret
    exact ⟨rfl, below_drew HJ.out n9⟩

/-! ### The row's step -/
set_option maxRecDepth 100000 in
theorem lifted (os : Os) (started : os.Started) (H : Type) (enc : TypeId × Value → H) :
    ReturnsInHanded {} Try.checked os 4 .any (Rows.pathPartsSpec.pre6 enc Try.prog Try.f4 Rows.pathPartsRow.domain false) (Rows.pathPartsSpec.post enc Try.prog Try.f4 false true false false) := by
  refine returnsInHanded_of_change (C := Try.checked) Try.own started (by kernel_rfl) Try.func4
    (ChangeSpec.witness6 (enc := enc) (C := Try.checked) false ⟨#[], #[.string ⟨#[]⟩], []⟩ 8 (by kernel_rfl) (by kernel_rfl) (by kernel_rfl) (by kernel_rfl)) ?_
  intro W base args ds gs before hval0 hW hcnd _
  have hval : ∀ (j : Nat) t v, Try.f4.params[j]? = some t → args[j]? = some v → Value.okWide Try.prog W .any base t v := hval0
  have hW' := hW
  obtain ⟨p, q, hA0, hV, rfl, hfz, hnd⟩ := hW
  have hA : DataW.TrodAll enc Try.prog W 0 (fun _ => true) true Try.f4.params.toList args.toList ds p := hA0
  rw [Try.params4] at hA hval
  obtain ⟨v0, vs0, d0, ds0, p0, q0, hargs, rfl, rfl, h0, r0⟩ := trodAll_cons hA
  obtain ⟨rfl, rfl, rfl⟩ := trodAll_nil r0
  obtain rfl : args = #[v0] := by cases args; simp_all
  obtain ⟨rfl, rfl⟩ := trodVars_none hV
  obtain ⟨a0, rfl, rfl, rfl, w0⟩ := open_string Try.underlying9 (hval 0 9 v0 rfl rfl) h0
  clear hA0 hval0
  simp only [List.append_nil] at hW'
  refine (walk a0 W).mono fun e W' ⟨he, hg⟩ => ?_
  subst he
  exact ⟨_, rfl, _, _, _, [], _, [], hW', trodAll_mk1 (shut_bool Try.underlying4 _), (trodAll_cons_mk (shut_string Try.underlying9 w0) trodAll_mk0), rfl, hg.frame _, fun h => by cases h⟩

theorem over : Rows.pathPartsRow.holds Try.pinned (OpenSpec.ofChange Rows.pathPartsSpec) :=
  OpenClaim.holds_of_wide 4 Try.f4 rfl rfl rfl rfl rfl rfl rfl ⟨rfl, rfl, rfl, rfl, rfl⟩ rfl rfl rfl rfl rfl (by kernel_rfl) Try.func4 (by kernel_rfl)
    (of_decide_eq_true (by kernel_rfl)) (by unfold Func.isWrapper; first | (rw [if_pos (by decide +kernel)]; kernel_rfl) | (rw [if_neg (by decide +kernel)]; exact ⟨rfl, rfl⟩))
    (fun os started H enc _ => lifted os started H enc)

end pathParts

/-- The statement. -/
theorem pathParts_holds : Rows.PathPartsSaid := pathParts.over
#print axioms pathParts_holds
end Go.Proofs.Ytgaemldkpfbomaa
