/- PathBelow of the statements of layer 5 answers true for every two texts: path.Below answers both ways what the document's own Below does. No condition. -/
import Derived.Test.YtgaemldkpfbomaaRows
import Derived.Test.YtgaemldkpfbomaaPbA
import Derived.Test.YtgaemldkpfbomaaPaY
import Derived.Test.YtgaemldkpfbomaaPaV
import Derived.Test.YtgaemldkpfbomaaPaS
namespace Go.Proofs.Ytgaemldkpfbomaa
open Go.ChangeShapes Go.WideShapes Go.ChangeAt Go.RowKit
open Go.ChangeMaps (open_string shut_string)
set_option maxRecDepth 8000
namespace pathBelow
set_option linter.unusedVariables false

set_option maxHeartbeats 1000000 in
theorem walk (p q : ByteArray) (w : World) : Calls Try.prog 7 #[.string p, .string q] w fun e w' => e = .returned (.bool true) ∧ Below w.heap.size w w' := by
  by_cases h : 2147483632 ≤ p.size
  · have hd := decide_eq_true h
    go_enter Try.func7, Try.ntmps7
    go_wp2_with fail
    refine (long_any _ _).mono ?_
    rintro e w1 ⟨rfl, rfl⟩
    rw [hd]
    go_wp2
    go_ret
    exact ⟨rfl, Below.refl _ _⟩
  · have hd := decide_eq_false h
    by_cases g : 2147483632 ≤ q.size
    · have hg := decide_eq_true g
      go_enter Try.func7, Try.ntmps7
      go_wp2_with fail
      refine (long_any _ _).mono ?_
      rintro e w1 ⟨rfl, rfl⟩
      rw [hd]
      go_wp2_with fail
      refine (long_any _ _).mono ?_
      rintro e w1 ⟨rfl, rfl⟩
      rw [hg]
      go_wp2
      go_ret
      exact ⟨rfl, Below.refl _ _⟩
    · have hg := decide_eq_false g
      have H0 : Hid (∀ w, Calls Try.prog 22 #[.string ⟨#[47, 97]⟩, .string ⟨#[47]⟩] w fun e w' => e = .returned (.bool true) ∧ Below w.heap.size w w') := fun w => by
        have := below_any ⟨#[47, 97]⟩ ⟨#[47]⟩ w (by decide)
        have e : decide ((⟨#[47]⟩ : ByteArray).data.toList ∈ abv (⟨#[47, 97]⟩ : ByteArray).data.toList) = true := by
          rw [decide_eq_true_eq]
          exact (mem_abv (p := [47, 97]) path_a (by decide) (by decide) [47]).2 (.inl rfl)
        rw [e] at this
        exact this
      obtain ⟨b1, hb1⟩ : ∃ b, b = belowB p.data.toList q.data.toList := ⟨_, rfl⟩
      obtain ⟨b2, hb2⟩ : ∃ b, b = belowB q.data.toList p.data.toList := ⟨_, rfl⟩
      have H1 : Hid (∀ w, Calls Try.prog 22 #[.string p, .string q] w fun e w' => e = .returned (.bool b1) ∧ Below w.heap.size w w') := fun w => by
        rw [hb1, ← below_doc _ _ (by rw [← size_list]; omega)]; exact below_any p q w (by omega)
      have H2 : Hid (∀ w, Calls Try.prog 22 #[.string q, .string p] w fun e w' => e = .returned (.bool b2) ∧ Below w.heap.size w w') := fun w => by
        rw [hb2, ← below_doc _ _ (by rw [← size_list]; omega)]; exact below_any q p w (by omega)
      have H3 : Hid (∀ w, Calls Try.prog 23 #[.string p, .string q] w fun e w' => e = .returned (.bool b1) ∧ Below w.heap.size w w') := fun w => by
        rw [hb1]; exact belowR_any p q w (by omega) (by omega)
      have H4 : Hid (∀ w, Calls Try.prog 23 #[.string q, .string p] w fun e w' => e = .returned (.bool b2) ∧ Below w.heap.size w w') := fun w => by
        rw [hb2]; exact belowR_any q p w (by omega) (by omega)
      clear hb1 hb2
      go_enter Try.func7, Try.ntmps7
      go_wp2_with fail
      refine (long_any _ _).mono ?_
      rintro e w1 ⟨rfl, rfl⟩
      rw [hd]
      go_wp2_with fail
      refine (long_any _ _).mono ?_
      rintro e w1 ⟨rfl, rfl⟩
      rw [hg]
      go_wp2_with fail
      refine (H0.out _).mono ?_
      rintro e w2 ⟨rfl, k2⟩
      go_wp2_with fail
      refine (H1.out _).mono ?_
      rintro e w3 ⟨rfl, k3⟩
      have j3 := k2.trans (k3.mono k2.size)
      go_wp2_with fail
      refine (H2.out _).mono ?_
      rintro e w4 ⟨rfl, k4⟩
      have j4 := j3.trans (k4.mono j3.size)
      go_wp2_with fail
      refine (H3.out _).mono ?_
      rintro e w5 ⟨rfl, k5⟩
      have j5 := j4.trans (k5.mono j4.size)
      go_wp2_with fail
      refine (H4.out _).mono ?_
      rintro e w6 ⟨rfl, k6⟩
      have HB : Hid (Below w1.heap.size w1 w6) := j5.trans (k6.mono j5.size)
      clear k2 k3 k4 k5 k6 j3 j4 j5
      go_wp2
      go_ret
      exact ⟨rfl, HB.out⟩

/-! ### The row's step -/
set_option maxRecDepth 100000 in
theorem lifted (os : Os) (started : os.Started) (H : Type) (enc : TypeId × Value → H) :
    ReturnsInHanded {} Try.checked os 7 .any (Rows.pathBelowSpec.pre6 enc Try.prog Try.f7 Rows.pathBelowRow.domain false) (Rows.pathBelowSpec.post enc Try.prog Try.f7 false true false false) := by
  refine returnsInHanded_of_change (C := Try.checked) Try.own started (by kernel_rfl) Try.func7
    (ChangeSpec.witness6 (enc := enc) (C := Try.checked) false ⟨#[], #[.string ⟨#[]⟩, .string ⟨#[]⟩], []⟩ 8 (by kernel_rfl) (by kernel_rfl) (by kernel_rfl) (by kernel_rfl)) ?_
  intro W base args ds gs before hval0 hW hcnd _
  have hval : ∀ (j : Nat) t v, Try.f7.params[j]? = some t → args[j]? = some v → Value.okWide Try.prog W .any base t v := hval0
  have hW' := hW
  obtain ⟨p, q, hA0, hV, rfl, hfz, hnd⟩ := hW
  have hA : DataW.TrodAll enc Try.prog W 0 (fun _ => true) true Try.f7.params.toList args.toList ds p := hA0
  rw [Try.params7] at hA hval
  obtain ⟨v0, vs0, d0, ds0, p0, q0, hargs, rfl, rfl, h0, r0⟩ := trodAll_cons hA
  obtain ⟨v1, vs1, d1, ds1, p1, q1, rfl, rfl, rfl, h1, r1⟩ := trodAll_cons r0
  obtain ⟨rfl, rfl, rfl⟩ := trodAll_nil r1
  obtain rfl : args = #[v0, v1] := by cases args; simp_all
  obtain ⟨rfl, rfl⟩ := trodVars_none hV
  obtain ⟨a0, rfl, rfl, rfl, w0⟩ := open_string Try.underlying9 (hval 0 9 v0 rfl rfl) h0
  obtain ⟨a1, rfl, rfl, rfl, w1⟩ := open_string Try.underlying9 (hval 1 9 v1 rfl rfl) h1
  clear hA0 hval0
  simp only [List.append_nil] at hW'
  refine (walk a0 a1 W).mono fun e W' ⟨he, hg⟩ => ?_
  subst he
  exact ⟨_, rfl, _, _, _, [], _, [], hW', trodAll_mk1 (shut_bool Try.underlying4 _), (trodAll_cons_mk (shut_string Try.underlying9 w0) (trodAll_cons_mk (shut_string Try.underlying9 w1) trodAll_mk0)), rfl, hg.frame _, fun h => by cases h⟩

theorem over : Rows.pathBelowRow.holds Try.pinned (OpenSpec.ofChange Rows.pathBelowSpec) :=
  OpenClaim.holds_of_wide 7 Try.f7 rfl rfl rfl rfl rfl rfl rfl ⟨rfl, rfl, rfl, rfl, rfl⟩ rfl rfl rfl rfl rfl (by kernel_rfl) Try.func7 (by kernel_rfl)
    (of_decide_eq_true (by kernel_rfl)) (by unfold Func.isWrapper; first | (rw [if_pos (by decide +kernel)]; kernel_rfl) | (rw [if_neg (by decide +kernel)]; exact ⟨rfl, rfl⟩))
    (fun os started H enc _ => lifted os started H enc)

end pathBelow

/-- The statement. -/
theorem pathBelow_holds : Rows.PathBelowSaid := pathBelow.over
#print axioms pathBelow_holds
end Go.Proofs.Ytgaemldkpfbomaa
