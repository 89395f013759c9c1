/- PathJoins of the statements of layer 5 answers true for every two texts: path.Join answers the text and the error that the document's own Join does. No condition. -/
import Derived.Test.YtgaemldkpfbomaaRows
import Derived.Test.YtgaemldkpfbomaaPbB
import Derived.Test.YtgaemldkpfbomaaPaV
import Derived.Test.YtgaemldkpfbomaaPaS
namespace Go.Proofs.Ytgaemldkpfbomaa
open Go.ChangeShapes Go.WideShapes Go.ChangeAt Go.RowKit
open Go.ChangeMaps (open_string shut_string)
set_option maxRecDepth 8000
namespace pathJoins
set_option linter.unusedVariables false

set_option maxHeartbeats 1000000 in
theorem walk (d n : ByteArray) (w : World) : Calls Try.prog 6 #[.string d, .string n] w fun e w' => e = .returned (.bool true) ∧ Below w.heap.size w w' := by
  by_cases h : 2147483632 ≤ d.size
  · have hd := decide_eq_true h
    go_enter Try.func6, Try.ntmps6
    go_wp2_with fail
    refine (long_any _ _).mono ?_
    rintro e w1 ⟨rfl, rfl⟩
    rw [hd]
    go_wp2
    go_ret
    exact ⟨rfl, Below.refl _ _⟩
  · have hd := decide_eq_false h
    by_cases g : 2147483632 ≤ n.size
    · have hg := decide_eq_true g
      go_enter Try.func6, Try.ntmps6
      go_wp2_with fail
      refine (long_any _ _).mono ?_
      rintro e w1 ⟨rfl, rfl⟩
      rw [hd]
      go_wp2_with fail
      refine (long_any _ _).mono ?_
      rintro e w1 ⟨rfl, rfl⟩
      rw [hg]
      go_wp2
      go_ret
      exact ⟨rfl, Below.refl _ _⟩
    · have hg := decide_eq_false g
      by_cases gg : 2147483632 ≤ (d ++ n).size
      · have hgg := decide_eq_true gg
        go_enter Try.func6, Try.ntmps6
        go_wp2_with fail
        refine (long_any _ _).mono ?_
        rintro e w1 ⟨rfl, rfl⟩
        rw [hd]
        go_wp2_with fail
        refine (long_any _ _).mono ?_
        rintro e w1 ⟨rfl, rfl⟩
        rw [hg]
        go_wp2_with fail
        refine (long_any _ _).mono ?_
        rintro e w1 ⟨rfl, rfl⟩
        rw [hgg]
        go_wp2
        go_ret
        exact ⟨rfl, Below.refl _ _⟩
      · have hgg := decide_eq_false gg
        have hv : ∃ (a : ByteArray) (b : Int), joinV d.data.toList n.data.toList = .tuple #[.string a, .int .i64 b] := by
          unfold joinV; split
          · exact ⟨_, _, rfl⟩
          · exact ⟨_, _, rfl⟩
        obtain ⟨a, b, hab⟩ := hv
        have H1 : Hid (∀ w, Calls Try.prog 20 #[.string d, .string n] w fun e w' => e = .returned (.tuple #[.string a, .int .i64 b]) ∧ Below w.heap.size w w') := fun w => by
          rw [← hab]; exact join_any d n w (by omega) (by omega)
        have H2 : Hid (∀ w, Calls Try.prog 21 #[.string d, .string n] w fun e w' => e = .returned (.tuple #[.string a, .int .i64 b]) ∧ Below w.heap.size w w') := fun w => by
          rw [← hab]; exact joinR_any d n w (by omega) (by omega)
        clear hab
        go_enter Try.func6, Try.ntmps6
        go_wp2_with fail
        refine (long_any _ _).mono ?_
        rintro e w1 ⟨rfl, rfl⟩
        rw [hd]
        go_wp2_with fail
        refine (long_any _ _).mono ?_
        rintro e w1 ⟨rfl, rfl⟩
        rw [hg]
        go_wp2_with fail
        refine (long_any _ _).mono ?_
        rintro e w1 ⟨rfl, rfl⟩
        rw [hgg]
        go_wp2_with fail
        refine (lives_any _).mono ?_
        rintro e w2 ⟨rfl, k2⟩
        go_wp2_with fail
        refine (H1.out _).mono ?_
        rintro e w3 ⟨rfl, k3⟩
        have j3 := k2.trans (k3.mono k2.size)
        go_wp2_with fail
        refine (H2.out _).mono ?_
        rintro e w4 ⟨rfl, k4⟩
        have HB : Hid (Below w1.heap.size w1 w4) := j3.trans (k4.mono j3.size)
        clear k2 k3 k4 j3
        go_wp2
        go_ret
        exact ⟨rfl, HB.out⟩

/-! ### The row's step -/
set_option maxRecDepth 100000 in
theorem lifted (os : Os) (started : os.Started) (H : Type) (enc : TypeId × Value → H) :
    ReturnsInHanded {} Try.checked os 6 .any (Rows.pathJoinsSpec.pre6 enc Try.prog Try.f6 Rows.pathJoinsRow.domain false) (Rows.pathJoinsSpec.post enc Try.prog Try.f6 false true false false) := by
  refine returnsInHanded_of_change (C := Try.checked) Try.own started (by kernel_rfl) Try.func6
    (ChangeSpec.witness6 (enc := enc) (C := Try.checked) false ⟨#[], #[.string ⟨#[]⟩, .string ⟨#[]⟩], []⟩ 8 (by kernel_rfl) (by kernel_rfl) (by kernel_rfl) (by kernel_rfl)) ?_
  intro W base args ds gs before hval0 hW hcnd _
  have hval : ∀ (j : Nat) t v, Try.f6.params[j]? = some t → args[j]? = some v → Value.okWide Try.prog W .any base t v := hval0
  have hW' := hW
  obtain ⟨p, q, hA0, hV, rfl, hfz, hnd⟩ := hW
  have hA : DataW.TrodAll enc Try.prog W 0 (fun _ => true) true Try.f6.params.toList args.toList ds p := hA0
  rw [Try.params6] at hA hval
  obtain ⟨v0, vs0, d0, ds0, p0, q0, hargs, rfl, rfl, h0, r0⟩ := trodAll_cons hA
  obtain ⟨v1, vs1, d1, ds1, p1, q1, rfl, rfl, rfl, h1, r1⟩ := trodAll_cons r0
  obtain ⟨rfl, rfl, rfl⟩ := trodAll_nil r1
  obtain rfl : args = #[v0, v1] := by cases args; simp_all
  obtain ⟨rfl, rfl⟩ := trodVars_none hV
  obtain ⟨a0, rfl, rfl, rfl, w0⟩ := open_string Try.underlying9 (hval 0 9 v0 rfl rfl) h0
  obtain ⟨a1, rfl, rfl, rfl, w1⟩ := open_string Try.underlying9 (hval 1 9 v1 rfl rfl) h1
  clear hA0 hval0
  simp only [List.append_nil] at hW'
  refine (walk a0 a1 W).mono fun e W' ⟨he, hg⟩ => ?_
  subst he
  exact ⟨_, rfl, _, _, _, [], _, [], hW', trodAll_mk1 (shut_bool Try.underlying4 _), (trodAll_cons_mk (shut_string Try.underlying9 w0) (trodAll_cons_mk (shut_string Try.underlying9 w1) trodAll_mk0)), rfl, hg.frame _, fun h => by cases h⟩

theorem over : Rows.pathJoinsRow.holds Try.pinned (OpenSpec.ofChange Rows.pathJoinsSpec) :=
  OpenClaim.holds_of_wide 6 Try.f6 rfl rfl rfl rfl rfl rfl rfl ⟨rfl, rfl, rfl, rfl, rfl⟩ rfl rfl rfl rfl rfl (by kernel_rfl) Try.func6 (by kernel_rfl)
    (of_decide_eq_true (by kernel_rfl)) (by unfold Func.isWrapper; first | (rw [if_pos (by decide +kernel)]; kernel_rfl) | (rw [if_neg (by decide +kernel)]; exact ⟨rfl, rfl⟩))
    (fun os started H enc _ => lifted os started H enc)

end pathJoins

/-- The statement. -/
theorem pathJoins_holds : Rows.PathJoinsSaid := pathJoins.over
#print axioms pathJoins_holds
end Go.Proofs.Ytgaemldkpfbomaa
