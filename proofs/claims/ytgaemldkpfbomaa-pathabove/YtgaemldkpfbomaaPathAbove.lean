/- PathAbove of the statements of layer 5 answers true for every text and number: path.Above may be gone over several times and left early, and gives what the document's own Above does. No condition. -/
import Derived.Test.YtgaemldkpfbomaaRows
import Derived.Test.YtgaemldkpfbomaaPbH
import Derived.Test.YtgaemldkpfbomaaPaS
namespace Go.Proofs.Ytgaemldkpfbomaa
open Go.ChangeShapes Go.WideShapes Go.ChangeAt Go.RowKit
open Go.ChangeMaps (open_string shut_string)
set_option maxRecDepth 8000
namespace pathAbove
set_option linter.unusedVariables false

set_option maxHeartbeats 1000000 in
theorem walk (p : ByteArray) (a : Int) (wa : (Lit.int .i64 a).wf = true) (w : World) : Calls Try.prog 5 #[.string p, .int .i64 a] w fun e w' => e = .returned (.bool true) ∧ Below w.heap.size w w' := by
  have hb := bounds_i64 wa
  by_cases h : 2147483632 ≤ p.size
  · have hd := decide_eq_true h
    refine (callsIn_wide (n := 0)).1 ?_
    refine callsIn_of_wp_marks Try.func5 rfl trivial ?_ rfl
    simp only [Try.ntmps5, List.size_toArray, List.length_cons, List.length_nil, Nat.reduceAdd, Nat.reduceSub, Array.replicate_succ, Array.replicate_zero, List.push_toArray, List.append_toArray, List.nil_append, List.cons_append]
    gi_wp2_with fail
    refine ⟨trivial, rfl, (callsIn_wide.2 (long_any _ _)).mono ?_⟩
    rintro e w1 ⟨rfl, rfl⟩
    rw [hd]
    gi_wp2
    refine ⟨.bool true, ?_, rfl, ((Below.refl _ w).alloc (Nat.le_refl _) _).alloc (by simp) _⟩
    have y0 : ((w.alloc (.cells #[.int .i64 a] 3)).alloc (.cells #[.bool true] 4)).cell? ⟨w.heap.size + 1, 0, none⟩ = some (.bool true) := by
      have := heap_alloc_new (w.alloc (.cells #[.int .i64 a] 3)) (.cells #[.bool true] 4)
      rw [World.size_alloc] at this
      exact cell_of_row _ (w.heap.size + 1) 0 _ _ _ this
    have hres : Try.f5.results = #[.cell 4 4] := by kernel_rfl
    simp only [results, hres]
    go_simp
  · by_cases ha : 0 ≤ a
    · exact pathAbove_main p a ha (by omega) h w
    · have hd := decide_eq_false h
      refine (callsIn_wide (n := 0)).1 ?_
      refine callsIn_of_wp_marks Try.func5 rfl trivial ?_ rfl
      simp only [Try.ntmps5, List.size_toArray, List.length_cons, List.length_nil, Nat.reduceAdd, Nat.reduceSub, Array.replicate_succ, Array.replicate_zero, List.push_toArray, List.append_toArray, List.nil_append, List.cons_append]
      gi_wp2_with fail
      refine ⟨trivial, rfl, (callsIn_wide.2 (long_any _ _)).mono ?_⟩
      rintro e w1 ⟨rfl, rfl⟩
      rw [hd]
      gi_wp2
      refine ⟨.bool true, ?_, rfl, ((Below.refl _ w).alloc (Nat.le_refl _) _).alloc (by simp) _⟩
      have y0 : ((w.alloc (.cells #[.int .i64 a] 3)).alloc (.cells #[.bool true] 4)).cell? ⟨w.heap.size + 1, 0, none⟩ = some (.bool true) := by
        have := heap_alloc_new (w.alloc (.cells #[.int .i64 a] 3)) (.cells #[.bool true] 4)
        rw [World.size_alloc] at this
        exact cell_of_row _ (w.heap.size + 1) 0 _ _ _ this
      have hres : Try.f5.results = #[.cell 4 4] := by kernel_rfl
      simp only [results, hres]
      go_simp

/-! ### The row's step -/
set_option maxRecDepth 100000 in
theorem lifted (os : Os) (started : os.Started) (H : Type) (enc : TypeId × Value → H) :
    ReturnsInHanded {} Try.checked os 5 .any (Rows.pathAboveSpec.pre6 enc Try.prog Try.f5 Rows.pathAboveRow.domain false) (Rows.pathAboveSpec.post enc Try.prog Try.f5 false true false false) := by
  refine returnsInHanded_of_change (C := Try.checked) Try.own started (by kernel_rfl) Try.func5
    (ChangeSpec.witness6 (enc := enc) (C := Try.checked) false ⟨#[], #[.string ⟨#[]⟩, .int .i64 0], []⟩ 8 (by kernel_rfl) (by kernel_rfl) (by kernel_rfl) (by kernel_rfl)) ?_
  intro W base args ds gs before hval0 hW hcnd _
  have hval : ∀ (j : Nat) t v, Try.f5.params[j]? = some t → args[j]? = some v → Value.okWide Try.prog W .any base t v := hval0
  have hW' := hW
  obtain ⟨p, q, hA0, hV, rfl, hfz, hnd⟩ := hW
  have hA : DataW.TrodAll enc Try.prog W 0 (fun _ => true) true Try.f5.params.toList args.toList ds p := hA0
  rw [Try.params5] at hA hval
  obtain ⟨v0, vs0, d0, ds0, p0, q0, hargs, rfl, rfl, h0, r0⟩ := trodAll_cons hA
  obtain ⟨v1, vs1, d1, ds1, p1, q1, rfl, rfl, rfl, h1, r1⟩ := trodAll_cons r0
  obtain ⟨rfl, rfl, rfl⟩ := trodAll_nil r1
  obtain rfl : args = #[v0, v1] := by cases args; simp_all
  obtain ⟨rfl, rfl⟩ := trodVars_none hV
  obtain ⟨a0, rfl, rfl, rfl, w0⟩ := open_string Try.underlying9 (hval 0 9 v0 rfl rfl) h0
  obtain ⟨a1, rfl, rfl, rfl, w1⟩ := open_int Try.underlying3 (hval 1 3 v1 rfl rfl) h1
  clear hA0 hval0
  simp only [List.append_nil] at hW'
  refine (walk a0 a1 w1 W).mono fun e W' ⟨he, hg⟩ => ?_
  subst he
  exact ⟨_, rfl, _, _, _, [], _, [], hW', trodAll_mk1 (shut_bool Try.underlying4 _), (trodAll_cons_mk (shut_string Try.underlying9 w0) (trodAll_cons_mk (shut_int Try.underlying3 w1) trodAll_mk0)), rfl, hg.frame _, fun h => by cases h⟩

theorem over : Rows.pathAboveRow.holds Try.pinned (OpenSpec.ofChange Rows.pathAboveSpec) :=
  OpenClaim.holds_of_wide 5 Try.f5 rfl rfl rfl rfl rfl rfl rfl ⟨rfl, rfl, rfl, rfl, rfl⟩ rfl rfl rfl rfl rfl (by kernel_rfl) Try.func5 (by kernel_rfl)
    (of_decide_eq_true (by kernel_rfl)) (by unfold Func.isWrapper; first | (rw [if_pos (by decide +kernel)]; kernel_rfl) | (rw [if_neg (by decide +kernel)]; exact ⟨rfl, rfl⟩))
    (fun os started H enc _ => lifted os started H enc)

end pathAbove

/-- The statement. -/
theorem pathAbove_holds : Rows.PathAboveSaid := pathAbove.over
#print axioms pathAbove_holds
end Go.Proofs.Ytgaemldkpfbomaa
