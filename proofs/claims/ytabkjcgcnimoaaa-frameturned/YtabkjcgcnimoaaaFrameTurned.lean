/- FrameTurned of the statements of layer 3 answers true for every list of lists of bytes, every place and byte: where one byte of frames is turned into another one, none of a length, the frames ahead of it are read, and no more. No condition. -/
import Derived.Test.YtabkjcgcnimoaaaRows
import Derived.Test.YtabkjcgcnimoaaaTurn3b
namespace Go.Proofs.Ytabkjcgcnimoaaa
open Go.ChangeShapes Go.WideShapes Go.ChangeAt Go.RowKit
set_option maxRecDepth 8000
namespace frameTurned
set_option linter.unusedVariables false

set_option maxHeartbeats 1000000 in
theorem early1 (ao : Option Addr) (cap : Nat) (ps : List Pcd) (a1 a2 : Int) (w : World) (h : SeesPs w (.slice ao ps.length cap) ps) (h0 : a2 = 0) :
    Calls Try.prog 4 #[.slice ao ps.length cap, .int .i64 a1, .int .u8 a2] w fun e w' => e = .returned (.bool true) ∧ Below w.heap.size w w' := by
  have HS : Hid (SeesPs w (.slice ao ps.length cap) ps) := h
  have hc0 : ps.length ≤ cap ∧ cap ≤ 9223372036854775807 := by
    obtain ⟨_, _, e, h1, h2, _⟩ := h
    simp at e
    obtain ⟨_, rfl⟩ := e
    unfold maxLen at h2
    omega
  obtain ⟨hc1, hc2⟩ := hc0
  clear h
  subst h0
  go_enter Try.func4, Try.ntmps4
  go_wp2_with fail
  refine (long3_any _ ps _ HS.out).mono ?_
  rintro e w0 ⟨r, rfl, hr, m0, rfl⟩
  cases r with
  | true =>
    go_wp2
    go_ret
    exact ⟨rfl, below_drewN (Below.refl _ _) _⟩
  | false =>
    have hbulk := hr rfl
    have HB0 : Hid (Below w.heap.size w (w.drewN m0)) := below_drewN (Below.refl _ _) _
    clear hr
    generalize w.drewN m0 = w0 at *
    go_wp2_with fail
    refine (lives_any _).mono ?_
    rintro e w1 ⟨rfl, hb1⟩
    have HB1 : Hid (Below w.heap.size w w1) := HB0.out.trans (hb1.mono HB0.out.size)
    clear hb1
    go_wp2_with fail
    refine (joined_any _ ps _ (frameTorn.sees_ps_below HS.out HB1.out) hbulk).mono ?_
    rintro e V ⟨va, vl, vat, rfl, hj, hbV⟩
    have HV : Hid (Below w.heap.size w V) := HB1.out.trans (hbV.mono HB1.out.size)
    obtain ⟨a6, c6, r1⟩ := row_form hj.all
    subst r1
    clear hj hbV
    go_wp2
    go_ret
    exact ⟨rfl, HV.out⟩

set_option maxHeartbeats 1000000 in
theorem early2 (ao : Option Addr) (cap : Nat) (ps : List Pcd) (a1 a2 : Int) (w : World) (h : SeesPs w (.slice ao ps.length cap) ps) (h0 : 0 < a2) (h1 : a1 < 0) :
    Calls Try.prog 4 #[.slice ao ps.length cap, .int .i64 a1, .int .u8 a2] w fun e w' => e = .returned (.bool true) ∧ Below w.heap.size w w' := by
  have HS : Hid (SeesPs w (.slice ao ps.length cap) ps) := h
  have hc0 : ps.length ≤ cap ∧ cap ≤ 9223372036854775807 := by
    obtain ⟨_, _, e, h1, h2, _⟩ := h
    simp at e
    obtain ⟨_, rfl⟩ := e
    unfold maxLen at h2
    omega
  obtain ⟨hc1, hc2⟩ := hc0
  clear h
  have e0 : (a2 == 0) = false := by simp; omega
  have d0 : decide (a1 < 0) = true := by simp only [decide_eq_true_eq]; exact h1
  go_enter Try.func4, Try.ntmps4
  go_wp2_with fail
  refine (long3_any _ ps _ HS.out).mono ?_
  rintro e w0 ⟨r, rfl, hr, m0, rfl⟩
  cases r with
  | true =>
    go_wp2
    go_ret
    exact ⟨rfl, below_drewN (Below.refl _ _) _⟩
  | false =>
    have hbulk := hr rfl
    have HB0 : Hid (Below w.heap.size w (w.drewN m0)) := below_drewN (Below.refl _ _) _
    clear hr
    generalize w.drewN m0 = w0 at *
    go_wp2_with fail
    refine (lives_any _).mono ?_
    rintro e w1 ⟨rfl, hb1⟩
    have HB1 : Hid (Below w.heap.size w w1) := HB0.out.trans (hb1.mono HB0.out.size)
    clear hb1
    go_wp2_with fail
    refine (joined_any _ ps _ (frameTorn.sees_ps_below HS.out HB1.out) hbulk).mono ?_
    rintro e V ⟨va, vl, vat, rfl, hj, hbV⟩
    have HV : Hid (Below w.heap.size w V) := HB1.out.trans (hbV.mono HB1.out.size)
    obtain ⟨a6, c6, r1⟩ := row_form hj.all
    subst r1
    clear hj hbV
    go_wp2
    go_ret
    exact ⟨rfl, HV.out⟩

set_option maxHeartbeats 1000000 in
theorem early3 (ao : Option Addr) (cap : Nat) (ps : List Pcd) (a1 a2 : Int) (w : World) (h : SeesPs w (.slice ao ps.length cap) ps) (h0 : 0 < a2) (h1 : 0 ≤ a1) (h2 : ((framesL (ysOf (goods ps))).length : Int) ≤ a1) :
    Calls Try.prog 4 #[.slice ao ps.length cap, .int .i64 a1, .int .u8 a2] w fun e w' => e = .returned (.bool true) ∧ Below w.heap.size w w' := by
  have HS : Hid (SeesPs w (.slice ao ps.length cap) ps) := h
  have hc0 : ps.length ≤ cap ∧ cap ≤ 9223372036854775807 := by
    obtain ⟨_, _, e, h1, h2, _⟩ := h
    simp at e
    obtain ⟨_, rfl⟩ := e
    unfold maxLen at h2
    omega
  obtain ⟨hc1, hc2⟩ := hc0
  clear h
  have e0 : (a2 == 0) = false := by simp; omega
  have d0 : decide (a1 < 0) = false := by simp only [decide_eq_false_iff_not]; omega
  have d1 : decide (((framesL (ysOf (goods ps))).length : Int) ≤ a1) = true := by simp only [decide_eq_true_eq]; exact h2
  go_enter Try.func4, Try.ntmps4
  go_wp2_with fail
  refine (long3_any _ ps _ HS.out).mono ?_
  rintro e w0 ⟨r, rfl, hr, m0, rfl⟩
  cases r with
  | true =>
    go_wp2
    go_ret
    exact ⟨rfl, below_drewN (Below.refl _ _) _⟩
  | false =>
    have hbulk := hr rfl
    have HB0 : Hid (Below w.heap.size w (w.drewN m0)) := below_drewN (Below.refl _ _) _
    clear hr
    generalize w.drewN m0 = w0 at *
    go_wp2_with fail
    refine (lives_any _).mono ?_
    rintro e w1 ⟨rfl, hb1⟩
    have HB1 : Hid (Below w.heap.size w w1) := HB0.out.trans (hb1.mono HB0.out.size)
    clear hb1
    go_wp2_with fail
    refine (joined_any _ ps _ (frameTorn.sees_ps_below HS.out HB1.out) hbulk).mono ?_
    rintro e V ⟨va, vl, vat, rfl, hj, hbV⟩
    have HV : Hid (Below w.heap.size w V) := HB1.out.trans (hbV.mono HB1.out.size)
    obtain ⟨a6, c6, r1⟩ := row_form hj.all
    subst r1
    clear hj hbV
    go_wp2
    go_ret
    exact ⟨rfl, HV.out⟩

theorem walk (ao : Option Addr) (cap : Nat) (ps : List Pcd) (a1 a2 : Int) (w : World) (h : SeesPs w (.slice ao ps.length cap) ps) (h0 : 0 ≤ a2) (h1 : a2 ≤ 255) :
    Calls Try.prog 4 #[.slice ao ps.length cap, .int .i64 a1, .int .u8 a2] w fun e w' => e = .returned (.bool true) ∧ Below w.heap.size w w' := by
  by_cases hz : a2 = 0
  · exact early1 ao cap ps a1 a2 w h hz
  · by_cases hn : a1 < 0
    · exact early2 ao cap ps a1 a2 w h (by omega) hn
    · by_cases hN : ((framesL (ysOf (goods ps))).length : Int) ≤ a1
      · exact early3 ao cap ps a1 a2 w h (by omega) (by omega) hN
      · have := main ao cap ps a1.toNat a2 w h (by omega) (by omega) h1
        rw [Int.toNat_of_nonneg (by omega)] at this
        exact this

/-! ### The row's step -/
set_option maxRecDepth 100000 in
theorem lifted (os : Os) (started : os.Started) (H : Type) (enc : TypeId × Value → H) :
    ReturnsInHanded {} Try.checked os 4 .any (Rows.frameTurnedSpec.pre6 enc Try.prog Try.f4 Rows.frameTurnedRow.domain false) (Rows.frameTurnedSpec.post enc Try.prog Try.f4 false true false false) := by
  refine returnsInHanded_of_change (C := Try.checked) Try.own started (by kernel_rfl) Try.func4
    (ChangeSpec.witness6 (enc := enc) (C := Try.checked) false ⟨#[], #[.slice none 0 0, .int .i64 0, .int .u8 0], []⟩ 8 (by kernel_rfl) (by kernel_rfl) (by kernel_rfl) (by kernel_rfl)) ?_
  intro W base args ds gs before hval0 hW hcnd _
  have hval : ∀ (j : Nat) t v, Try.f4.params[j]? = some t → args[j]? = some v → Value.okWide Try.prog W .any base t v := hval0
  have hW' := hW
  obtain ⟨p, q, hA0, hV, rfl, hfz, hnd⟩ := hW
  have hA : DataW.TrodAll enc Try.prog W 0 (fun _ => true) true Try.f4.params.toList args.toList ds p := hA0
  rw [Try.params4] at hA hval
  obtain ⟨v0, vs0, d0, ds0, p0, q0, hargs, rfl, rfl, h0, r0⟩ := trodAll_cons hA
  obtain ⟨v1, vs1, d1, ds1, p1, q1, rfl, rfl, rfl, h1, r1⟩ := trodAll_cons r0
  obtain ⟨v2, vs2, d2, ds2, p2, q2, rfl, rfl, rfl, h2, r2⟩ := trodAll_cons r1
  obtain ⟨rfl, rfl, rfl⟩ := trodAll_nil r2
  obtain rfl : args = #[v0, v1, v2] := by cases args; simp_all
  obtain ⟨rfl, rfl⟩ := trodVars_none hV
  obtain ⟨a0, len0, cap0, rfl⟩ := okWide_slice Try.underlying22 (hval 0 22 v0 rfl rfl)
  have k0 := h0
  have lt0 : ∀ x ∈ p0, x.block < W.heap.size := by obtain ⟨m, hm⟩ := k0; exact DataW.trod_lt m _ _ _ hm
  obtain ⟨a1, rfl, rfl, rfl, w1⟩ := open_int Try.underlying3 (hval 1 3 v1 rfl rfl) h1
  obtain ⟨a2, rfl, rfl, rfl, w2⟩ := open_int Try.underlying5 (hval 2 5 v2 rfl rfl) h2
  have hby := bounds_u8 w2
  obtain ⟨ps, hlen, hs⟩ : ∃ ps : List Pcd, ps.length = len0 ∧ SeesPs W (.slice a0 len0 cap0) ps := by
    obtain ⟨fuel, hf⟩ := h0
    exact open_ps (show DataW.trod enc Try.prog W 0 (fun _ => true) true fuel 22 [.slice a0 len0 cap0] = some (d0, p0) from hf)
  subst hlen
  clear hA0 hval0
  refine (walk a0 cap0 ps a1 a2 W hs hby.1 hby.2).mono fun e W' ⟨he, bel⟩ => ?_
  subst he
  exact ⟨_, rfl, _, _, _, [], _, [], hW', trodAll_mk1 (shut_bool Try.underlying4 _), (trodAll_cons_mk (Below.trod Try.laidOut (by kernel_rfl) (of_decide_eq_true (by kernel_rfl)) k0 bel lt0) (trodAll_cons_mk (shut_int Try.underlying3 w1) (trodAll_cons_mk (shut_int Try.underlying5 w2) trodAll_mk0))), rfl, bel.frame _, fun h => by cases h⟩

theorem over : Rows.frameTurnedRow.holds Try.pinned (OpenSpec.ofChange Rows.frameTurnedSpec) :=
  OpenClaim.holds_of_wide 4 Try.f4 rfl rfl rfl rfl rfl rfl rfl ⟨rfl, rfl, rfl, rfl, rfl⟩ rfl rfl rfl rfl rfl (by kernel_rfl) Try.func4 (by kernel_rfl)
    (of_decide_eq_true (by kernel_rfl)) (by unfold Func.isWrapper; first | (rw [if_pos (by decide +kernel)]; kernel_rfl) | (rw [if_neg (by decide +kernel)]; exact ⟨rfl, rfl⟩))
    (fun os started H enc _ => lifted os started H enc)

end frameTurned

/-- The statement. -/
theorem frameTurned_holds : Rows.FrameTurnedSaid := frameTurned.over
#print axioms frameTurned_holds
end Go.Proofs.Ytabkjcgcnimoaaa
