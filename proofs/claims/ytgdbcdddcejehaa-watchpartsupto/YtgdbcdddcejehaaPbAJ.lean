/- What the document's Below and Join answer. -/
import Derived.Test.YtgdbcdddcejehaaPaMJ
import Derived.Test.YtgdbcdddcejehaaWaBJ
namespace Go.Proofs.Ytgdbcdddcejehaa
open Go.RowKit Go.Shelf
set_option maxRecDepth 8000

theorem take_list (s : ByteArray) (k : Nat) : (s.extract 0 k).toList = s.data.toList.take k := by
  rw [toList_eq, Lib.extract_eq]; simp

set_option maxHeartbeats 1000000 in
theorem belowR_any (s q : ByteArray) (w : World) (hs : s.size ≤ 4294967295) (hq : q.size ≤ 4294967295) :
    Calls Try.prog 26 #[.string s, .string q] w fun e w' => e = .returned (.bool (belowB s.data.toList q.data.toList)) ∧ Below w.heap.size w w' := by
  have e1 := eq_list' s [47]
  have e2 := eq_list' q [47]
  cases hi : isPb s.data.toList with
  | false =>
    have hb : belowB s.data.toList q.data.toList = false := by unfold belowB; rw [hi]; rfl
    rw [hb]
    clear hb e1 e2
    go_enter Try.func26, Try.ntmps26
    go_wp2_with fail
    refine (is_any s hs _).mono ?_
    rintro e w1 ⟨rfl, hb1⟩
    rw [hi]
    go_wp2
    go_ret
    exact ⟨rfl, hb1⟩
  | true =>
    cases hj : isPb q.data.toList with
    | false =>
      have hb : belowB s.data.toList q.data.toList = false := by unfold belowB; rw [hi, hj]; rfl
      rw [hb]
      clear hb e1 e2
      go_enter Try.func26, Try.ntmps26
      go_wp2_with fail
      refine (is_any s hs _).mono ?_
      rintro e w1 ⟨rfl, hb1⟩
      rw [hi]
      go_wp2_with fail
      refine (is_any q hq _).mono ?_
      rintro e w2 ⟨rfl, hb2⟩
      rw [hj]
      go_wp2
      go_ret
      exact ⟨rfl, hb1.trans (hb2.mono hb1.size)⟩
    | true =>
      by_cases h47 : s.data.toList = [47]
      · have hb : belowB s.data.toList q.data.toList = false := by unfold belowB; rw [hi, hj, decide_eq_false (fun h => h h47)]; rfl
        rw [hb]
        rw [decide_eq_true h47] at e1
        clear hb e2 h47
        go_enter Try.func26, Try.ntmps26
        go_wp2_with fail
        refine (is_any s hs _).mono ?_
        rintro e w1 ⟨rfl, hb1⟩
        rw [hi]
        go_wp2_with fail
        refine (is_any q hq _).mono ?_
        rintro e w2 ⟨rfl, hb2⟩
        rw [hj]
        go_wp2
        go_ret
        exact ⟨rfl, hb1.trans (hb2.mono hb1.size)⟩
      · rw [decide_eq_false h47] at e1
        have hb : belowB s.data.toList q.data.toList = (decide (q.data.toList = [47]) || decide (q.data.toList.length < s.data.toList.length ∧ s.data.toList.take q.data.toList.length = q.data.toList ∧ s.data.toList.getD q.data.toList.length 0 = 47)) := by
          unfold belowB; rw [hi, hj, decide_eq_true h47]; simp
        by_cases hq47 : q.data.toList = [47]
        · rw [decide_eq_true hq47] at e2 hb
          rw [hb, Bool.true_or]
          clear hb h47 hq47
          go_enter Try.func26, Try.ntmps26
          go_wp2_with fail
          refine (is_any s hs _).mono ?_
          rintro e w1 ⟨rfl, hb1⟩
          rw [hi]
          go_wp2_with fail
          refine (is_any q hq _).mono ?_
          rintro e w2 ⟨rfl, hb2⟩
          rw [hj]
          go_wp2
          go_ret
          exact ⟨rfl, hb1.trans (hb2.mono hb1.size)⟩
        · rw [decide_eq_false hq47] at e2 hb
          rw [Bool.false_or] at hb
          rw [hb]
          have hz := size_list s
          have hz2 := size_list q
          by_cases hlt : q.size < s.size
          · have ht := take_list s q.size
            have hby := byte_at s q.size hlt
            have heq : ((s.extract 0 q.size).toList == q.toList) = decide (s.data.toList.take q.data.toList.length = q.data.toList) := by
              rw [ht, toList_eq, hz2, Bool.eq_iff_iff]; simp
            have h47b : ((s[q.size].toNat : Int) == 47) = decide (s.data.toList.getD q.data.toList.length 0 = 47) := by
              rw [hby, hz2, Bool.eq_iff_iff, beq_iff_eq, decide_eq_true_eq]
              constructor
              · intro h; exact UInt8.toNat_inj.1 (by show (s.data.toList.getD q.data.toList.length 0).toNat = 47; omega)
              · intro h; rw [h]; rfl
            by_cases c1 : s.data.toList.take q.data.toList.length = q.data.toList
            · rw [decide_eq_true c1] at heq
              by_cases c2 : s.data.toList.getD q.data.toList.length 0 = 47
              · rw [decide_eq_true c2] at h47b
                rw [decide_eq_true ⟨by omega, c1, c2⟩]
                clear hb h47 hq47 ht hby hz hz2 c1 c2
                go_enter Try.func26, Try.ntmps26
                go_wp2_with fail
                refine (is_any s hs _).mono ?_
                rintro e w1 ⟨rfl, hb1⟩
                rw [hi]
                go_wp2_with fail
                refine (is_any q hq _).mono ?_
                rintro e w2 ⟨rfl, hb2⟩
                rw [hj]
                go_wp2
                go_ret
                exact ⟨rfl, hb1.trans (hb2.mono hb1.size)⟩
              · rw [decide_eq_false c2] at h47b
                rw [decide_eq_false (fun h => c2 h.2.2)]
                clear hb h47 hq47 ht hby hz hz2 c1 c2
                go_enter Try.func26, Try.ntmps26
                go_wp2_with fail
                refine (is_any s hs _).mono ?_
                rintro e w1 ⟨rfl, hb1⟩
                rw [hi]
                go_wp2_with fail
                refine (is_any q hq _).mono ?_
                rintro e w2 ⟨rfl, hb2⟩
                rw [hj]
                go_wp2
                go_ret
                exact ⟨rfl, hb1.trans (hb2.mono hb1.size)⟩
            · rw [decide_eq_false c1] at heq
              rw [decide_eq_false (fun h => c1 h.2.1)]
              clear hb h47 hq47 ht hby hz hz2 c1
              go_enter Try.func26, Try.ntmps26
              go_wp2_with fail
              refine (is_any s hs _).mono ?_
              rintro e w1 ⟨rfl, hb1⟩
              rw [hi]
              go_wp2_with fail
              refine (is_any q hq _).mono ?_
              rintro e w2 ⟨rfl, hb2⟩
              rw [hj]
              go_wp2
              go_ret
              exact ⟨rfl, hb1.trans (hb2.mono hb1.size)⟩
          · rw [decide_eq_false (fun h => by omega)]
            clear hb h47 hq47 hz hz2
            go_enter Try.func26, Try.ntmps26
            go_wp2_with fail
            refine (is_any s hs _).mono ?_
            rintro e w1 ⟨rfl, hb1⟩
            rw [hi]
            go_wp2_with fail
            refine (is_any q hq _).mono ?_
            rintro e w2 ⟨rfl, hb2⟩
            rw [hj]
            go_wp2
            go_ret
            exact ⟨rfl, hb1.trans (hb2.mono hb1.size)⟩

end Go.Proofs.Ytgdbcdddcejehaa
