/- What watch's isPath, wishOf, isChange and the four kinds' isMetBy answer. -/
import Derived.Test.YtgdbcdddcejehaaWaA
import Derived.Test.YtgdbcdddcejehaaPaE
import Derived.Test.YtgdbcdddcejehaaPaY
import Derived.Test.YtgdbcdddcejehaaPaZ
import Derived.BigQuiet
namespace Go.Proofs.Ytgdbcdddcejehaa
open Go.RowKit Go.Shelf
set_option maxRecDepth 8000

theorem wIsPath_any (s : ByteArray) (w : World) (hl : s.size ≤ 4294967296) :
    Calls Try.prog 28 #[.string s] w fun e w' => e = .returned (.bool (isPb s.data.toList)) ∧ Below w.heap.size w w' := by
  have HC : Hid _ := check_any s w hl
  cases hb : isPb s.data.toList
  · rw [hb] at HC
    go_enter Try.func28, Try.ntmps28
    go_wp2_with fail
    refine Calls.mono HC.out ?_
    rintro e w1 ⟨rfl, hb1⟩
    rw [if_neg (by simp)]
    go_wp2
    all_goals (go_ret; exact ⟨rfl, hb1⟩)
  · rw [hb] at HC
    go_enter Try.func28, Try.ntmps28
    go_wp2_with fail
    refine Calls.mono HC.out ?_
    rintro e w1 ⟨rfl, hb1⟩
    rw [if_pos trivial]
    go_wp2
    all_goals (go_ret; exact ⟨rfl, hb1⟩)

/-- Is it a watch? a change? -/
def waOk (x : WaT) : Bool := isPb x.2.2.data.toList && (decide (1 ≤ x.2.1) && decide (x.2.1 ≤ 4))
def chOk (c : ChT) : Bool := decide (1 ≤ c.1) && (decide (c.1 ≤ 4) && isPb c.2.data.toList)

theorem ret_tup {a b c d : Value} (h1 : a = c) (h2 : b = d) : Ending.returned (.tuple #[a, b]) = Ending.returned (.tuple #[c, d]) := by rw [h1, h2]

set_option maxHeartbeats 1000000 in
theorem wishOf_any (x : WaT) (w : World) (hl : x.2.2.size ≤ 4294967296) :
    Calls Try.prog 21 #[.agg (waCs x)] w fun e w' => e = .returned (.tuple #[if waOk x then wishV x else .nilIface, .bool (waOk x)]) ∧ Below w.heap.size w w' := by
  obtain ⟨cl, kd, p⟩ := x
  have hB : Below w.heap.size w (w.alloc (.cells (waCs (cl, kd, p)) 30)) := (Below.refl _ w).alloc (Nat.le_refl _) _
  have hn0 : (w.alloc (.cells (waCs (cl, kd, p)) 30)).heap[w.heap.size]? = some (.cells (waCs (cl, kd, p)) 30 (0, 0)) := heap_alloc_new w _
  have HC : Hid (Calls Try.prog 28 #[.string p] (w.alloc (.cells (waCs (cl, kd, p)) 30)) fun e w' => e = .returned (.bool (isPb p.data.toList)) ∧ w'.heap[w.heap.size]? = some (.cells (waCs (cl, kd, p)) 30 (0, 0)) ∧ Hid (Below w.heap.size w w')) :=
    (wIsPath_any p _ hl).mono (fun e w' hh => ⟨hh.1, (hh.2.block _ (by simp)).trans hn0, hB.trans (hh.2.mono hB.size)⟩)
  clear hB hn0
  cases hb : isPb p.data.toList
  · rw [hb] at HC
    have hv : waOk (cl, kd, p) = false := by unfold waOk; rw [hb]; rfl
    rw [hv, if_neg (by simp)]
    clear hv hb
    go_enter Try.func21, Try.ntmps21
    go_wp2_with fail
    refine Calls.mono HC.out ?_
    rintro e w1 ⟨rfl, hc, HB⟩
    clear HC
    go_wp2
    all_goals (go_ret2; exact ⟨rfl, HB.out⟩)
  · rw [hb] at HC
    by_cases k1 : kd = 1
    · subst k1
      have hv : waOk (cl, 1, p) = true := by unfold waOk; rw [hb]; rfl
      rw [hv, if_pos rfl]
      clear hv hb
      go_enter Try.func21, Try.ntmps21
      go_wp2_with fail
      refine Calls.mono HC.out ?_
      rintro e w1 ⟨rfl, hc, HB⟩
      clear HC
      have hz := lt_of_block hc
      have c1 := cell_of_row w1 w.heap.size 1 _ _ _ hc
      have c2 := cell_of_row w1 w.heap.size 2 _ _ _ hc
      clear hc
      go_wp2
      all_goals (go_ret2; exact ⟨rfl, HB.out⟩)
    · by_cases k2 : kd = 2
      · subst k2
        have hv : waOk (cl, 2, p) = true := by unfold waOk; rw [hb]; rfl
        rw [hv, if_pos rfl]
        clear hv hb k1
        go_enter Try.func21, Try.ntmps21
        go_wp2_with fail
        refine Calls.mono HC.out ?_
        rintro e w1 ⟨rfl, hc, HB⟩
        clear HC
        have hz := lt_of_block hc
        have c1 := cell_of_row w1 w.heap.size 1 _ _ _ hc
        have c2 := cell_of_row w1 w.heap.size 2 _ _ _ hc
        clear hc
        go_wp2
        all_goals (go_ret2; exact ⟨rfl, HB.out⟩)
      · by_cases k3 : kd = 3
        · subst k3
          have hv : waOk (cl, 3, p) = true := by unfold waOk; rw [hb]; rfl
          rw [hv, if_pos rfl]
          clear hv hb k1 k2
          go_enter Try.func21, Try.ntmps21
          go_wp2_with fail
          refine Calls.mono HC.out ?_
          rintro e w1 ⟨rfl, hc, HB⟩
          clear HC
          have hz := lt_of_block hc
          have c1 := cell_of_row w1 w.heap.size 1 _ _ _ hc
          have c2 := cell_of_row w1 w.heap.size 2 _ _ _ hc
          clear hc
          go_wp2
          all_goals (go_ret2; exact ⟨rfl, HB.out⟩)
        · by_cases k4 : kd = 4
          · subst k4
            have hv : waOk (cl, 4, p) = true := by unfold waOk; rw [hb]; rfl
            rw [hv, if_pos rfl]
            clear hv hb k1 k2 k3
            go_enter Try.func21, Try.ntmps21
            go_wp2_with fail
            refine Calls.mono HC.out ?_
            rintro e w1 ⟨rfl, hc, HB⟩
            clear HC
            have hz := lt_of_block hc
            have c1 := cell_of_row w1 w.heap.size 1 _ _ _ hc
            have c2 := cell_of_row w1 w.heap.size 2 _ _ _ hc
            clear hc
            go_wp2
            all_goals (go_ret2; exact ⟨rfl, HB.out⟩)
          · have hv : waOk (cl, kd, p) = false := by
              unfold waOk
              rw [hb, Bool.true_and]
              by_cases h1 : 1 ≤ kd
              · have h4 : ¬ kd ≤ 4 := by omega
                simp [h4]
              · simp [h1]
            rw [hv, if_neg (by simp)]
            have d1 : (kd == 1) = false := by simpa using k1
            have d2 : (kd == 2) = false := by simpa using k2
            have d3 : (kd == 3) = false := by simpa using k3
            have d4 : (kd == 4) = false := by simpa using k4
            clear hv hb k1 k2 k3 k4
            go_enter Try.func21, Try.ntmps21
            go_wp2_with fail
            refine Calls.mono HC.out ?_
            rintro e w1 ⟨rfl, hc, HB⟩
            clear HC
            have hz := lt_of_block hc
            have c1 := cell_of_row w1 w.heap.size 1 _ _ _ hc
            have c2 := cell_of_row w1 w.heap.size 2 _ _ _ hc
            clear hc
            go_wp2
            all_goals (go_ret2; exact ⟨rfl, HB.out⟩)

end Go.Proofs.Ytgdbcdddcejehaa
