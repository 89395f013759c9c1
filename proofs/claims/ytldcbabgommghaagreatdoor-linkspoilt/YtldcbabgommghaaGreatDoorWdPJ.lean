/- What may of the document's layer 4 answers, for every request. -/
import Derived.Test.YtldcbabgommghaaGreatDoorWdRJ
import Derived.Deep.CutRange
namespace Go.Proofs.YtldcbabgommghaaGreatDoor
open Go.RowKit
set_option maxRecDepth 8000

set_option maxHeartbeats 4000000 in
theorem refMay_bits (k : Int) (s : ByteArray) (da aa wa oa : Option Addr) (dl dc al ac wl wc' ol oc : Nat) (ver : Int) (eph seq : Bool) (ses tmo : Int) (qa qw : Bool) (w : World)
    (hA : ∀ W, Below w.heap.size w W → Calls Tryz.prog 71 #[.slice aa al ac] W fun r w' => r = .returned (.bool qa) ∧ w' = W)
    (hW : ∀ W, Below w.heap.size w W → Calls Tryz.prog 72 #[.slice wa wl wc'] W fun r w' => r = .returned (.bool qw) ∧ w' = W)
    (b1 : s.size ≤ 140737488355328) (b2 : dl ≤ 140737488355328) (b3 : al ≤ 140737488355328) (b4 : wl ≤ 140737488355328) (b5 : ol ≤ 140737488355328) :
    Calls Tryz.prog 62 #[.agg #[.int .i8 k, .string s, .slice da dl dc, .slice aa al ac, .int .i32 ver, .bool eph, .bool seq, .int .i64 ses, .int .i32 tmo, .slice wa wl wc', .slice oa ol oc]] w fun r w' => r = .returned (.bool (mayB k s dl al ver eph seq ses tmo wl ol qa qw)) ∧ Below w.heap.size w w' := by
  obtain ⟨V, eV⟩ : ∃ V, V = w.alloc (.cells #[.int .i8 k, .string s, .slice da dl dc, .slice aa al ac, .int .i32 ver, .bool eph, .bool seq, .int .i64 ses, .int .i32 tmo, .slice wa wl wc', .slice oa ol oc] 35) := ⟨_, rfl⟩
  have HV : Hid (Below w.heap.size w V) := by subst eV; exact one_alloc w _
  have x0 : V.cell? ⟨w.heap.size, 0, none⟩ = some (.int .i8 k) := by subst eV; rw [cell_of_row _ _ _ _ _ _ (heap_alloc_new _ _)]; rfl
  have x1 : V.cell? ⟨w.heap.size, 1, none⟩ = some (.string s) := by subst eV; rw [cell_of_row _ _ _ _ _ _ (heap_alloc_new _ _)]; rfl
  have x2 : V.cell? ⟨w.heap.size, 2, none⟩ = some (.slice da dl dc) := by subst eV; rw [cell_of_row _ _ _ _ _ _ (heap_alloc_new _ _)]; rfl
  have x3 : V.cell? ⟨w.heap.size, 3, none⟩ = some (.slice aa al ac) := by subst eV; rw [cell_of_row _ _ _ _ _ _ (heap_alloc_new _ _)]; rfl
  have x4 : V.cell? ⟨w.heap.size, 4, none⟩ = some (.int .i32 ver) := by subst eV; rw [cell_of_row _ _ _ _ _ _ (heap_alloc_new _ _)]; rfl
  have x5 : V.cell? ⟨w.heap.size, 5, none⟩ = some (.bool eph) := by subst eV; rw [cell_of_row _ _ _ _ _ _ (heap_alloc_new _ _)]; rfl
  have x6 : V.cell? ⟨w.heap.size, 6, none⟩ = some (.bool seq) := by subst eV; rw [cell_of_row _ _ _ _ _ _ (heap_alloc_new _ _)]; rfl
  have x7 : V.cell? ⟨w.heap.size, 7, none⟩ = some (.int .i64 ses) := by subst eV; rw [cell_of_row _ _ _ _ _ _ (heap_alloc_new _ _)]; rfl
  have x8 : V.cell? ⟨w.heap.size, 8, none⟩ = some (.int .i32 tmo) := by subst eV; rw [cell_of_row _ _ _ _ _ _ (heap_alloc_new _ _)]; rfl
  have x9 : V.cell? ⟨w.heap.size, 9, none⟩ = some (.slice wa wl wc') := by subst eV; rw [cell_of_row _ _ _ _ _ _ (heap_alloc_new _ _)]; rfl
  have x10 : V.cell? ⟨w.heap.size, 10, none⟩ = some (.slice oa ol oc) := by subst eV; rw [cell_of_row _ _ _ _ _ _ (heap_alloc_new _ _)]; rfl
  have HA : Hid (Calls Tryz.prog 71 #[.slice aa al ac] V fun r w' => r = .returned (.bool qa) ∧ w' = V) := hA V HV.out
  have HW : Hid (Calls Tryz.prog 72 #[.slice wa wl wc'] V fun r w' => r = .returned (.bool qw) ∧ w' = V) := hW V HV.out
  have HE : Hid _ := eV
  clear eV hA hW
  obtain ⟨R, hR⟩ : ∃ R, R = mayB k s dl al ver eph seq ses tmo wl ol qa qw := ⟨_, rfl⟩
  have HR : Hid _ := hR
  rw [← hR]
  clear hR
  go_enter Tryz.func62, Tryz.ntmps62
  go_wp2_with fail
  rw [← HE.out]
  clear HE
  refine (letters_any k _).mono ?_
  rintro _ V ⟨rfl, rfl⟩
  cases hs0 : (lt4 k).toList.isEmpty
  · skip
    go_upto_region 4 with fail
    go_cut [0, 22] from 4 to 22 (fun _ v wx => v = .bool (!s.toList.isEmpty && !hasB (lt4 k) 112 || decide (64 < s.size)) ∧ wx = V)
    case first =>
      cases q1 : s.toList.isEmpty <;> cases q2 : hasB (lt4 k) 112 <;> by_cases q3 : 64 < s.size
      all_goals go_wp2_with (first | (go_at_call 70; refine (has_any _ _ _ (lt4_size k)).mono ?_; rintro _ V ⟨rfl, rfl⟩) | (go_at_call 71; refine Calls.mono HA.out ?_; rintro _ V ⟨rfl, rfl⟩) | (go_at_call 72; refine Calls.mono HW.out ?_; rintro _ V ⟨rfl, rfl⟩))
      all_goals (go_meet; exact ⟨by go_tidy; first | (simp [*]; done) | (simp [q2]; omega) | (simp [q2]; rw [Bool.eq_iff_iff]; simp; done) | (simp [q2]; rw [Bool.eq_iff_iff]; simp; omega) | (simp [*]; omega), rfl⟩)
    case rest =>
      obtain ⟨rfl, hwc⟩ := hcut
      subst hwc
      cases hc1 : (!s.toList.isEmpty && !hasB (lt4 k) 112 || decide (64 < s.size)) with
      | true =>
        have HF : Hid (R = false) := by show _ = _; rw [HR.out]; unfold mayB; simp only [hc1, Bool.not_true, Bool.and_false, Bool.false_and]
        go_wp2_with fail
        go_ret
        exact ⟨by rw [HF.out]; rfl, HV.out⟩
      | false =>
        go_upto_region 6 with fail
        go_cut [0, 37] from 4 to 37 (fun _ v wx => v = .bool (decide (0 < dl) && !hasB (lt4 k) 100 || decide (96 < dl)) ∧ wx = wc)
        case first =>
          rcases (show dl = 0 ∨ (0 < dl ∧ dl ≤ 96) ∨ 96 < dl by omega) with q1 | q1 | q1 <;> cases q2 : hasB (lt4 k) 100
          all_goals go_wp2_with (first | (go_at_call 70; refine (has_any _ _ _ (lt4_size k)).mono ?_; rintro _ V ⟨rfl, rfl⟩) | (go_at_call 71; refine Calls.mono HA.out ?_; rintro _ V ⟨rfl, rfl⟩) | (go_at_call 72; refine Calls.mono HW.out ?_; rintro _ V ⟨rfl, rfl⟩))
          all_goals (go_meet; exact ⟨by go_tidy; first | (simp [*]; done) | (simp [q2]; omega) | (simp [q2]; rw [Bool.eq_iff_iff]; simp; done) | (simp [q2]; rw [Bool.eq_iff_iff]; simp; omega) | (simp [*]; omega), rfl⟩)
        case rest =>
          obtain ⟨rfl, hwc⟩ := hcut
          subst hwc
          cases hc2 : (decide (0 < dl) && !hasB (lt4 k) 100 || decide (96 < dl)) with
          | true =>
            have HF : Hid (R = false) := by show _ = _; rw [HR.out]; unfold mayB; simp only [hc2, Bool.not_true, Bool.and_false, Bool.false_and]
            go_wp2_with fail
            go_ret
            exact ⟨by rw [HF.out]; rfl, HV.out⟩
          | false =>
            go_upto_region 8 with fail
            go_cut [0, 52] from 4 to 52 (fun _ v wx => v = .bool (decide (0 < al) && !hasB (lt4 k) 97 || !qa) ∧ wx = wc)
            case first =>
              rcases Nat.eq_zero_or_pos al with rfl | q1 <;> cases q2 : hasB (lt4 k) 97 <;> cases qa
              all_goals go_wp2_with (first | (go_at_call 70; refine (has_any _ _ _ (lt4_size k)).mono ?_; rintro _ V ⟨rfl, rfl⟩) | (go_at_call 71; refine Calls.mono HA.out ?_; rintro _ V ⟨rfl, rfl⟩) | (go_at_call 72; refine Calls.mono HW.out ?_; rintro _ V ⟨rfl, rfl⟩))
              all_goals (go_meet; exact ⟨by go_tidy; first | (simp [*]; done) | (simp [q2]; omega) | (simp [q2]; rw [Bool.eq_iff_iff]; simp; done) | (simp [q2]; rw [Bool.eq_iff_iff]; simp; omega) | (simp [*]; omega), rfl⟩)
            case rest =>
              obtain ⟨rfl, hwc⟩ := hcut
              subst hwc
              cases hc3 : (decide (0 < al) && !hasB (lt4 k) 97 || !qa) with
              | true =>
                have HF : Hid (R = false) := by show _ = _; rw [HR.out]; unfold mayB; simp only [hc3, Bool.not_true, Bool.and_false, Bool.false_and]
                go_wp2_with fail
                go_ret
                exact ⟨by rw [HF.out]; rfl, HV.out⟩
              | false =>
                go_upto_region 10 with fail
                go_cut [0, 60] from 4 to 60 (fun _ v wx => v = .bool (decide (ver ≠ 0) && !hasB (lt4 k) 118) ∧ wx = wc)
                case first =>
                  by_cases q1 : ver = 0 <;> cases q2 : hasB (lt4 k) 118
                  all_goals go_wp2_with (first | (go_at_call 70; refine (has_any _ _ _ (lt4_size k)).mono ?_; rintro _ V ⟨rfl, rfl⟩) | (go_at_call 71; refine Calls.mono HA.out ?_; rintro _ V ⟨rfl, rfl⟩) | (go_at_call 72; refine Calls.mono HW.out ?_; rintro _ V ⟨rfl, rfl⟩))
                  all_goals (go_meet; exact ⟨by go_tidy; first | (simp [*]; done) | (simp [q2]; omega) | (simp [q2]; rw [Bool.eq_iff_iff]; simp; done) | (simp [q2]; rw [Bool.eq_iff_iff]; simp; omega) | (simp [*]; omega), rfl⟩)
                case rest =>
                  obtain ⟨rfl, hwc⟩ := hcut
                  subst hwc
                  cases hc4 : (decide (ver ≠ 0) && !hasB (lt4 k) 118) with
                  | true =>
                    have HF : Hid (R = false) := by show _ = _; rw [HR.out]; unfold mayB; simp only [hc4, Bool.not_true, Bool.and_false, Bool.false_and]
                    go_wp2_with fail
                    go_ret
                    exact ⟨by rw [HF.out]; rfl, HV.out⟩
                  | false =>
                    go_upto_region 12 with fail
                    go_cut [0, 71] from 4 to 71 (fun _ v wx => v = .bool ((eph || seq) && !hasB (lt4 k) 102) ∧ wx = wc)
                    case first =>
                      cases eph <;> cases seq <;> cases q2 : hasB (lt4 k) 102
                      all_goals go_wp2_with (first | (go_at_call 70; refine (has_any _ _ _ (lt4_size k)).mono ?_; rintro _ V ⟨rfl, rfl⟩) | (go_at_call 71; refine Calls.mono HA.out ?_; rintro _ V ⟨rfl, rfl⟩) | (go_at_call 72; refine Calls.mono HW.out ?_; rintro _ V ⟨rfl, rfl⟩))
                      all_goals (go_meet; exact ⟨by go_tidy; first | (simp [*]; done) | (simp [q2]; omega) | (simp [q2]; rw [Bool.eq_iff_iff]; simp; done) | (simp [q2]; rw [Bool.eq_iff_iff]; simp; omega) | (simp [*]; omega), rfl⟩)
                    case rest =>
                      obtain ⟨rfl, hwc⟩ := hcut
                      subst hwc
                      cases hc5 : ((eph || seq) && !hasB (lt4 k) 102) with
                      | true =>
                        have HF : Hid (R = false) := by show _ = _; rw [HR.out]; unfold mayB; simp only [hc5, Bool.not_true, Bool.and_false, Bool.false_and]
                        go_wp2_with fail
                        go_ret
                        exact ⟨by rw [HF.out]; rfl, HV.out⟩
                      | false =>
                        go_upto_region 14 with fail
                        go_cut [0, 94] from 4 to 94 (fun _ v wx => v = .bool (decide (ses ≠ 0) && !hasB (lt4 k) 115 || decide (ses < 0) || (k == 8) && decide (ses < 1)) ∧ wx = wc)
                        case first =>
                          rcases Int.lt_trichotomy ses 0 with q1 | q1 | q1 <;> cases q2 : hasB (lt4 k) 115 <;> cases q4 : (k == 8)
                          all_goals go_wp2_with (first | (go_at_call 70; refine (has_any _ _ _ (lt4_size k)).mono ?_; rintro _ V ⟨rfl, rfl⟩) | (go_at_call 71; refine Calls.mono HA.out ?_; rintro _ V ⟨rfl, rfl⟩) | (go_at_call 72; refine Calls.mono HW.out ?_; rintro _ V ⟨rfl, rfl⟩))
                          all_goals (go_meet; exact ⟨by go_tidy; first | (simp [*]; done) | (simp [q2]; omega) | (simp [q2]; rw [Bool.eq_iff_iff]; simp; done) | (simp [q2]; rw [Bool.eq_iff_iff]; simp; omega) | (simp [*]; omega), rfl⟩)
                        case rest =>
                          obtain ⟨rfl, hwc⟩ := hcut
                          subst hwc
                          cases hc6 : (decide (ses ≠ 0) && !hasB (lt4 k) 115 || decide (ses < 0) || (k == 8) && decide (ses < 1)) with
                          | true =>
                            have HF : Hid (R = false) := by show _ = _; rw [HR.out]; unfold mayB; simp only [hc6, Bool.not_true, Bool.and_false, Bool.false_and]
                            go_wp2_with fail
                            go_ret
                            exact ⟨by rw [HF.out]; rfl, HV.out⟩
                          | false =>
                            go_upto_region 16 with fail
                            go_cut [0, 116] from 4 to 116 (fun _ v wx => v = .bool (hasB (lt4 k) 116 && (decide (tmo < 1) || decide (1000 < tmo)) || !hasB (lt4 k) 116 && decide (tmo ≠ 0)) ∧ wx = wc)
                            case first =>
                              cases q2 : hasB (lt4 k) 116 <;> rcases (show tmo < 0 ∨ tmo = 0 ∨ (1 ≤ tmo ∧ tmo ≤ 1000) ∨ 1000 < tmo by omega) with q1 | q1 | q1 | q1
                              all_goals go_wp2_with (first | (go_at_call 70; refine (has_any _ _ _ (lt4_size k)).mono ?_; rintro _ V ⟨rfl, rfl⟩) | (go_at_call 71; refine Calls.mono HA.out ?_; rintro _ V ⟨rfl, rfl⟩) | (go_at_call 72; refine Calls.mono HW.out ?_; rintro _ V ⟨rfl, rfl⟩))
                              all_goals (go_meet; exact ⟨by go_tidy; first | (simp [*]; done) | (simp [q2]; omega) | (simp [q2]; rw [Bool.eq_iff_iff]; simp; done) | (simp [q2]; rw [Bool.eq_iff_iff]; simp; omega) | (simp [*]; omega), rfl⟩)
                            case rest =>
                              obtain ⟨rfl, hwc⟩ := hcut
                              subst hwc
                              cases hc7 : (hasB (lt4 k) 116 && (decide (tmo < 1) || decide (1000 < tmo)) || !hasB (lt4 k) 116 && decide (tmo ≠ 0)) with
                              | true =>
                                have HF : Hid (R = false) := by show _ = _; rw [HR.out]; unfold mayB; simp only [hc7, Bool.not_true, Bool.and_false, Bool.false_and]
                                go_wp2_with fail
                                go_ret
                                exact ⟨by rw [HF.out]; rfl, HV.out⟩
                              | false =>
                                go_upto_region 18 with fail
                                go_cut [0, 131] from 4 to 131 (fun _ v wx => v = .bool (decide (0 < wl) && !hasB (lt4 k) 119 || !qw) ∧ wx = wc)
                                case first =>
                                  rcases Nat.eq_zero_or_pos wl with rfl | q1 <;> cases q2 : hasB (lt4 k) 119 <;> cases qw
                                  all_goals go_wp2_with (first | (go_at_call 70; refine (has_any _ _ _ (lt4_size k)).mono ?_; rintro _ V ⟨rfl, rfl⟩) | (go_at_call 71; refine Calls.mono HA.out ?_; rintro _ V ⟨rfl, rfl⟩) | (go_at_call 72; refine Calls.mono HW.out ?_; rintro _ V ⟨rfl, rfl⟩))
                                  all_goals (go_meet; exact ⟨by go_tidy; first | (simp [*]; done) | (simp [q2]; omega) | (simp [q2]; rw [Bool.eq_iff_iff]; simp; done) | (simp [q2]; rw [Bool.eq_iff_iff]; simp; omega) | (simp [*]; omega), rfl⟩)
                                case rest =>
                                  obtain ⟨rfl, hwc⟩ := hcut
                                  subst hwc
                                  cases hc8 : (decide (0 < wl) && !hasB (lt4 k) 119 || !qw) with
                                  | true =>
                                    have HF : Hid (R = false) := by show _ = _; rw [HR.out]; unfold mayB; simp only [hc8, Bool.not_true, Bool.and_false, Bool.false_and]
                                    go_wp2_with fail
                                    go_ret
                                    exact ⟨by rw [HF.out]; rfl, HV.out⟩
                                  | false =>
                                    have HL : Hid (R = (if hasB (lt4 k) 111 then decide (1 ≤ ol) && decide (ol ≤ 8) else decide (ol = 0))) := by show _ = _; rw [HR.out]; unfold mayB; simp only [hs0, hc1, hc2, hc3, hc4, hc5, hc6, hc7, hc8, Bool.not_false, Bool.true_and]
                                    clear HR hc1 hc2 hc3 hc4 hc5 hc6 hc7 hc8
                                    cases q2 : hasB (lt4 k) 111 <;> rcases (show ol = 0 ∨ (1 ≤ ol ∧ ol ≤ 8) ∨ 8 < ol by omega) with q3 | q3 | q3
                                    all_goals go_wp2_with (go_at_call 70; refine (has_any _ _ _ (lt4_size k)).mono ?_; rintro _ V ⟨rfl, rfl⟩)
                                    all_goals go_ret
                                    all_goals (refine ⟨?_, HV.out⟩; rw [HL.out]; go_tidy; first | (simp [*]; done) | (simp [q2]; omega) | (simp [q2]; rw [Bool.eq_iff_iff]; simp; done) | (simp [q2]; rw [Bool.eq_iff_iff]; simp; omega) | (simp [*]; omega))
  · have HF : Hid (R = false) := by show _ = _; rw [HR.out]; unfold mayB; simp only [hs0, Bool.not_true, Bool.false_and]
    go_wp2_with fail
    go_ret
    exact ⟨by rw [HF.out]; rfl, HV.out⟩
end Go.Proofs.YtldcbabgommghaaGreatDoor
