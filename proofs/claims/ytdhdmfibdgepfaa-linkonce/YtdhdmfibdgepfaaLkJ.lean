/- works of layer 22 (it is true). -/
import Derived.Test.YtdhdmfibdgepfaaLkI
import Derived.Test.YtdhdmfibdgepfaaLkO
import Derived.Test.YtdhdmfibdgepfaaLeafSum
import Derived.Test.YtdhdmfibdgepfaaCopy
namespace Go.Proofs.Ytdhdmfibdgepfaa
open Go.RowKit
set_option maxRecDepth 8000
set_option linter.unusedSimpArgs false
set_option linter.unusedVariables false

theorem sees_seven (w : World) : Sees (w.alloc (.cells #[.int .u8 7] 5)) (.slice (some ⟨w.heap.size, 0, none⟩) 1 1) [7] :=
  Sees.own (base := 0) (xs := [7]) ⟨rfl, .inr ⟨w.heap.size, 1, _, rfl, Nat.zero_le _, heap_alloc_new w _, Nat.le_refl _, by unfold maxLen; decide, rfl, rfl⟩⟩

set_option maxHeartbeats 4000000 in
theorem works22 (w : World) : Calls Try.prog 6 #[] w fun e w' => e = .returned (.bool true) ∧ Below w.heap.size w w' := by
  have HN : Hid _ := new_good w 2 (by decide) (by decide)
  go_enter Try.func6, Try.ntmps6
  go_wp2_with fail
  refine Calls.mono HN.out ?_
  rintro e w1 ⟨rfl, h1, b1⟩
  have s1 : w.heap.size < w1.heap.size := lt_of_block h1.hb
  have HS : Hid (Calls Try.prog 9 #[.pointer (some ⟨w.heap.size, 0, none⟩), .int .i8 0, .int .i8 1, .slice (some ⟨w1.heap.size, 0, none⟩) 1 1] (w1.alloc (.cells #[.int .u8 7] 5)) fun e w' => e = .returned (.int .i64 0) ∧ ∃ v' R, Nt w' w.heap.size 2 v' [⟨0, 1, [7], false, R, 0, 1⟩] ∧ Below w.heap.size w w' ∧ (∀ k, v'.ownBlock = some k → w.heap.size ≤ k)) := by
    have hB := oneL w1 (.cells #[.int .u8 7] 5)
    refine Calls.mono (send_yes (h1.below hB) 0 1 (by decide) (by decide) (by decide) (by decide) w1.heap.size 0 1 [7] (sees_seven w1) (fun x hx => by simp at hx; subst hx; decide) (by decide) (by decide)) ?_
    rintro _ w2 ⟨rfl, v', R, g1, g2, g3, g4⟩
    have hz := hB.size
    refine ⟨rfl, v', R, g1, (b1.trans (hB.mono (by omega))).trans (Kept.below g2 (B := w.heap.size) (by omega) (fun k e => by
      rcases e with e | e
      · omega
      · simp [Value.ownBlock] at e)), fun k e => ?_⟩
    rcases g3 with h | ⟨k', h, h3⟩
    · rw [h] at e; simp [Value.ownBlock] at e
    · rw [h] at e; simp at e; omega
  clear HN h1 b1
  go_wp2_with fail
  refine Calls.mono HS.out ?_
  rintro _ w2 ⟨rfl, v', R, h2, b2, hv⟩
  have HT : Hid (Calls Try.prog 13 #[.pointer (some ⟨w.heap.size, 0, none⟩), .int .i64 0] w2 fun e w' => e = .returned (.tuple #[.agg #[.int .i8 0, .int .i8 1, .slice (some ⟨R, 0, none⟩) 1 1, .bool false], .int .i64 0]) ∧ ∃ v', Nt w' w.heap.size 2 v' [] ∧ Below w.heap.size w w' ∧ Sees w' (.slice (some ⟨R, 0, none⟩) 1 1) [7]) := by
    refine Calls.mono (take_yes (A := []) (B := []) (x := ⟨0, 1, [7], false, R, 0, 1⟩) h2 (Nat.le_of_ble_eq_true rfl)) ?_
    rintro _ w3 ⟨rfl, v2, g1, g2, g3, g4⟩
    exact ⟨rfl, v2, g1, b2.trans (Kept.below g2 (B := w.heap.size) b2.size (fun k e => e.elim (fun e => by omega) (hv k))), g4.sees⟩
  clear HS h2 b2 hv
  go_wp2_with fail
  refine Calls.mono HT.out ?_
  rintro _ w3 ⟨rfl, v3, h3, b3, hs⟩
  clear HT
  obtain ⟨W, hW⟩ : ∃ W, W = (w3.alloc (.cells #[.int .i8 0, .int .i8 1, .slice (some ⟨R, 0, none⟩) 1 1, .bool false] 38)).alloc (.cells #[.int .u8 7] 5) := ⟨_, rfl⟩
  have HQ : Hid (∃ K, Below w.heap.size w W ∧ Nt W w.heap.size 2 K [] ∧ Calls Try.prog 16 #[.slice (some ⟨R, 0, none⟩) 1 1, .slice (some ⟨w3.heap.size + 1, 0, none⟩) 1 1] W fun e w' => e = .returned (.bool true) ∧ ∃ n, w' = W.drewN n) := by
    obtain ⟨f1, f2, f3, f4⟩ := two_alloc w3 (.cells #[.int .i8 0, .int .i8 1, .slice (some ⟨R, 0, none⟩) 1 1, .bool false] 38) (.cells #[.int .u8 7] 5)
    rw [← hW] at f1 f2 f3 f4
    refine ⟨v3, b3.trans (f1.mono b3.size), h3.below f1, Calls.mono (eqBytes_any _ _ [7] [7] W (hs.below f1 (Nat.le_refl _)) (Sees.own (base := 0) (xs := [7]) ⟨rfl, .inr ⟨w3.heap.size + 1, 1, _, rfl, Nat.zero_le _, f3, Nat.le_refl _, by unfold maxLen; decide, rfl, rfl⟩⟩)) ?_⟩
    rintro e w' ⟨rfl, n, rfl⟩
    exact ⟨by simp, n, rfl⟩
  clear h3 b3 hs
  go_wp2_with fail
  rw [← hW]
  obtain ⟨K, b4, h4, hc⟩ := HQ.out
  refine Calls.mono hc ?_
  rintro _ w5 ⟨rfl, n, rfl⟩
  have HL : Hid (Calls Try.prog 15 #[.pointer (some ⟨w.heap.size, 0, none⟩)] (W.drewN n) fun e w' => e = .returned (.int .i64 0) ∧ w' = W.drewN n) := len_anyL (h4.drewN n)
  have HB : Hid (Below w.heap.size w (W.drewN n)) := below_drewN b4 n
  clear b4 h4 hc HQ hW
  generalize W.drewN n = W5 at *
  go_wp2_with fail
  refine Calls.mono HL.out ?_
  rintro _ w5 ⟨rfl, rfl⟩
  go_wp2_with fail
  all_goals (go_ret; exact ⟨rfl, HB.out⟩)
end Go.Proofs.Ytdhdmfibdgepfaa
