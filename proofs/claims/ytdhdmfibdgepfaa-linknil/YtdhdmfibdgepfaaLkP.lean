/- LinkNil's walk, whole. -/
import Derived.Test.YtdhdmfibdgepfaaLkN
namespace Go.Proofs.Ytdhdmfibdgepfaa
open Go.RowKit
set_option maxRecDepth 8000
set_option linter.unusedSimpArgs false
set_option linter.unusedVariables false

theorem sees_oneT {w : World} {b : Nat} {o : OpT} (h : w.heap[b]? = some (.cells o.cells.toArray 32 (0, 0))) (hg : GoodT w o) : SeesTs w (.slice (some ⟨b, 0, none⟩) 1 1) [o] :=
  ⟨_, 1, rfl, Nat.le_refl _, fun m hm => by simp at hm; subst hm; exact hg, fun _ => ⟨b, 0, rfl, fun i m hm j u hj => by
    cases i with
    | succ i => simp at hm
    | zero =>
      simp at hm; subst hm
      rw [cell_of_row w b _ _ _ _ h, ← hj, List.getElem?_toArray]
      congr 1; omega⟩⟩

set_option maxHeartbeats 4000000 in
theorem linkNil_walk (cs : List Value) (o : OpT) (w : World) (hcs : cs = o.cells) (hg : GoodT w o) :
    Calls Try.prog 5 #[.agg cs.toArray] w fun e w' => e = .returned (.bool true) ∧ Below w.heap.size w w' := by
  subst hcs
  obtain ⟨w1, hw1⟩ : ∃ w1, w1 = w.alloc (.cells o.cells.toArray 32) := ⟨_, rfl⟩
  have H1 : Hid (Below w.heap.size w w1 ∧ w1.heap[w.heap.size]? = some (.cells o.cells.toArray 32 (0, 0)) ∧ GoodT w1 o) := by
    rw [hw1]; exact ⟨oneL w _, heap_alloc_new w _, hg.below (oneL w _)⟩
  clear hg
  go_enter Try.func5, Try.ntmps5
  go_upto_region 1 with fail
  rw [← hw1]
  clear hw1
  go_wp2_with fail
  refine Calls.mono (works22 w1) ?_
  rintro _ w2 ⟨rfl, b2⟩
  have H2 : Hid (Below w.heap.size w w2 ∧ w2.heap[w.heap.size]? = some (.cells o.cells.toArray 32 (0, 0)) ∧ GoodT w2 o) := ⟨H1.out.1.trans (b2.mono H1.out.1.size), boxL H1.out.2.1 b2, H1.out.2.2.below b2⟩
  clear b2 H1
  have d0 : w2.cell? ⟨w.heap.size, 0, none⟩ = _ := cell_of_row w2 w.heap.size 0 _ _ _ H2.out.2.1
  have d1 : w2.cell? ⟨w.heap.size, 1, none⟩ = _ := cell_of_row w2 w.heap.size 1 _ _ _ H2.out.2.1
  have d2 : w2.cell? ⟨w.heap.size, 2, none⟩ = _ := cell_of_row w2 w.heap.size 2 _ _ _ H2.out.2.1
  have d3 : w2.cell? ⟨w.heap.size, 3, none⟩ = _ := cell_of_row w2 w.heap.size 3 _ _ _ H2.out.2.1
  have d4 : w2.cell? ⟨w.heap.size, 4, none⟩ = _ := cell_of_row w2 w.heap.size 4 _ _ _ H2.out.2.1
  have d5 : w2.cell? ⟨w.heap.size, 5, none⟩ = _ := cell_of_row w2 w.heap.size 5 _ _ _ H2.out.2.1
  have d6 : w2.cell? ⟨w.heap.size, 6, none⟩ = _ := cell_of_row w2 w.heap.size 6 _ _ _ H2.out.2.1
  have d7 : w2.cell? ⟨w.heap.size, 7, none⟩ = _ := cell_of_row w2 w.heap.size 7 _ _ _ H2.out.2.1
  have hz := lt_of_block H2.out.2.1
  obtain ⟨w3, hw3⟩ : ∃ w3, w3 = w2.alloc (.cells o.cells.toArray 32) := ⟨_, rfl⟩
  have H3 : Hid ((Below w.heap.size w w3 ∧ w3.heap[w.heap.size]? = some (.cells o.cells.toArray 32 (0, 0)) ∧ GoodT w3 o) ∧ SeesTs w3 (.slice (some ⟨w2.heap.size, 0, none⟩) 1 1) [o]) := by
    have b3 := oneL w2 (.cells o.cells.toArray 32)
    have h3 := heap_alloc_new w2 (.cells o.cells.toArray 32)
    rw [← hw3] at b3 h3
    exact ⟨⟨H2.out.1.trans (b3.mono H2.out.1.size), boxL H2.out.2.1 b3, H2.out.2.2.below b3⟩, sees_oneT h3 (H2.out.2.2.below b3)⟩
  go_wp2_with fail
  rw [← hw3]
  clear hw3 H2
  clear d0 d1 d2 d3 d4 d5 d6 d7 hz
  refine Calls.mono (long22 H3.out.2 (Nat.le_of_ble_eq_true rfl)) ?_
  rintro _ w4 ⟨bl, rfl, hbl, b4⟩
  have H4 : Hid (Below w.heap.size w w4 ∧ w4.heap[w.heap.size]? = some (.cells o.cells.toArray 32 (0, 0)) ∧ GoodT w4 o) := ⟨H3.out.1.1.trans (b4.mono H3.out.1.1.size), boxL H3.out.1.2.1 b4, H3.out.1.2.2.below b4⟩
  clear b4 H3
  cases bl with
  | true =>
    clear hbl
    go_wp2_with fail
    all_goals (go_ret; exact ⟨rfl, H4.out.1⟩)
  | false =>
    have hle : o.bs.length ≤ 67108864 := by have := hbl rfl; simp [totT] at this; omega
    clear hbl
    have d0 : w4.cell? ⟨w.heap.size, 0, none⟩ = _ := cell_of_row w4 w.heap.size 0 _ _ _ H4.out.2.1
    have d1 : w4.cell? ⟨w.heap.size, 1, none⟩ = _ := cell_of_row w4 w.heap.size 1 _ _ _ H4.out.2.1
    have d2 : w4.cell? ⟨w.heap.size, 2, none⟩ = _ := cell_of_row w4 w.heap.size 2 _ _ _ H4.out.2.1
    have d3 : w4.cell? ⟨w.heap.size, 3, none⟩ = _ := cell_of_row w4 w.heap.size 3 _ _ _ H4.out.2.1
    have d4 : w4.cell? ⟨w.heap.size, 4, none⟩ = _ := cell_of_row w4 w.heap.size 4 _ _ _ H4.out.2.1
    have d5 : w4.cell? ⟨w.heap.size, 5, none⟩ = _ := cell_of_row w4 w.heap.size 5 _ _ _ H4.out.2.1
    have d6 : w4.cell? ⟨w.heap.size, 6, none⟩ = _ := cell_of_row w4 w.heap.size 6 _ _ _ H4.out.2.1
    have d7 : w4.cell? ⟨w.heap.size, 7, none⟩ = _ := cell_of_row w4 w.heap.size 7 _ _ _ H4.out.2.1
    have hz := lt_of_block H4.out.2.1
    go_wp2_with fail
    refine Calls.mono (nothing_any (q := none) (.inl rfl) H4.out.2.2 hle) ?_
    rintro _ w5 ⟨rfl, b5⟩
    clear d0 d1 d2 d3 d4 d5 d6 d7 hz
    have H5 : Hid (Below w.heap.size w w5 ∧ w5.heap[w.heap.size]? = some (.cells o.cells.toArray 32 (0, 0)) ∧ GoodT w5 o) := ⟨H4.out.1.trans (b5.mono H4.out.1.size), boxL H4.out.2.1 b5, H4.out.2.2.below b5⟩
    clear b5 H4
    obtain ⟨w6, hw6⟩ : ∃ w6, w6 = w5.alloc (.cells #[.int .i64 0, .slice none 0 0] 51) := ⟨_, rfl⟩
    have H6 : Hid ((Below w.heap.size w w6 ∧ w6.heap[w.heap.size]? = some (.cells o.cells.toArray 32 (0, 0)) ∧ GoodT w6 o) ∧ NoN w6 (some ⟨w5.heap.size, 0, none⟩)) := by
      have b3 := oneL w5 (.cells #[.int .i64 0, .slice none 0 0] 51)
      have h3 := heap_alloc_new w5 (.cells #[.int .i64 0, .slice none 0 0] 51)
      rw [← hw6] at b3 h3
      exact ⟨⟨H5.out.1.trans (b3.mono H5.out.1.size), boxL H5.out.2.1 b3, H5.out.2.2.below b3⟩, .inr ⟨_, rfl, h3⟩⟩
    have d0 : w6.cell? ⟨w.heap.size, 0, none⟩ = _ := cell_of_row w6 w.heap.size 0 _ _ _ H6.out.1.2.1
    have d1 : w6.cell? ⟨w.heap.size, 1, none⟩ = _ := cell_of_row w6 w.heap.size 1 _ _ _ H6.out.1.2.1
    have d2 : w6.cell? ⟨w.heap.size, 2, none⟩ = _ := cell_of_row w6 w.heap.size 2 _ _ _ H6.out.1.2.1
    have d3 : w6.cell? ⟨w.heap.size, 3, none⟩ = _ := cell_of_row w6 w.heap.size 3 _ _ _ H6.out.1.2.1
    have d4 : w6.cell? ⟨w.heap.size, 4, none⟩ = _ := cell_of_row w6 w.heap.size 4 _ _ _ H6.out.1.2.1
    have d5 : w6.cell? ⟨w.heap.size, 5, none⟩ = _ := cell_of_row w6 w.heap.size 5 _ _ _ H6.out.1.2.1
    have d6 : w6.cell? ⟨w.heap.size, 6, none⟩ = _ := cell_of_row w6 w.heap.size 6 _ _ _ H6.out.1.2.1
    have d7 : w6.cell? ⟨w.heap.size, 7, none⟩ = _ := cell_of_row w6 w.heap.size 7 _ _ _ H6.out.1.2.1
    have hz := lt_of_block H6.out.1.2.1
    rw [hw6] at d0 d1 d2 d3 d4 d5 d6 d7 hz
    have HW6 : Hid (w6 = w5.alloc (.cells #[.int .i64 0, .slice none 0 0] 51)) := hw6
    clear hw6
    go_wp2_with fail
    rw [← HW6.out]
    clear d0 d1 d2 d3 d4 d5 d6 d7 hz
    clear HW6 H5
    refine Calls.mono (nothing_any H6.out.2 H6.out.1.2.2 hle) ?_
    rintro _ w7 ⟨rfl, b7⟩
    have H7 : Hid (Below w.heap.size w w7) := H6.out.1.1.trans (b7.mono H6.out.1.1.size)
    clear b7 H6
    go_wp2_with fail
    all_goals (go_ret; exact ⟨rfl, H7.out⟩)
end Go.Proofs.Ytdhdmfibdgepfaa
