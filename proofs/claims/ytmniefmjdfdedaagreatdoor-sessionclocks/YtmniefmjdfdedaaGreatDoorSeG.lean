/- That a clock works (works of layer 19): it is true. -/
import Derived.Test.YtmniefmjdfdedaaGreatDoorSeF
namespace Go.Proofs.YtmniefmjdfdedaaGreatDoor
open Go.RowKit Go.Shelf
set_option maxRecDepth 8000
set_option linter.unusedSimpArgs false

theorem upT_12 : upT (0 + 1) 2 = 2 := by decide
theorem add_71 : addE [] 7 1 = 0 ∧ addL [] 7 1 2 = [(7, 1, 2)] := by
  have h : addE [] 7 1 = 0 := by decide
  refine ⟨h, ?_⟩
  unfold addL
  rw [h]
  rfl
theorem tol_1 : tolL [(7, 1, 2)] (0 + 1) = [] ∧ goL [(7, 1, 2)] (0 + 1) = [(7, 1, 2)] := by
  unfold tolL goL
  simp [dueB, ids, srt]
theorem tol_2 : tolL [(7, 1, 2)] (0 + 1 + 1) = [7] ∧ goL [(7, 1, 2)] (0 + 1 + 1) = [] := by
  unfold tolL goL
  simp [dueB, ids, srt]

/-- The cells of a list of ids of one's own. -/
theorem oi_cell {w : World} {base : Nat} {v : Value} {l : List Int} (h : OI w base v l) {i : Nat} {x : Int} (hx : l[i]? = some x) : ∃ g cap, v = .slice (some ⟨g, 0, none⟩) l.length cap ∧ l.length ≤ cap ∧ w.cell? ⟨g, i, none⟩ = some (.int .i64 x) := by
  obtain ⟨_, ⟨rfl, h0⟩ | ⟨g, cap, cur, rfl, a2, a3, a4, a5, a6, a7⟩⟩ := h
  · rw [List.length_eq_zero_iff.1 h0] at hx; simp at hx
  · refine ⟨g, cap, rfl, a4, ?_⟩
    have hi : i < l.length := (List.getElem?_eq_some_iff.1 hx).1
    rw [cell_of_row w g _ _ _ _ a3, ← Array.getElem?_toList]
    have h1 : (cur.toList.take (l.length * 1))[i]? = (l.map (Value.int .i64))[i]? := by rw [a7]
    rw [List.getElem?_take, if_pos (by omega), List.getElem?_map, hx] at h1
    exact h1

set_option maxHeartbeats 1000000 in
theorem works19 (w : World) : Calls Tryz.prog 4 #[] w fun e w' => e = .returned (.bool true) ∧ Below w.heap.size w w' := by
  have HN : Hid _ := new_yes 2 w (by decide) (by decide)
  go_enter Tryz.func4, Tryz.ntmps4
  go_wp2_with fail
  go_at_call 5
  refine Calls.mono HN.out ?_
  rintro e w1 ⟨rfl, h1, b1⟩
  clear HN
  have HA : Hid (Calls Tryz.prog 9 #[.pointer (some ⟨w.heap.size + 2, 0, none⟩), .int .i64 7, .int .i32 1] w1 fun e w' => e = .returned (.int .i64 0) ∧ Hid (Ck w' (w.heap.size + 2) (w.heap.size + 1) w.heap.size 0 2 [(7, 1, 2)] ∧ Below w.heap.size w w')) := by
    refine (add_any h1 7 1 (by decide) (by decide) (by decide) (by decide)).mono (fun e w' hh => ?_)
    rw [add_71.1, upT_12, add_71.2] at hh
    exact ⟨hh.1, hh.2.1, b1.trans (hh.2.2.below b1.size (fun k hk => by omega))⟩
  clear h1 b1
  go_wp2_with fail
  go_at_call 9
  refine Calls.mono HA.out ?_
  rintro e w2 ⟨rfl, H2⟩
  clear HA
  have HT : Hid (Calls Tryz.prog 10 #[.pointer (some ⟨w.heap.size + 2, 0, none⟩)] w2 fun e w' => ∃ a c, e = .returned (.slice a 0 c) ∧ Hid (Ck w' (w.heap.size + 2) (w.heap.size + 1) w.heap.size (0 + 1) 2 [(7, 1, 2)] ∧ Below w.heap.size w w')) := by
    refine (tick_any H2.out.1 (by decide) (by decide) (by decide) (by decide)).mono (fun e w' hh => ?_)
    obtain ⟨u, rfl, q1, q2, q3⟩ := hh
    rw [tol_1.1] at q1
    rw [tol_1.2] at q2
    obtain ⟨a, c, rfl⟩ := rowS q1
    exact ⟨a, c, rfl, q2, H2.out.2.trans (q3.below H2.out.2.size (fun k hk => by rcases hk with rfl | rfl <;> omega))⟩
  clear H2
  go_wp2_with fail
  go_at_call 10
  refine Calls.mono HT.out ?_
  rintro e w3 ⟨ta, tc, rfl, H3⟩
  clear HT
  have HT : Hid (Calls Tryz.prog 10 #[.pointer (some ⟨w.heap.size + 2, 0, none⟩)] w3 fun e w' => ∃ g c, e = .returned (.slice (some ⟨g, 0, none⟩) 1 c) ∧ 1 ≤ c ∧ w'.cell? ⟨g, 0, none⟩ = some (.int .i64 7) ∧ Hid (Ck w' (w.heap.size + 2) (w.heap.size + 1) w.heap.size (0 + 1 + 1) 2 [] ∧ Below w.heap.size w w')) := by
    refine (tick_any H3.out.1 (by decide) (by decide) (by decide) (by decide)).mono (fun e w' hh => ?_)
    obtain ⟨u, rfl, q1, q2, q3⟩ := hh
    rw [tol_2.1] at q1
    rw [tol_2.2] at q2
    obtain ⟨g, c, rfl, q4, q5⟩ := oi_cell (i := 0) q1 rfl
    exact ⟨g, c, rfl, q4, q5, q2, H3.out.2.trans (q3.below H3.out.2.size (fun k hk => by rcases hk with rfl | rfl <;> omega))⟩
  clear H3
  go_wp2_with fail
  go_at_call 10
  refine Calls.mono HT.out ?_
  rintro e w4 ⟨g, gc, rfl, hgc, hg7, H4⟩
  clear HT
  have HW : Hid _ := now_any H4.out.1
  have hz : g < w4.heap.size := World.block_lt_of_cell? w4 _ hg7
  go_wp2_with fail
  go_at_call 11
  refine Calls.mono HW.out ?_
  rintro e w5 ⟨rfl, hw5⟩
  rw [hw5]
  clear HW hw5
  go_wp2
  all_goals (go_ret; exact ⟨rfl, H4.out.2⟩)

end Go.Proofs.YtmniefmjdfdedaaGreatDoor
