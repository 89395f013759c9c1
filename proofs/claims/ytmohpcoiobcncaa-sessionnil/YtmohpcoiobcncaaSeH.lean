/- All calls of a nil clock and of a plain one; SessionNil's walk. -/
import Derived.Test.YtmohpcoiobcncaaSeG
namespace Go.Proofs.Ytmohpcoiobcncaa
open Go.RowKit Go.Shelf
set_option maxRecDepth 8000
set_option linter.unusedSimpArgs false

/-- A clock that is none. -/
def NoC (w : World) (r : Option Addr) : Prop := Calls Try.prog 17 #[.pointer r] w fun e w' => e = .returned (.bool true) ∧ w' = w

theorem no_add {w : World} {r : Option Addr} (h : NoC w r) (id tm : Int) : Calls Try.prog 10 #[.pointer r, .int .i64 id, .int .i32 tm] w fun e w' => e = .returned (.int .i64 1) ∧ w' = w := by
  have HN : Hid (NoC w r) := h
  clear h
  go_enter Try.func10, Try.ntmps10
  go_wp2_with fail
  refine Calls.mono HN.out ?_
  rintro e w1 ⟨rfl, hw1⟩
  rw [hw1]
  clear hw1 HN
  go_wp2
  all_goals (go_ret; exact ⟨rfl, rfl⟩)

theorem no_touch {w : World} {r : Option Addr} (h : NoC w r) (id : Int) : Calls Try.prog 12 #[.pointer r, .int .i64 id] w fun e w' => e = .returned (.int .i64 1) ∧ w' = w := by
  have HN : Hid (NoC w r) := h
  clear h
  go_enter Try.func12, Try.ntmps12
  go_wp2_with fail
  refine Calls.mono HN.out ?_
  rintro e w1 ⟨rfl, hw1⟩
  rw [hw1]
  clear hw1 HN
  go_wp2
  all_goals (go_ret; exact ⟨rfl, rfl⟩)

theorem no_remove {w : World} {r : Option Addr} (h : NoC w r) (id : Int) : Calls Try.prog 23 #[.pointer r, .int .i64 id] w fun e w' => e = .returned (.bool false) ∧ w' = w := by
  have HN : Hid (NoC w r) := h
  clear h
  go_enter Try.func23, Try.ntmps23
  go_wp2_with fail
  refine Calls.mono HN.out ?_
  rintro e w1 ⟨rfl, hw1⟩
  rw [hw1]
  clear hw1 HN
  go_wp2
  all_goals (go_ret; exact ⟨rfl, rfl⟩)

theorem no_tick {w : World} {r : Option Addr} (h : NoC w r) : Calls Try.prog 9 #[.pointer r] w fun e w' => e = .returned (.slice none 0 0) ∧ w' = w := by
  have HN : Hid (NoC w r) := h
  clear h
  go_enter Try.func9, Try.ntmps9
  go_wp2_with fail
  refine Calls.mono HN.out ?_
  rintro e w1 ⟨rfl, hw1⟩
  rw [hw1]
  clear hw1 HN
  go_wp2
  all_goals (go_ret; exact ⟨rfl, rfl⟩)

theorem no_due {w : World} {r : Option Addr} (h : NoC w r) (id : Int) : Calls Try.prog 11 #[.pointer r, .int .i64 id] w fun e w' => e = .returned (.tuple #[.int .i64 0, .bool false]) ∧ w' = w := by
  have HN : Hid (NoC w r) := h
  clear h
  go_enter Try.func11, Try.ntmps11
  go_wp2_with fail
  refine Calls.mono HN.out ?_
  rintro e w1 ⟨rfl, hw1⟩
  rw [hw1]
  clear hw1 HN
  go_wp2
  all_goals (go_ret2; exact ⟨rfl, rfl⟩)

theorem no_now {w : World} {r : Option Addr} (h : NoC w r) : Calls Try.prog 13 #[.pointer r] w fun e w' => e = .returned (.int .i64 0) ∧ w' = w := by
  have HN : Hid (NoC w r) := h
  clear h
  go_enter Try.func13, Try.ntmps13
  go_wp2_with fail
  refine Calls.mono HN.out ?_
  rintro e w1 ⟨rfl, hw1⟩
  rw [hw1]
  clear hw1 HN
  go_wp2
  all_goals (go_ret; exact ⟨rfl, rfl⟩)

theorem no_all {w : World} {r : Option Addr} (h : NoC w r) : Calls Try.prog 14 #[.pointer r] w fun e w' => e = .returned (.slice none 0 0) ∧ w' = w := by
  have HN : Hid (NoC w r) := h
  clear h
  go_enter Try.func14, Try.ntmps14
  go_wp2_with fail
  refine Calls.mono HN.out ?_
  rintro e w1 ⟨rfl, hw1⟩
  rw [hw1]
  clear hw1 HN
  go_wp2
  all_goals (go_ret; exact ⟨rfl, rfl⟩)

theorem noC_nil (w : World) : NoC w none := isNone_nil w
theorem noC_plain {w : World} {c : Nat} (hc : w.heap[c]? = some (.cells #[.int .i64 0, .map none, .nilFunc] 46 (0, 0))) : NoC w (some ⟨c, 0, none⟩) := isNone_plain hc

set_option maxHeartbeats 1000000 in
theorem nothing_any {w : World} {r : Option Addr} (h : NoC w r) (id tm : Int) : Calls Try.prog 15 #[.pointer r, .int .i64 id, .int .i32 tm] w fun e w' => e = .returned (.bool true) ∧ w' = w := by
  have HN : Hid (NoC w r) := h
  clear h
  go_enter Try.func15, Try.ntmps15
  go_wp2_with fail
  go_at_call 10
  refine Calls.mono (no_add HN.out id tm) ?_
  rintro e w1 ⟨rfl, hw1⟩
  rw [hw1]
  clear hw1 w1
  go_wp2_with fail
  go_at_call 12
  refine Calls.mono (no_touch HN.out id) ?_
  rintro e w1 ⟨rfl, hw1⟩
  rw [hw1]
  clear hw1 w1
  go_wp2_with fail
  go_at_call 23
  refine Calls.mono (no_remove HN.out id) ?_
  rintro e w1 ⟨rfl, hw1⟩
  rw [hw1]
  clear hw1 w1
  go_wp2_with fail
  go_at_call 9
  refine Calls.mono (no_tick HN.out) ?_
  rintro e w1 ⟨rfl, hw1⟩
  rw [hw1]
  clear hw1 w1
  go_wp2_with fail
  go_at_call 11
  refine Calls.mono (no_due HN.out id) ?_
  rintro e w1 ⟨rfl, hw1⟩
  rw [hw1]
  clear hw1 w1
  go_wp2_with fail
  go_at_call 13
  refine Calls.mono (no_now HN.out) ?_
  rintro e w1 ⟨rfl, hw1⟩
  rw [hw1]
  clear hw1 w1
  go_wp2_with fail
  go_at_call 14
  refine Calls.mono (no_all HN.out) ?_
  rintro e w1 ⟨rfl, hw1⟩
  rw [hw1]
  clear hw1 w1
  go_wp2
  all_goals (go_ret; exact ⟨rfl, rfl⟩)

set_option maxHeartbeats 1000000 in
theorem sessionNil_walk (id tm : Int) (w : World) (_ : -9223372036854775808 ≤ id ∧ id ≤ 9223372036854775807) (_ : -2147483648 ≤ tm ∧ tm ≤ 2147483647) : Calls Try.prog 5 #[.int .i64 id, .int .i32 tm] w fun e w' => e = .returned (.bool true) ∧ Below w.heap.size w w' := by
  have HW : Hid _ := works19 w
  go_enter Try.func5, Try.ntmps5
  go_wp2_with fail
  go_at_call 6
  refine Calls.mono HW.out ?_
  rintro e w1 ⟨rfl, hb1⟩
  have HB : Hid (Below w.heap.size w (w1.alloc (.cells #[.int .i64 0, .map none, .nilFunc] 46))) := hb1.alloc hb1.size _
  have HO : Hid _ := nothing_any (noC_nil w1) id tm
  have HP : Hid _ := nothing_any (noC_plain (heap_alloc_new w1 (.cells #[.int .i64 0, .map none, .nilFunc] 46 (0, 0)))) id tm
  clear HW hb1
  go_wp2_with fail
  go_at_call 15
  refine Calls.mono HO.out ?_
  rintro e w2 ⟨rfl, hw2⟩
  rw [hw2]
  clear hw2 HO w2
  go_wp2_with fail
  go_at_call 15
  refine Calls.mono HP.out ?_
  rintro e w2 ⟨rfl, hw2⟩
  rw [hw2]
  clear hw2 HP w2
  go_wp2
  all_goals (go_ret; exact ⟨rfl, HB.out⟩)

end Go.Proofs.Ytmohpcoiobcncaa
