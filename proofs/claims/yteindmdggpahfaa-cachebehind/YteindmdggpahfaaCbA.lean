/- The calls of a ring of transactions: Len, NewRing, round. -/
import Derived.Test.YteindmdggpahfaaProg
import Derived.Test.YteindmdggpahfaaCbP
import Derived.BigQuiet
import Derived.Deep.RegionHeld
import Derived.Deep.CutRange
import Derived.Lib.SliceRun
namespace Go.Proofs.Yteindmdggpahfaa
open Go.RowKit
set_option maxRecDepth 8000

theorem lenZ_any {T : TypeId} {N : Nat} {w : World} {p m : Nat} {xs : List (List Value)} (h : IsRz T N w p m xs) :
    Calls Try.prog 43 #[.pointer (some ⟨p, 0, none⟩)] w fun e w' => e = .returned (.int .i64 xs.length) ∧ w' = w := by
  obtain ⟨hN, first, f, hr, hf⟩ := h
  have c66 := hr.cell (i := 1026) (by omega)
  rw [hf.cc] at c66
  have hl := hr.lt
  clear hr hf
  go_enter Try.func43, Try.ntmps43
  go_wp2
  all_goals (go_ret; exact ⟨rfl, rfl⟩)

theorem newZ_no (n : Int) (w : World) (h : n < 0 ∨ 64 < n) :
    Calls Try.prog 17 #[.int .i64 n] w fun e w' => e = .returned (.tuple #[.pointer none, .int .i64 1]) ∧ w' = w := by
  rcases h with h | h
  · go_enter Try.func17, Try.ntmps17
    go_wp2
    all_goals (go_ret2; exact ⟨rfl, rfl⟩)
  · have h2 : ¬ n < 0 := by omega
    go_enter Try.func17, Try.ntmps17
    go_wp2
    all_goals (go_ret2; exact ⟨rfl, rfl⟩)

abbrev txZ : List Value := [.int .u32 0, .int .u32 0, .int .i8 0, .int .u32 0, .int .i64 0, .int .i8 0, .string ⟨#[]⟩, .slice none 0 0, .slice none 0 0, .int .i32 0, .bool false, .bool false, .int .i64 0, .int .i32 0, .slice none 0 0, .slice none 0 0]

theorem roundZ_any {T : TypeId} {N : Nat} {w : World} {p m first i : Nat} {f : Nat → Value} (hN : 1027 ≤ N) (hr : w.rowIs p T N f) (h64 : f 1024 = .int .i64 m) (h65 : f 1025 = .int .i64 first) (hm : 0 < m) (hm64 : m ≤ 64) (hi : i ≤ 64) (hfi : first ≤ 64) :
    Calls Try.prog 28 #[.pointer (some ⟨p, 0, none⟩), .int .i64 i] w fun e w' => e = .returned (.int .i64 ((first + i) % m : Nat)) ∧ ∃ n, w' = w.drewN n := by
  have c64 := hr.cell (i := 1024) (by omega)
  have c65 := hr.cell (i := 1025) (by omega)
  rw [h64] at c64
  rw [h65] at c65
  have hl := hr.lt
  clear hr h64 h65
  go_enter Try.func28, Try.ntmps28
  go_wp2_with fail
  go_quiet (fail)
  go_wp2
  go_ret
  exact ⟨by simp, nq, rfl⟩
end Go.Proofs.Yteindmdggpahfaa
