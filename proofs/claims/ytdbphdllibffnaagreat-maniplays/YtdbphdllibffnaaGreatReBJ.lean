/- Both disks alike: the law's alike answers true; the document's New. -/
import Derived.Test.YtdbphdllibffnaaGreatMsDJ
namespace Go.Proofs.YtdbphdllibffnaaGreat
open Go.RowKit Go.Shelf
set_option maxRecDepth 8000

theorem isRd_new (w : World) (room : Int) : IsRd (w.alloc (.cells (rdQ (.slice none 0 0) ⟨[], room, true, false, 0, 0⟩) 42)) w.heap.size (.slice none 0 0) [] ⟨[], room, true, false, 0, 0⟩ :=
  ⟨heap_alloc_new w _, ⟨rfl, World.ownsRow_nil _ _ _ _, fun i u f h => by simp at h⟩, by simp [rfoot, Value.ownBlock]⟩

theorem refNew_yes (room : Int) (w : World) (hq : 0 ≤ room ∧ room ≤ 16777216) : Calls Tryz.prog 7 #[.int .i64 room] w fun e w' => e = .returned (.tuple #[.pointer (some ⟨w.heap.size, 0, none⟩), .int .i64 0]) ∧ w' = w.alloc (.cells (rdQ (.slice none 0 0) ⟨[], room, true, false, 0, 0⟩) 42) := by
  have h1 : decide (room < 0) = false := decide_eq_false (by omega)
  have h2 : decide (room > 16777216) = false := decide_eq_false (by omega)
  go_enter Tryz.func7, Tryz.ntmps7
  go_wp2_with fail
  go_ret2
  exact ⟨rfl, rfl⟩

theorem refNew_no (room : Int) (w : World) (hq : ¬ (0 ≤ room ∧ room ≤ 16777216)) : Calls Tryz.prog 7 #[.int .i64 room] w fun e w' => e = .returned (.tuple #[.pointer none, .int .i64 1]) ∧ w' = w := by
  by_cases h0 : room < 0
  · have h1 : decide (room < 0) = true := decide_eq_true h0
    go_enter Tryz.func7, Tryz.ntmps7
    go_wp2_with fail
    go_ret2
    exact ⟨rfl, rfl⟩
  · have h1 : decide (room < 0) = false := decide_eq_false h0
    have h2 : decide (room > 16777216) = true := decide_eq_true (by omega)
    go_enter Tryz.func7, Tryz.ntmps7
    go_wp2_with fail
    go_ret2
    exact ⟨rfl, rfl⟩
end Go.Proofs.YtdbphdllibffnaaGreat
