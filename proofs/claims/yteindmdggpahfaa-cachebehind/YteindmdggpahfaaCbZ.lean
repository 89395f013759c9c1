/- NewRing of transactions: the empty ring. -/
import Derived.Test.YteindmdggpahfaaCbA
namespace Go.Proofs.Yteindmdggpahfaa
open Go.RowKit
set_option maxRecDepth 8000

/-- The cells of an empty ring of at most none. -/
def rzZ : List Value := (List.replicate 64 txZ).flatten ++ [Value.int .i64 0, Value.int .i64 0, Value.int .i64 0]

theorem zeroZ : ∃ Z : Array Value, Z.size = 1027 ∧ (∀ w, (zeroValue 64).run Try.prog w = .ok (.agg Z) w) ∧ Z[1025]? = some (.int .i64 0) ∧ Z[1026]? = some (.int .i64 0) ∧ ∀ v ∈ Z.toList, v.oneCell' = true :=
  ⟨rzZ.toArray, by decide +kernel, fun w => by kernel_rfl, by kernel_rfl, by kernel_rfl, fun v hv => by
    have h9 : (rzZ.all (·.oneCell')) = true := by kernel_rfl
    rw [List.all_eq_true] at h9
    exact h9 v hv⟩

theorem newZ_yes (n : Nat) (w : World) (h : n ≤ 64) :
    Calls Try.prog 17 #[.int .i64 n] w fun e w' => e = .returned (.tuple #[.pointer (some ⟨w.heap.size, 0, none⟩), .int .i64 0]) ∧ IsRz 64 1027 w' w.heap.size n [] ∧ Below w.heap.size w w' := by
  obtain ⟨Z, hZ, hz, h65, h66, hone⟩ := zeroZ
  have hZ' : ¬ (Z.size < 1025) := by omega
  have HB : Hid (IsRz 64 1027 (w.alloc (.cells (Z.setIfInBounds 1024 (.int .i64 n)) 64)) w.heap.size n [] ∧ Below w.heap.size w (w.alloc (.cells (Z.setIfInBounds 1024 (.int .i64 n)) 64))) := by
    refine ⟨⟨Nat.le_refl _, 0, fun i => (Z.setIfInBounds 1024 (.int .i64 n)).getD i (.bool true), ?_, ⟨h, by simp, by omega, ?_, ?_, ?_, fun i x hx => by simp at hx, fun i => ?_, ?_⟩⟩, (Below.refl _ _).alloc (Nat.le_refl _) _⟩
    · have := World.rowIs_alloc w (Z.setIfInBounds 1024 (.int .i64 n)) 64 (fun i => (Z.setIfInBounds 1024 (.int .i64 n)).getD i (.bool true)) (fun i hi => by
        rw [Array.getElem?_eq_getElem hi, Array.getD_eq_getD_getElem?, Array.getElem?_eq_getElem hi]; rfl)
      rw [Array.size_setIfInBounds, hZ] at this
      exact this
    · rw [Array.getD_eq_getD_getElem?, Array.getElem?_setIfInBounds]; simp [hZ]
    · rw [Array.getD_eq_getD_getElem?, Array.getElem?_setIfInBounds]; simp [h65]
    · rw [Array.getD_eq_getD_getElem?, Array.getElem?_setIfInBounds]; simp [h66]
    · rw [Array.getD_eq_getD_getElem?, Array.getElem?_setIfInBounds]
      by_cases e1 : 1024 = i
      · simp [e1, hZ]; split <;> rfl
      · rw [if_neg e1]
        by_cases e2 : i < Z.size
        · rw [Array.getElem?_eq_getElem e2]
          exact hone _ (by simp)
        · rw [Array.getElem?_eq_none (by omega)]
          rfl
    · rw [Array.getD_eq_getD_getElem?, Array.getElem?_eq_none (by rw [Array.size_setIfInBounds]; omega)]; rfl
  clear hZ h65 h66 hone
  go_enter Try.func17, Try.ntmps17
  go_wp2
  all_goals (go_ret2; exact ⟨rfl, HB.out⟩)
end Go.Proofs.Yteindmdggpahfaa
