/- EqAcl and EqIds of lagoonref00 at two lists of the same data: true; nothing is changed. -/
import Derived.Test.YtoeialngbbfoeaaGreatDoorLeafSumJ
import Derived.BigQuiet
namespace Go.Proofs.YtoeialngbbfoeaaGreatDoor
open Go.RowKit
set_option maxRecDepth 8000

theorem neqId (a b : ByteArray) (w : World) : (binOp .neq 103 (.agg #[.string a, .string b]) (.agg #[.string a, .string b])).run Tryz.prog w = .ok (.bool false) w := by
  have hu : Tryz.prog.underlying 103 = some (.struct (Tryz.prog.fieldsOf 103)) := by kernel_rfl
  have hp : Tryz.prog.stoodInHeld 103 = false := by kernel_rfl
  have u3 := Tryz.underlying9
  have a3 := Tryz.isAgg9
  have z3 := Tryz.sizeOf9
  rw [run_neq_struct, show (10000 : Nat) = 9999 + 1 from rfl, run_equalIn_agg w 9999 _ _ _ hu hp]
  simp only [Program.fieldsOf, Tryz.underlying103]
  go_simp

theorem eqIdIn (d : Nat) (a b : ByteArray) (w : World) : (Op.equalIn (d + 1 + 1) 103 (.agg #[.string a, .string b]) (.agg #[.string a, .string b])).run Tryz.prog w = .ok true w := by
  have hu : Tryz.prog.underlying 103 = some (.struct (Tryz.prog.fieldsOf 103)) := by kernel_rfl
  have hp : Tryz.prog.stoodInHeld 103 = false := by kernel_rfl
  have u3 := Tryz.underlying9
  have a3 := Tryz.isAgg9
  have z3 := Tryz.sizeOf9
  rw [run_equalIn_agg w (d + 1) _ _ _ hu hp]
  simp only [Program.fieldsOf, Tryz.underlying103]
  go_simp

theorem neqEn (p : Int) (a b : ByteArray) (w : World) : (binOp .neq 105 (.agg #[.int .i8 p, .string a, .string b]) (.agg #[.int .i8 p, .string a, .string b])).run Tryz.prog w = .ok (.bool false) w := by
  have hu : Tryz.prog.underlying 105 = some (.struct (Tryz.prog.fieldsOf 105)) := by kernel_rfl
  have hp : Tryz.prog.stoodInHeld 105 = false := by kernel_rfl
  have hin : ∀ w, (Op.equalIn 9999 103 (.agg #[.string a, .string b]) (.agg #[.string a, .string b])).run Tryz.prog w = .ok true w := eqIdIn 9997 a b
  have u4 := Tryz.underlying25
  have a4 := Tryz.isAgg25
  have z4 := Tryz.sizeOf25
  have a5 := Tryz.isAgg103
  have z5 := Tryz.sizeOf103
  rw [run_neq_struct, show (10000 : Nat) = 9999 + 1 from rfl, run_equalIn_agg w 9999 _ _ _ hu hp]
  simp only [Program.fieldsOf, Tryz.underlying105]
  clear hu hp
  go_simp

set_option maxHeartbeats 400000 in
theorem eqIds_same (v u : Value) (l : List IdD) (w : World) (h : SeesR w v 2 (l.map IdD.cells)) (g : SeesR w u 2 (l.map IdD.cells)) :
    Calls Tryz.prog 80 #[v, u] w fun e w' => e = .returned (.bool true) ∧ ∃ n, w' = w.drewN n := by
  obtain ⟨ao, cap, rfl, hlc, hcm, _, h3⟩ := h
  obtain ⟨bo, cbp, rfl, glc, gcm, _, g3⟩ := g
  unfold maxLen at hcm gcm
  have hg : Tryz.prog.eqGuardType Tryz.prog.depth 103 = false := by kernel_rfl
  rw [List.length_map] at hlc glc ⊢
  go_enter Tryz.func80, Tryz.ntmps80
  go_wp2
  go_loopw [5] (fun i wr => ∃ k m : Nat, k ≤ l.length ∧ i = .int .i64 k ∧ wr = w.drewN m) (fun i _ => l.length - (intOf i).toNat)
  case atStart => exact ⟨0, 0, Nat.zero_le _, rfl, rfl⟩
  case round =>
    obtain ⟨k, m, hk, rfl, rfl⟩ := hrel
    by_cases hlt : k < l.length
    · rcases h3 with h3 | ⟨b, off, rfl, h3⟩
      · have : l.length = 0 := by simpa using congrArg List.length h3
        omega
      · rcases g3 with g3 | ⟨b', off', rfl, g3⟩
        · have : l.length = 0 := by simpa using congrArg List.length g3
          omega
        · have c0 := h3 k (by simpa using hlt) 0 (by omega)
          have c1 := h3 k (by simpa using hlt) 1 (by omega)
          have e0 := g3 k (by simpa using hlt) 0 (by omega)
          have e1 := g3 k (by simpa using hlt) 1 (by omega)
          simp [IdD.cells] at c0 c1 e0 e1
          clear h3 g3
          generalize l[k] = x at *
          have hq := neqId x.scheme x.name
          go_wp2
          go_quiet (fail)
          go_wp2
          go_roundw
          case rel => exact ⟨k + 1, _, by omega, by go_num, rfl⟩
          case measure => simp [intOf]; omega
    · obtain rfl : k = l.length := by omega
      go_wp2
      go_ret
      exact ⟨rfl, m, rfl⟩
set_option maxHeartbeats 400000 in
theorem eqAcl_same (v u : Value) (l : List EnD) (w : World) (h : SeesR w v 3 (l.map EnD.cells)) (g : SeesR w u 3 (l.map EnD.cells)) :
    Calls Tryz.prog 79 #[v, u] w fun e w' => e = .returned (.bool true) ∧ ∃ n, w' = w.drewN n := by
  obtain ⟨ao, cap, rfl, hlc, hcm, _, h3⟩ := h
  obtain ⟨bo, cbp, rfl, glc, gcm, _, g3⟩ := g
  unfold maxLen at hcm gcm
  have hg : Tryz.prog.eqGuardType Tryz.prog.depth 105 = false := by kernel_rfl
  rw [List.length_map] at hlc glc ⊢
  go_enter Tryz.func79, Tryz.ntmps79
  go_wp2
  go_loopw [5] (fun i wr => ∃ k m : Nat, k ≤ l.length ∧ i = .int .i64 k ∧ wr = w.drewN m) (fun i _ => l.length - (intOf i).toNat)
  case atStart => exact ⟨0, 0, Nat.zero_le _, rfl, rfl⟩
  case round =>
    obtain ⟨k, m, hk, rfl, rfl⟩ := hrel
    by_cases hlt : k < l.length
    · rcases h3 with h3 | ⟨b, off, rfl, h3⟩
      · have : l.length = 0 := by simpa using congrArg List.length h3
        omega
      · rcases g3 with g3 | ⟨b', off', rfl, g3⟩
        · have : l.length = 0 := by simpa using congrArg List.length g3
          omega
        · have c0 := h3 k (by simpa using hlt) 0 (by omega)
          have c1 := h3 k (by simpa using hlt) 1 (by omega)
          have c2 := h3 k (by simpa using hlt) 2 (by omega)
          have e2 := g3 k (by simpa using hlt) 2 (by omega)
          have e0 := g3 k (by simpa using hlt) 0 (by omega)
          have e1 := g3 k (by simpa using hlt) 1 (by omega)
          simp [EnD.cells] at c0 c1 c2 e0 e1 e2
          clear h3 g3
          generalize l[k] = x at *
          have hq := neqEn x.perms x.id.scheme x.id.name
          go_wp2
          go_quiet (fail)
          go_wp2
          go_roundw
          case rel => exact ⟨k + 1, _, by omega, by go_num, rfl⟩
          case measure => simp [intOf]; omega
    · obtain rfl : k = l.length := by omega
      go_wp2
      go_ret
      exact ⟨rfl, m, rfl⟩
end Go.Proofs.YtoeialngbbfoeaaGreatDoor
