/- Lists of texts that are the same: EqTexts of lagoonref00. A row of one's own, by its cells. -/
import Derived.Test.YtickndnaejdanaaGreatDoorGtCJ
import Derived.BigQuiet
import Derived.Deep.QuietTactic
namespace Go.Proofs.YtickndnaejdanaaGreatDoor
open Go.RowKit
set_option maxRecDepth 8000

theorem row_down {w : World} {b b' : Nat} {T : TypeId} {z n : Nat} {v : Value} {xs : List Value} (h : w.ownsRow b T z v n xs) (hb : b' ≤ b) : w.ownsRow b' T z v n xs := by
  obtain ⟨h1, h2 | ⟨g, cap, cur, rfl, a2, a3⟩⟩ := h
  · exact ⟨h1, .inl h2⟩
  · exact ⟨h1, .inr ⟨g, cap, cur, rfl, Nat.le_trans hb a2, a3⟩⟩

theorem rowS_cell {w : World} {base : Nat} {v : Value} {xs : List (List Int)} (h : w.ownsRow base 9 1 v xs.length (txV xs)) (k : Nat) (hk : k < xs.length) : ∃ g c, v = .slice (some ⟨g, 0, none⟩) xs.length c ∧ w.cell? ⟨g, k, none⟩ = some (.string (strOfNums xs[k])) := by
  obtain ⟨a, c, rfl⟩ := row_val h
  obtain ⟨g, rfl, hc⟩ := row_first h (by omega)
  exact ⟨g, c, rfl, by rw [hc k (by omega)]; simp [txV, hk]⟩

set_option maxHeartbeats 1000000 in
theorem eqTexts_is (v1 v2 : Value) (xs : List (List Int)) (n1 n2 : Nat) (w : World) (h1 : w.ownsRow n1 9 1 v1 xs.length (txV xs)) (h2 : w.ownsRow n2 9 1 v2 xs.length (txV xs)) (hl : xs.length ≤ 1000000000) :
    Calls Tryz.prog 12 #[v1, v2] w fun e w' => e = .returned (.bool true) ∧ ∃ n, w' = w.drewN n := by
  obtain ⟨a1, c1, rfl⟩ := row_val h1
  obtain ⟨a2, c2, rfl⟩ := row_val h2
  have H : Hid (w.ownsRow n1 9 1 (.slice a1 xs.length c1) xs.length (txV xs) ∧ w.ownsRow n2 9 1 (.slice a2 xs.length c2) xs.length (txV xs)) := ⟨h1, h2⟩
  clear h1 h2
  go_enter Tryz.func12, Tryz.ntmps12
  go_wp2
  go_loopw [5] (fun i wr => ∃ k m : Nat, k ≤ xs.length ∧ i = .int .i64 k ∧ wr = w.drewN m) (fun i _ => xs.length - (intOf i).toNat)
  case atStart => exact ⟨0, 0, Nat.zero_le _, rfl, rfl⟩
  case round =>
    obtain ⟨k, m, hk, rfl, rfl⟩ := hrel
    by_cases hlt : k < xs.length
    · obtain ⟨g1, d1, e1, q1⟩ := rowS_cell H.out.1 k hlt
      obtain ⟨g2, d2, e2, q2⟩ := rowS_cell H.out.2 k hlt
      simp only [Value.slice.injEq] at e1 e2
      obtain ⟨rfl, _, rfl⟩ := e1
      obtain ⟨rfl, _, rfl⟩ := e2
      generalize strOfNums xs[k] = x at *
      go_wp2
      go_quiet (fail)
      go_wp2
      go_roundw
      case rel => exact ⟨k + 1, _, by omega, by go_num, rfl⟩
      case measure => simp [intOf]; omega
    · obtain rfl : k = xs.length := by omega
      go_wp2
      go_ret
      exact ⟨rfl, m, rfl⟩
end Go.Proofs.YtickndnaejdanaaGreatDoor
