/- What the law's long and common answer; what it takes together of two sets. -/
import Derived.Test.YtihbbloaigkfeaaQuK
namespace Go.Proofs.Ytihbbloaigkfeaa
open Go.RowKit Go.Shelf
set_option maxRecDepth 8000

theorem andN {a b : Nat} (ha : a < 256) (hb : b < 256) : bits .and .u8 (a : Int) (b : Int) = ((a &&& b : Nat) : Int) :=
  (bits_nat .u8 8 (Nat.le_refl _) (fun n h0 h1 => by rw [IntKind.wrap_u8]; omega) a b ha hb).1
theorem orN {a b : Nat} (ha : a < 256) (hb : b < 256) : bits .or .u8 (a : Int) (b : Int) = ((a ||| b : Nat) : Int) :=
  (bits_nat .u8 8 (Nat.le_refl _) (fun n h0 h1 => by rw [IntKind.wrap_u8]; omega) a b ha hb).2

theorem long20 (n : Int) (w : World) : Calls Try.prog 4 #[.int .i64 n] w fun e w' => e = .returned (.bool (decide (2147483647 ≤ n))) ∧ w' = w := by
  by_cases h : 2147483647 ≤ n
  · go_enter Try.func4, Try.ntmps4
    go_wp2
    all_goals (go_ret; exact ⟨by first | rfl | (simp; omega), rfl⟩)
  · go_enter Try.func4, Try.ntmps4
    go_wp2
    all_goals (go_ret; exact ⟨by first | rfl | (simp; omega), rfl⟩)

theorem shl_bq {k : Nat} (hk : k < 8) : (2 : Int) ^ k % 256 = bq k := by
  have h : ∀ k : Fin 8, (2 : Int) ^ (k : Nat) % 256 = bq k := by decide +kernel
  exact h ⟨k, hk⟩

end Go.Proofs.Ytihbbloaigkfeaa
