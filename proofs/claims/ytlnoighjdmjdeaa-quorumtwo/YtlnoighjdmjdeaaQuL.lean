/- What the law's long and common answer; what it takes together of two sets. -/
import Derived.Test.YtlnoighjdmjdeaaQuK
namespace Go.Proofs.Ytlnoighjdmjdeaa
open Go.RowKit Go.Shelf
set_option maxRecDepth 8000

theorem andN {a b : Nat} (ha : a < 256) (hb : b < 256) : bits .and .u8 (a : Int) (b : Int) = ((a &&& b : Nat) : Int) :=
  (bits_nat .u8 8 (Nat.le_refl _) (fun n h0 h1 => by rw [IntKind.wrap_u8]; omega) a b ha hb).1
theorem orN {a b : Nat} (ha : a < 256) (hb : b < 256) : bits .or .u8 (a : Int) (b : Int) = ((a ||| b : Nat) : Int) :=
  (bits_nat .u8 8 (Nat.le_refl _) (fun n h0 h1 => by rw [IntKind.wrap_u8]; omega) a b ha hb).2

theorem long20 (n : Int) (w : World) : Calls Try.prog 8 #[.int .i64 n] w fun e w' => e = .returned (.bool (decide (2147483647 ≤ n))) ∧ w' = w := by
  by_cases h : 2147483647 ≤ n
  · go_enter Try.func8, Try.ntmps8
    go_wp2
    all_goals (go_ret; exact ⟨by first | rfl | (simp; omega), rfl⟩)
  · go_enter Try.func8, Try.ntmps8
    go_wp2
    all_goals (go_ret; exact ⟨by first | rfl | (simp; omega), rfl⟩)

theorem shl_bq {k : Nat} (hk : k < 8) : (2 : Int) ^ k % 256 = bq k := by
  have h : ∀ k : Fin 8, (2 : Int) ^ (k : Nat) % 256 = bq k := by decide +kernel
  exact h ⟨k, hk⟩

theorem common_yes {w : World} {s : Nat} {D : SyD} (hD : D.Good) (h : IsSy w s D) {a b : Nat} (ha : a < 256) (hb : b < 256) {j : Nat} (hj : j < 7) (ja : a.testBit j = true) (jb : b.testBit j = true) (jc : D.cou (j : Int) = true) :
    Calls Try.prog 28 #[.pointer (some ⟨s, 0, none⟩), .int .u8 (a : Int), .int .u8 (b : Int)] w fun e w' => e = .returned (.bool true) ∧ w' = w := by
  have HC : Hid (∀ v : Int, -128 ≤ v → v ≤ 127 → Calls Try.prog 26 #[.pointer (some ⟨s, 0, none⟩), .int .i8 v] w fun e w' => e = .returned (.bool (D.cou v)) ∧ w' = w) := fun v h0 h1 => counts_sy hD h v h0 h1
  clear h hD
  go_enter Try.func28, Try.ntmps28
  go_wp2
  go_loopw [7] (fun vi wr => ∃ k : Nat, k ≤ j ∧ vi = .int .i64 (k : Int) ∧ Hid (wr = w)) (fun vi _ => 7 - (intOf vi).toNat)
  case atStart => exact ⟨0, by omega, rfl, rfl⟩
  case round =>
    obtain ⟨k, hk, rfl, HW⟩ := hrel
    rw [HW.out]
    have hk8 : k < 8 := by omega
    have hi0 : (0 : Int) ≤ (k : Int) := by omega
    have hi7 : (k : Int) < 7 := by omega
    have ta := and_bq ha hk8
    have tb := and_bq hb hk8
    have sh := shl_bq hk8
    have HCk : Hid (Calls Try.prog 26 #[.pointer (some ⟨s, 0, none⟩), .int .i8 (k : Int)] w fun e w' => e = .returned (.bool (D.cou (k : Int))) ∧ w' = w) := HC.out (k : Int) (by omega) (by omega)
    have HN : Hid (a.testBit k = true → b.testBit k = true → D.cou (k : Int) = true → True) := fun _ _ _ => trivial
    have HL : Hid (¬ (a.testBit k = true ∧ b.testBit k = true ∧ D.cou (k : Int) = true) → k + 1 ≤ j) := fun q => by
      by_cases e : k = j
      · subst e; exact absurd ⟨ja, jb, jc⟩ q
      · omega
    go_upto_region 5 with fail
    rw [sh]
    clear sh HN
    cases h1 : a.testBit k with
    | false =>
      rw [h1] at ta
      have hl := HL.out (by rw [h1]; simp)
      clear HL h1 HCk
      go_wp2
      go_roundw
      case rel => exact ⟨k + 1, hl, by simp, trivial⟩
      case measure => simp [intOf]; omega
    | true =>
      rw [h1] at ta
      cases h2 : b.testBit k with
      | false =>
        rw [h2] at tb
        have hl := HL.out (by rw [h2]; simp)
        clear HL h1 h2 HCk
        go_wp2
        go_roundw
        case rel => exact ⟨k + 1, hl, by simp, trivial⟩
        case measure => simp [intOf]; omega
      | true =>
        rw [h2] at tb
        cases h3 : D.cou (k : Int) with
        | false =>
          rw [h3] at HCk
          have hl := HL.out (by rw [h3]; simp)
          clear HL h1 h2 h3
          go_wp2_with fail
          refine Calls.mono HCk.out ?_
          rintro e w1 ⟨rfl, hw1⟩
          rw [hw1]
          clear hw1 HCk
          go_wp2
          go_roundw
          case rel => exact ⟨k + 1, hl, by simp, trivial⟩
          case measure => simp [intOf]; omega
        | true =>
          rw [h3] at HCk
          clear HL h1 h2 h3
          go_wp2_with fail
          refine Calls.mono HCk.out ?_
          rintro e w1 ⟨rfl, hw1⟩
          rw [hw1]
          clear hw1 HCk
          go_wp2
          all_goals (go_ret; exact ⟨rfl, rfl⟩)

end Go.Proofs.Ytlnoighjdmjdeaa
