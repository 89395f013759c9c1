/- near of layer 22: the same bytes, or all but one. -/
import Derived.Test.YtdhdmfibdgepfaaLkK
import Derived.Deep.CutRange
import Derived.Deep.QuietTactic
import Derived.BigQuiet
namespace Go.Proofs.Ytdhdmfibdgepfaa
open Go.RowKit
set_option maxRecDepth 8000
set_option linter.unusedSimpArgs false
set_option linter.unusedVariables false

/-- At how many places two lists differ. -/
def dif : List Int → List Int → Nat
  | x :: r, y :: s => (if x = y then 0 else 1) + dif r s
  | _, _ => 0
theorem dif_self : ∀ a, dif a a = 0
  | [] => rfl
  | x :: r => by simp [dif, dif_self r]
theorem dif_le : ∀ a b, dif a b ≤ a.length
  | [], _ => by simp [dif]
  | x :: r, [] => by simp [dif]
  | x :: r, y :: s => by have := dif_le r s; simp only [dif, List.length_cons]; split <;> omega
theorem dif_zero : ∀ a b : List Int, a.length = b.length → dif a b = 0 → a = b
  | [], [], _, _ => rfl
  | [], y :: s, h, _ => by simp at h
  | x :: r, [], h, _ => by simp at h
  | x :: r, y :: s, h, e => by
    simp only [dif] at e
    split at e
    · rename_i hxy
      subst hxy
      rw [dif_zero r s (by simpa using h) (by omega)]
    · omega
theorem dif_snoc : ∀ (i : Nat) (a b : List Int), i < a.length → i < b.length → dif (a.take (i + 1)) (b.take (i + 1)) = dif (a.take i) (b.take i) + (if a.getD i 0 = b.getD i 0 then 0 else 1)
  | 0, x :: r, y :: s, _, _ => by simp [dif]
  | i + 1, x :: r, y :: s, h1, h2 => by
    have := dif_snoc i r s (by simpa using h1) (by simpa using h2)
    simp only [List.take_succ_cons, dif, List.getD_cons_succ]
    rw [this]
    omega
  | _, [], _, h1, _ => by simp at h1
  | 0, x :: r, [], _, h2 => by simp at h2
  | i + 1, x :: r, [], _, h2 => by simp at h2
theorem dif_set : ∀ (a : List Int) (k : Nat) (y : Int), k < a.length → y ≠ a.getD k 0 → dif a (a.set k y) = 1
  | x :: r, 0, y, _, h => by simp at h; simp [dif, dif_self, Ne.symm h]
  | x :: r, k + 1, y, h1, h => by
    have := dif_set r k y (by simpa using h1) (by simpa using h)
    simp [dif, this]
  | [], _, _, h1, _ => by simp at h1
/-- The same bytes, or, if spoilt, all but one. -/
def nearB (a b : List Int) (sp : Bool) : Bool := decide (a.length = b.length) && (decide (dif a b = 0) && !sp || decide (dif a b = 1) && sp)

set_option maxHeartbeats 2000000 in
theorem near_any {w : World} {v u : Value} {a b : List Int} (h : Sees w v a) (g : Sees w u b) (sp : Bool) (hla : a.length ≤ 140737488355328) :
    Calls Try.prog 14 #[v, u, .bool sp] w fun e w' => e = .returned (.bool (nearB a b sp)) ∧ Below w.heap.size w w' := by
  obtain ⟨ao, ca, rfl, hca, _, _, h3⟩ := h
  obtain ⟨bo, cb, rfl, hcb, _, _, g3⟩ := g
  unfold nearB
  by_cases hl : a.length = b.length
  · have hd : (a.length == b.length) = true := by simpa using hl
    have HA : Hid (∀ i, i < a.length → ∃ g1 o1 g2 o2, ao = some ⟨g1, o1, none⟩ ∧ bo = some ⟨g2, o2, none⟩ ∧ w.cell? ⟨g1, o1 + i, none⟩ = some (.int .u8 (a.getD i 0)) ∧ w.cell? ⟨g2, o2 + i, none⟩ = some (.int .u8 (b.getD i 0))) := fun i hi => by
      rcases h3 with rfl | ⟨g1, o1, rfl, h3⟩
      · simp at hi
      · rcases g3 with rfl | ⟨g2, o2, rfl, g3⟩
        · rw [List.length_nil] at hl; omega
        · exact ⟨g1, o1, g2, o2, rfl, rfl, h3 i hi, g3 i (by omega)⟩
    rw [decide_eq_true hl]
    have HL : Hid (a.length = b.length) := hl
    rw [← hl] at hcb ⊢
    clear h3 g3 hl hd
    go_enter Try.func14, Try.ntmps14
    go_wp2
    go_loopw [7, 8] (fun vn vi wr => ∃ i n : Nat, i ≤ a.length ∧ vi = .int .i64 (i : Int) ∧ vn = .int .i64 (n : Int) ∧ n ≤ i ∧ Hid (n = dif (a.take i) (b.take i) ∧ Below w.heap.size w wr)) (fun _ vi _ => a.length - (intOf vi).toNat)
    case atStart => exact ⟨0, 0, by omega, rfl, rfl, by omega, rfl, Below.refl _ _⟩
    case round =>
      obtain ⟨i, n, hi, rfl, rfl, hn, HW⟩ := hrel
      by_cases hlt : i < a.length
      · have hd : decide ((i : Int) < (a.length : Int)) = true := by simp; omega
        obtain ⟨g1, o1, g2, o2, rfl, rfl, q1, q2⟩ := HA.out i hlt
        have z1 := World.block_lt_of_cell? w _ q1
        have z2 := World.block_lt_of_cell? w _ q2
        have k1 := (Below.kept HW.out.2).cell q1 (by simp at z1; show ¬ w.heap.size ≤ g1; omega)
        have k2 := (Below.kept HW.out.2).cell q2 (by simp at z2; show ¬ w.heap.size ≤ g2; omega)
        have y1 := World.block_lt_of_cell? wr _ k1
        have y2 := World.block_lt_of_cell? wr _ k2
        have HN : Hid (dif (a.take (i + 1)) (b.take (i + 1)) = n + (if a.getD i 0 = b.getD i 0 then 0 else 1)) := by
          show _ = _
          rw [dif_snoc i a b hlt (by have := HL.out; omega), ← HW.out.1]
        clear z1 z2 q1 q2
        generalize a.getD i 0 = xa at *
        generalize b.getD i 0 = xb at *
        by_cases hx : xa = xb
        · have d1 : decide (xa = xb) = true := decide_eq_true hx
          have d2 : (xa == xb) = true := by simpa using hx
          have HN2 : Hid (n = dif (a.take (i + 1)) (b.take (i + 1))) := by show _ = _; rw [HN.out, if_pos hx, Nat.add_zero]
          clear hx
          go_upto_region 7 with fail
          go_quiet (fail)
          go_wp2
          go_roundw
          case rel => exact ⟨i + 1, n, by omega, by simp, rfl, by omega, HN2.out, below_drewN HW.out.2 _⟩
          case measure => simp [intOf]; omega
        · have d1 : decide (xa = xb) = false := decide_eq_false hx
          have d2 : (xa == xb) = false := by simpa using hx
          have HN2 : Hid (n + 1 = dif (a.take (i + 1)) (b.take (i + 1))) := by show _ = _; rw [HN.out, if_neg hx]
          clear hx
          go_upto_region 7 with fail
          go_quiet (fail)
          go_wp2
          go_roundw
          case rel => exact ⟨i + 1, n + 1, by omega, by simp, by simp, by omega, HN2.out, below_drewN HW.out.2 _⟩
          case measure => simp [intOf]; omega
      · have hd : decide ((i : Int) < (a.length : Int)) = false := by simp; omega
        have HE : Hid (n = dif a b) := by
          show _ = _
          have := HL.out
          rw [HW.out.1, List.take_of_length_le (by omega), List.take_of_length_le (by omega)]
        by_cases h0 : n = 0
        · subst h0
          cases sp with
          | false =>
            go_wp2
            all_goals (go_ret; exact ⟨by rw [← HE.out]; rfl, HW.out.2⟩)
          | true =>
            go_wp2
            all_goals (go_ret; exact ⟨by rw [← HE.out]; rfl, HW.out.2⟩)
        · by_cases h1 : n = 1
          · subst h1
            cases sp with
            | false =>
              go_wp2
              all_goals (go_ret; exact ⟨by rw [← HE.out]; rfl, HW.out.2⟩)
            | true =>
              go_wp2
              all_goals (go_ret; exact ⟨by rw [← HE.out]; rfl, HW.out.2⟩)
          · have d0 : ((n : Int) == 0) = false := by simpa using h0
            have d1 : ((n : Int) == 1) = false := by simp; omega
            have HF : Hid ((true && (decide (dif a b = 0) && !sp || decide (dif a b = 1) && sp)) = false) := by
              show _ = _
              rw [← HE.out, decide_eq_false h0, decide_eq_false h1]; simp
            go_wp2
            all_goals (go_ret; exact ⟨by rw [HF.out]; rfl, HW.out.2⟩)
  · have hd : ((a.length : Int) == (b.length : Int)) = false := by simp; omega
    rw [decide_eq_false hl]; show Calls _ _ _ _ (fun e w' => e = .returned (.bool false) ∧ _)
    have hl' : ¬ (a.length : Int) = b.length := by omega
    clear h3 g3
    go_enter Try.func14, Try.ntmps14
    go_wp2
    all_goals (go_ret; exact ⟨rfl, Below.refl _ _⟩)

end Go.Proofs.Ytdhdmfibdgepfaa
