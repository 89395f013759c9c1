/- long and near of layer 22. -/
import Derived.Test.YtdhdmfibdgepfaaLkJ
namespace Go.Proofs.Ytdhdmfibdgepfaa
open Go.RowKit
set_option maxRecDepth 8000
set_option linter.unusedSimpArgs false
set_option linter.unusedVariables false

/-- What a script counts. -/
def totT : List OpT → Nat
  | [] => 0
  | o :: r => 1 + o.bs.length + totT r
theorem totT_app : ∀ l m, totT (l ++ m) = totT l + totT m
  | [], m => by simp [totT]
  | x :: r, m => by simp [totT, totT_app r m]; omega
theorem totT_len : ∀ l : List OpT, l.length ≤ totT l
  | [] => Nat.le_refl _
  | x :: r => by have := totT_len r; simp [totT]; omega
theorem totT_mem : ∀ {l : List OpT} {o : OpT}, o ∈ l → o.bs.length ≤ totT l
  | x :: r, o, h => by
    rcases List.mem_cons.1 h with rfl | h
    · simp [totT]; omega
    · have := totT_mem h; simp [totT]; omega

set_option maxHeartbeats 2000000 in
theorem long22 {w : World} {v : Value} {l : List OpT} (hv : SeesTs w v l) (hlen : l.length ≤ 140737488355328) :
    Calls Try.prog 7 #[v] w fun e w' => ∃ bl, e = .returned (.bool bl) ∧ (bl = false → totT l ≤ 67108864) ∧ Below w.heap.size w w' := by
  obtain ⟨ao, cap, rfl, hcap, hg, hc⟩ := hv
  have HC0 : Hid (l ≠ [] → ∃ b off, ao = some ⟨b, off, none⟩ ∧ ∀ i o, l[i]? = some o → ∀ j u, o.cells[j]? = some u → w.cell? ⟨b, off + i * 8 + j, none⟩ = some u) := hc
  have HG : Hid (∀ o ∈ l, GoodT w o) := hg
  clear hc hg
  go_enter Try.func7, Try.ntmps7
  go_wp2
  go_loopw [3, 4] (fun vn vi wr => ∃ i n : Nat, i ≤ l.length ∧ vi = .int .i64 (i : Int) ∧ vn = .int .i64 (n : Int) ∧ n ≤ 140737555464194 ∧ Hid (n = totT (l.take i) ∧ Below w.heap.size w wr)) (fun _ vi _ => l.length - (intOf vi).toNat)
  case atStart => exact ⟨0, 0, by omega, rfl, rfl, by omega, rfl, Below.refl _ _⟩
  case round =>
    obtain ⟨i, n, hi, rfl, rfl, hn, HW⟩ := hrel
    by_cases hlt : i < l.length
    · have hd : decide ((i : Int) < (l.length : Int)) = true := by simp; omega
      by_cases hn2 : n ≤ 67108864
      · have hd2 : decide ((n : Int) ≤ 67108864) = true := by simp; omega
        obtain ⟨b0, off, hao, hcx⟩ := HC0.out (fun e => by rw [e] at hlt; simp at hlt)
        obtain ⟨o, ho⟩ : ∃ o, l[i]? = some o := ⟨_, List.getElem?_eq_getElem hlt⟩
        have k4 := (Below.kept HW.out.2).cell (hcx i o ho 4 _ rfl) (by have := World.block_lt_of_cell? w _ (hcx i o ho 4 _ rfl); simp at this; show ¬ w.heap.size ≤ b0; omega)
        have hz0 : b0 < wr.heap.size := World.block_lt_of_cell? wr _ k4
        have hol := (HG.out o (List.mem_of_getElem? ho)).len
        have HN : Hid (n + 1 + o.bs.length = totT (l.take (i + 1))) := by
          show _ = _
          rw [List.take_add_one, ho, totT_app, ← HW.out.1]
          simp [totT]
          omega
        have e1 : IntKind.i64.wrap ((n : Int) + 1) = ((n + 1 : Nat) : Int) := by rw [IntKind.wrap_i64]; omega
        have e2 : IntKind.i64.wrap ((n : Int) + 1 + (o.bs.length : Int)) = ((n + 1 + o.bs.length : Nat) : Int) := by rw [IntKind.wrap_i64]; omega
        subst hao
        clear hcx ho
        go_wp2
        go_roundw
        case rel => exact ⟨i + 1, n + 1 + o.bs.length, by omega, by simp, by simp, by omega, HN.out, HW.out.2⟩
        case measure => simp [intOf]; omega
      · have hd2 : decide ((n : Int) ≤ 67108864) = false := by simp; omega
        have hd3 : decide ((67108864 : Int) < (n : Int)) = true := by simp; omega
        go_wp2
        all_goals (go_ret; exact ⟨true, rfl, (fun e => by cases e), HW.out.2⟩)
    · have hd : decide ((i : Int) < (l.length : Int)) = false := by simp; omega
      have HE : Hid (n = totT l) := by
        have := HW.out.1
        rw [List.take_of_length_le (by omega)] at this
        exact this
      by_cases hn2 : n ≤ 67108864
      · have hd3 : decide ((67108864 : Int) < (n : Int)) = false := by simp; omega
        go_wp2
        all_goals (go_ret; exact ⟨false, rfl, (fun _ => by have := HE.out; omega), HW.out.2⟩)
      · have hd3 : decide ((67108864 : Int) < (n : Int)) = true := by simp; omega
        go_wp2
        all_goals (go_ret; exact ⟨true, rfl, (fun e => by cases e), HW.out.2⟩)

end Go.Proofs.Ytdhdmfibdgepfaa
