/- works of layer 22 (it is true). -/
import Derived.Test.YtghngopclhhoeaaDoorLkIJ
import Derived.Test.YtghngopclhhoeaaDoorRgIJ
import Derived.Test.YtghngopclhhoeaaDoorMemJ
import Derived.Test.YtghngopclhhoeaaDoorLkOJ
import Derived.Test.YtghngopclhhoeaaDoorLkMJ
import Derived.Deep.CutRange
namespace Go.Proofs.YtghngopclhhoeaaDoor
open Go.RowKit
set_option maxRecDepth 8000
set_option linter.unusedSimpArgs false
set_option linter.unusedVariables false

theorem sees_seven (w : World) : Sees (w.alloc (.cells #[.int .u8 7] 5)) (.slice (some ⟨w.heap.size, 0, none⟩) 1 1) [7] :=
  Sees.own (base := 0) (xs := [7]) ⟨rfl, .inr ⟨w.heap.size, 1, _, rfl, Nat.zero_le _, heap_alloc_new w _, Nat.le_refl _, by unfold maxLen; decide, rfl, rfl⟩⟩

set_option maxHeartbeats 4000000 in
theorem works22 (w : World) : Calls Tryd.prog 4 #[] w fun e w' => e = .returned (.bool true) ∧ Below w.heap.size w w' := by
  have HN : Hid _ := new_good w 2 (by decide) (by decide)
  go_enter Tryd.func4, Tryd.ntmps4
  go_wp2_with fail
  refine Calls.mono HN.out ?_
  rintro e w1 ⟨rfl, h1, b1⟩
  have s1 : w.heap.size < w1.heap.size := lt_of_block h1.hb
  have HS : Hid (Calls Tryd.prog 12 #[.pointer (some ⟨w.heap.size, 0, none⟩), .int .i8 0, .int .i8 1, .slice (some ⟨w1.heap.size, 0, none⟩) 1 1] (w1.alloc (.cells #[.int .u8 7] 5)) fun e w' => e = .returned (.int .i64 0) ∧ ∃ v' R, Nt w' w.heap.size 2 v' [⟨0, 1, [7], false, R, 0, 1⟩] ∧ Below w.heap.size w w' ∧ (∀ k, v'.ownBlock = some k → w.heap.size ≤ k)) := by
    have hB := oneL w1 (.cells #[.int .u8 7] 5)
    refine Calls.mono (send_yes (h1.below hB) 0 1 (by decide) (by decide) (by decide) (by decide) w1.heap.size 0 1 [7] (sees_seven w1) (fun x hx => by simp at hx; subst hx; decide) (by decide) (by decide)) ?_
    rintro _ w2 ⟨rfl, v', R, g1, g2, g3, g4⟩
    have hz := hB.size
    refine ⟨rfl, v', R, g1, (b1.trans (hB.mono (by omega))).trans (Kept.below g2 (B := w.heap.size) (by omega) (fun k e => by
      rcases e with e | e
      · omega
      · simp [Value.ownBlock] at e)), fun k e => ?_⟩
    rcases g3 with h | ⟨k', h, h3⟩
    · rw [h] at e; simp [Value.ownBlock] at e
    · rw [h] at e; simp at e; omega
  clear HN h1 b1
  go_wp2_with fail
  refine Calls.mono HS.out ?_
  rintro _ w2 ⟨rfl, v', R, h2, b2, hv⟩
  have HT : Hid (Calls Tryd.prog 13 #[.pointer (some ⟨w.heap.size, 0, none⟩), .int .i64 0] w2 fun e w' => e = .returned (.tuple #[.agg #[.int .i8 0, .int .i8 1, .slice (some ⟨R, 0, none⟩) 1 1, .bool false], .int .i64 0]) ∧ ∃ v', Nt w' w.heap.size 2 v' [] ∧ Below w.heap.size w w' ∧ Sees w' (.slice (some ⟨R, 0, none⟩) 1 1) [7]) := by
    refine Calls.mono (take_yes (A := []) (B := []) (x := ⟨0, 1, [7], false, R, 0, 1⟩) h2 (Nat.le_of_ble_eq_true rfl)) ?_
    rintro _ w3 ⟨rfl, v2, g1, g2, g3, g4⟩
    exact ⟨rfl, v2, g1, b2.trans (Kept.below g2 (B := w.heap.size) b2.size (fun k e => e.elim (fun e => by omega) (hv k))), g4.sees⟩
  clear HS h2 b2 hv
  go_wp2_with fail
  refine Calls.mono HT.out ?_
  rintro _ w3 ⟨rfl, v3, h3, b3, hs⟩
  clear HT
  obtain ⟨W, hW⟩ : ∃ W, W = (w3.alloc (.cells #[.int .i8 0, .int .i8 1, .slice (some ⟨R, 0, none⟩) 1 1, .bool false] 72)).alloc (.cells #[.int .u8 7] 5) := ⟨_, rfl⟩
  have HQ : Hid (∃ K, Below w.heap.size w W ∧ Nt W w.heap.size 2 K [] ∧ Calls Tryd.prog 14 #[.slice (some ⟨R, 0, none⟩) 1 1, .slice (some ⟨w3.heap.size + 1, 0, none⟩) 1 1] W fun e w' => e = .returned (.bool true) ∧ ∃ n, w' = W.drewN n) := by
    obtain ⟨f1, f2, f3, f4⟩ := two_allocL w3 (.cells #[.int .i8 0, .int .i8 1, .slice (some ⟨R, 0, none⟩) 1 1, .bool false] 72) (.cells #[.int .u8 7] 5)
    rw [← hW] at f1 f2 f3 f4
    refine ⟨v3, b3.trans (f1.mono b3.size), h3.below f1, Calls.mono (eqBytes_any _ _ [7] [7] W (hs.below f1 (Nat.le_refl _)) (Sees.own (base := 0) (xs := [7]) ⟨rfl, .inr ⟨w3.heap.size + 1, 1, _, rfl, Nat.zero_le _, f3, Nat.le_refl _, by unfold maxLen; decide, rfl, rfl⟩⟩)) ?_⟩
    rintro e w' ⟨rfl, n, rfl⟩
    exact ⟨by simp, n, rfl⟩
  clear h3 b3 hs
  go_wp2_with fail
  rw [← hW]
  obtain ⟨K, b4, h4, hc⟩ := HQ.out
  refine Calls.mono hc ?_
  rintro _ w5 ⟨rfl, n, rfl⟩
  have HL : Hid (Calls Tryd.prog 15 #[.pointer (some ⟨w.heap.size, 0, none⟩)] (W.drewN n) fun e w' => e = .returned (.int .i64 0) ∧ w' = W.drewN n) := len_anyL (h4.drewN n)
  have HB : Hid (Below w.heap.size w (W.drewN n)) := below_drewN b4 n
  clear b4 h4 hc HQ hW
  generalize W.drewN n = W5 at *
  go_wp2_with fail
  refine Calls.mono HL.out ?_
  rintro _ w5 ⟨rfl, rfl⟩
  go_wp2_with fail
  all_goals (go_ret; exact ⟨rfl, HB.out⟩)
end Go.Proofs.YtghngopclhhoeaaDoor

/- long and near of layer 22. -/
namespace Go.Proofs.YtghngopclhhoeaaDoor
open Go.RowKit
set_option maxRecDepth 8000
set_option linter.unusedSimpArgs false
set_option linter.unusedVariables false

/-- What a script counts. -/
def totT : List OpT → Nat
  | [] => 0
  | o :: r => 1 + o.bs.length + totT r
theorem totT_app : ∀ l m, totT (l ++ m) = totT l + totT m
  | [], m => by simp [totT]
  | x :: r, m => by simp [totT, totT_app r m]; omega
theorem totT_len : ∀ l : List OpT, l.length ≤ totT l
  | [] => Nat.le_refl _
  | x :: r => by have := totT_len r; simp [totT]; omega
theorem totT_mem : ∀ {l : List OpT} {o : OpT}, o ∈ l → o.bs.length ≤ totT l
  | x :: r, o, h => by
    rcases List.mem_cons.1 h with rfl | h
    · simp [totT]; omega
    · have := totT_mem h; simp [totT]; omega

set_option maxHeartbeats 2000000 in
theorem long22 {w : World} {v : Value} {l : List OpT} (hv : SeesTs w v l) (hlen : l.length ≤ 140737488355328) :
    Calls Tryd.prog 5 #[v] w fun e w' => ∃ bl, e = .returned (.bool bl) ∧ (bl = false → totT l ≤ 67108864) ∧ Below w.heap.size w w' := by
  obtain ⟨ao, cap, rfl, hcap, hg, hc⟩ := hv
  have HC0 : Hid (l ≠ [] → ∃ b off, ao = some ⟨b, off, none⟩ ∧ ∀ i o, l[i]? = some o → ∀ j u, o.cells[j]? = some u → w.cell? ⟨b, off + i * 8 + j, none⟩ = some u) := hc
  have HG : Hid (∀ o ∈ l, GoodT w o) := hg
  clear hc hg
  go_enter Tryd.func5, Tryd.ntmps5
  go_wp2
  go_loopw [3, 4] (fun vn vi wr => ∃ i n : Nat, i ≤ l.length ∧ vi = .int .i64 (i : Int) ∧ vn = .int .i64 (n : Int) ∧ n ≤ 140737555464194 ∧ Hid (n = totT (l.take i) ∧ Below w.heap.size w wr)) (fun _ vi _ => l.length - (intOf vi).toNat)
  case atStart => exact ⟨0, 0, by omega, rfl, rfl, by omega, rfl, Below.refl _ _⟩
  case round =>
    obtain ⟨i, n, hi, rfl, rfl, hn, HW⟩ := hrel
    by_cases hlt : i < l.length
    · have hd : decide ((i : Int) < (l.length : Int)) = true := by simp; omega
      by_cases hn2 : n ≤ 67108864
      · have hd2 : decide ((n : Int) ≤ 67108864) = true := by simp; omega
        obtain ⟨b0, off, hao, hcx⟩ := HC0.out (fun e => by rw [e] at hlt; simp at hlt)
        obtain ⟨o, ho⟩ : ∃ o, l[i]? = some o := ⟨_, List.getElem?_eq_getElem hlt⟩
        have k4 := (Below.kept HW.out.2).cell (hcx i o ho 4 _ rfl) (by have := World.block_lt_of_cell? w _ (hcx i o ho 4 _ rfl); simp at this; show ¬ w.heap.size ≤ b0; omega)
        have hz0 : b0 < wr.heap.size := World.block_lt_of_cell? wr _ k4
        have hol := (HG.out o (List.mem_of_getElem? ho)).len
        have HN : Hid (n + 1 + o.bs.length = totT (l.take (i + 1))) := by
          show _ = _
          rw [List.take_add_one, ho, totT_app, ← HW.out.1]
          simp [totT]
          omega
        have e1 : IntKind.i64.wrap ((n : Int) + 1) = ((n + 1 : Nat) : Int) := by rw [IntKind.wrap_i64]; omega
        have e2 : IntKind.i64.wrap ((n : Int) + 1 + (o.bs.length : Int)) = ((n + 1 + o.bs.length : Nat) : Int) := by rw [IntKind.wrap_i64]; omega
        subst hao
        clear hcx ho
        go_wp2
        go_roundw
        case rel => exact ⟨i + 1, n + 1 + o.bs.length, by omega, by simp, by simp, by omega, HN.out, HW.out.2⟩
        case measure => simp [intOf]; omega
      · have hd2 : decide ((n : Int) ≤ 67108864) = false := by simp; omega
        have hd3 : decide ((67108864 : Int) < (n : Int)) = true := by simp; omega
        go_wp2
        all_goals (go_ret; exact ⟨true, rfl, (fun e => by cases e), HW.out.2⟩)
    · have hd : decide ((i : Int) < (l.length : Int)) = false := by simp; omega
      have HE : Hid (n = totT l) := by
        have := HW.out.1
        rw [List.take_of_length_le (by omega)] at this
        exact this
      by_cases hn2 : n ≤ 67108864
      · have hd3 : decide ((67108864 : Int) < (n : Int)) = false := by simp; omega
        go_wp2
        all_goals (go_ret; exact ⟨false, rfl, (fun _ => by have := HE.out; omega), HW.out.2⟩)
      · have hd3 : decide ((67108864 : Int) < (n : Int)) = true := by simp; omega
        go_wp2
        all_goals (go_ret; exact ⟨true, rfl, (fun e => by cases e), HW.out.2⟩)

end Go.Proofs.YtghngopclhhoeaaDoor

/- The calls of a nil net and of a plain one; LinkNil's walk. -/
namespace Go.Proofs.YtghngopclhhoeaaDoor
open Go.RowKit
set_option maxRecDepth 8000
set_option linter.unusedSimpArgs false
set_option linter.unusedVariables false

end Go.Proofs.YtghngopclhhoeaaDoor

/- LinkNil's walk. -/
namespace Go.Proofs.YtghngopclhhoeaaDoor
open Go.RowKit
set_option maxRecDepth 8000
set_option linter.unusedSimpArgs false
set_option linter.unusedVariables false

end Go.Proofs.YtghngopclhhoeaaDoor
