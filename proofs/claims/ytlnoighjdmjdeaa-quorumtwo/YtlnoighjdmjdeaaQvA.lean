/- The document's system in memory: what in, Size, Is, Counts, weight and Has answer. -/
import Derived.Test.YtlnoighjdmjdeaaQuL
namespace Go.Proofs.Ytlnoighjdmjdeaa
open Go.RowKit Go.Shelf
set_option maxRecDepth 8000

theorem in_any {S i : Nat} (hS : S < 256) (hi : i < 8) (w : World) : Calls Try.prog 43 #[.int .u8 (S : Int), .int .i64 (i : Int)] w fun e w' => e = .returned (.bool (S.testBit i)) ∧ w' = w := by
  obtain ⟨val, hval⟩ : ∃ val, val = S.testBit i := ⟨_, rfl⟩
  rw [← hval]
  have HV : Hid (val = S.testBit i) := hval
  clear hval
  go_enter Try.func43, Try.ntmps43
  go_wp2
  go_loopw [0, 5] (fun v0 vk wr => ∃ k : Nat, k ≤ i ∧ v0 = .int .u8 ((S / 2 ^ k : Nat) : Int) ∧ vk = .int .i64 (k : Int) ∧ Hid (wr = w)) (fun _ vk _ => i - (intOf vk).toNat)
  case atStart => exact ⟨0, by omega, by simp, rfl, rfl⟩
  case round =>
    obtain ⟨k, hk, rfl, rfl, HW⟩ := hrel
    rw [HW.out]
    have hq : S / 2 ^ k < 256 := Nat.lt_of_le_of_lt (Nat.div_le_self _ _) hS
    have hk1 : Hid (S / 2 ^ (k + 1) = S / 2 ^ k / 2) := by show _ = _; rw [Nat.pow_succ, Nat.div_div_eq_div_mul]
    have HT : Hid (S.testBit k = decide (S / 2 ^ k % 2 = 1)) := by show _ = _; rw [Nat.testBit_eq_decide_div_mod_eq]
    generalize S / 2 ^ k = x at *
    by_cases hki : k < i
    · have hi0 : (0 : Int) ≤ (k : Int) := by omega
      have hki' : (k : Int) < (i : Int) := by omega
      go_wp2
      go_roundw
      case rel => exact ⟨k + 1, by omega, by rw [hk1.out]; simp; try omega, by simp, trivial⟩
      case measure => simp [intOf]; omega
    · obtain rfl : k = i := by omega
      have hx0 : (0 : Int) ≤ (x : Int) := by omega
      by_cases hx : x % 2 = 1
      · have HX : Hid (val = true) := by show _ = _; rw [HV.out, HT.out, decide_eq_true hx]
        have hx' : (x : Int) % 2 = 1 := by omega
        go_wp2
        all_goals (go_ret; exact ⟨by rw [HX.out]; first | rfl | (simp; omega), rfl⟩)
      · have HX : Hid (val = false) := by show _ = _; rw [HV.out, HT.out, decide_eq_false hx]
        have hx' : (x : Int) % 2 = 0 := by omega
        go_wp2
        all_goals (go_ret; exact ⟨by rw [HX.out]; first | rfl | (simp; omega), rfl⟩)

/-- The document's system in memory. -/
def IsDs (w : World) (r : Nat) (ws gs : List Int) : Prop := ∃ v u, w.heap[r]? = some (.cells #[v, u] 71 (0, 0)) ∧ SeesQ w v ws ∧ SeesQ w u gs
theorem IsDs.lt {w : World} {r : Nat} {ws gs : List Int} (h : IsDs w r ws gs) : r < w.heap.size := by
  obtain ⟨v, u, h1, _⟩ := h
  exact lt_of_block h1
theorem IsDs.below {w w' : World} {r : Nat} {ws gs : List Int} (h : IsDs w r ws gs) (hb : Below w.heap.size w w') : IsDs w' r ws gs := by
  obtain ⟨v, u, h1, h2, h3⟩ := h
  exact ⟨v, u, keepH hb h1, h2.below hb, h3.below hb⟩

/-- What is read of the document's system, cell by cell. -/
theorem IsDs.read {w : World} {r : Nat} {ws gs : List Int} (h : IsDs w r ws gs) (ok : NewOk ws gs) : ∃ b off cap b' off' cap', w.cell? ⟨r, 0, none⟩ = some (.slice (some ⟨b, off, none⟩) ws.length cap) ∧ w.cell? ⟨r, 1, none⟩ = some (.slice (some ⟨b', off', none⟩) ws.length cap') ∧ ws.length ≤ cap ∧ ws.length ≤ cap' ∧
    (∀ i, i < ws.length → w.cell? ⟨b, off + i, none⟩ = some (.int .i64 ((syD ws gs).ws i))) ∧ (∀ i, i < ws.length → w.cell? ⟨b', off' + i, none⟩ = some (.int .i64 ((syD ws gs).gs i : Int))) := by
  obtain ⟨v, u, h1, ⟨ao, cap, rfl, h2, h3, h4⟩, ⟨bo, cap', rfl, h5, h6, h7⟩⟩ := h
  have l1 := ok.l1
  have le := ok.le
  obtain ⟨b, off, rfl, hb⟩ := h4.resolve_left (fun e => by rw [e] at l1; simp at l1)
  obtain ⟨b', off', rfl, hb'⟩ := h7.resolve_left (fun e => by rw [e] at le; simp at le; omega)
  refine ⟨b, off, cap, b', off', cap', cell_of_row _ _ 0 _ _ _ h1, ?_, h2, by omega, fun i hi => ?_, fun i hi => ?_⟩
  · have := cell_of_row _ _ 1 _ _ _ h1
    rw [← le]
    exact this
  · rw [hb i hi]
    show _ = some (Value.int .i64 (ws.getD i 0))
    rw [List.getD_eq_getElem?_getD, List.getElem?_eq_getElem hi]; rfl
  · have hi' : i < gs.length := by omega
    rw [hb' i hi']
    show _ = some (Value.int .i64 (((gs.getD i 0).toNat : Nat) : Int))
    have := (ok.ok i hi).2.1
    rw [List.getD_eq_getElem?_getD, List.getElem?_eq_getElem hi'] at this ⊢
    simp at this ⊢
    omega

theorem refSize20 {w : World} {r : Nat} {ws gs : List Int} (h : IsDs w r ws gs) (ok : NewOk ws gs) : Calls Try.prog 14 #[.pointer (some ⟨r, 0, none⟩)] w fun e w' => e = .returned (.int .i64 ws.length) ∧ w' = w := by
  obtain ⟨b, off, cap, b', off', cap', c0, c1, l1, l2, hw, hg⟩ := h.read ok
  have hz := h.lt
  clear h ok hw hg
  go_enter Try.func14, Try.ntmps14
  go_wp2
  all_goals (go_ret; exact ⟨rfl, rfl⟩)
theorem refIs20 {w : World} {r : Nat} {ws gs : List Int} (h : IsDs w r ws gs) (ok : NewOk ws gs) (v : Int) (h0 : -128 ≤ v) (h1 : v ≤ 127) : Calls Try.prog 39 #[.pointer (some ⟨r, 0, none⟩), .int .i8 v] w fun e w' => e = .returned (.bool (decide (0 ≤ v ∧ v < (ws.length : Int)))) ∧ w' = w := by
  obtain ⟨b, off, cap, b', off', cap', c0, c1, l1, l2, hw, hg⟩ := h.read ok
  have hz := h.lt
  have n7 := ok.l7
  clear h ok hw hg
  generalize ws.length = n at *
  by_cases e1 : 0 ≤ v
  · by_cases e2 : v < (n : Int)
    · rw [decide_eq_true ⟨e1, e2⟩]
      go_enter Try.func39, Try.ntmps39
      go_wp2
      all_goals (go_ret; exact ⟨by first | rfl | (simp; omega), rfl⟩)
    · rw [decide_eq_false (fun q => e2 q.2)]
      go_enter Try.func39, Try.ntmps39
      go_wp2
      all_goals (go_ret; exact ⟨by first | rfl | (simp; omega), rfl⟩)
  · rw [decide_eq_false (fun q => e1 q.1)]
    go_enter Try.func39, Try.ntmps39
    go_wp2
    all_goals (go_ret; exact ⟨by first | rfl | (simp; omega), rfl⟩)
theorem refCounts20 {w : World} {r : Nat} {ws gs : List Int} (h : IsDs w r ws gs) (ok : NewOk ws gs) (v : Int) (h0 : -128 ≤ v) (h1 : v ≤ 127) : Calls Try.prog 27 #[.pointer (some ⟨r, 0, none⟩), .int .i8 v] w fun e w' => e = .returned (.bool ((syD ws gs).cou v)) ∧ w' = w := by
  have HN : Hid (Calls Try.prog 39 #[.pointer (some ⟨r, 0, none⟩), .int .i8 v] w fun e w' => e = .returned (.bool (decide (0 ≤ v ∧ v < (ws.length : Int)))) ∧ w' = w) := refIs20 h ok v h0 h1
  obtain ⟨b, off, cap, b', off', cap', c0, c1, l1, l2, hw, hg⟩ := h.read ok
  have hz := h.lt
  have n7 := ok.l7
  have hdn : (syD ws gs).n = ws.length := rfl
  unfold SyD.cou
  rw [hdn]
  generalize syD ws gs = D at *
  by_cases e1 : 0 ≤ v ∧ v < (ws.length : Int)
  · rw [decide_eq_true e1] at HN ⊢
    obtain ⟨k, rfl⟩ := Int.eq_ofNat_of_zero_le e1.1
    have hk : k < ws.length := by omega
    have cw := hw k hk
    rw [Int.toNat_natCast]
    have k0 : (0 : Int) ≤ (k : Int) := by omega
    have kn : (k : Int) < (ws.length : Int) := by omega
    clear h ok hw hg hdn e1
    generalize ws.length = n at *
    generalize D.ws k = V at *
    by_cases e2 : 0 < V
    · rw [decide_eq_true e2]
      go_enter Try.func27, Try.ntmps27
      go_wp2_with fail
      refine Calls.mono HN.out ?_
      rintro e w1 ⟨rfl, hw1⟩
      rw [hw1]
      clear hw1 HN
      go_wp2
      all_goals (go_ret; exact ⟨by first | rfl | (simp; omega), rfl⟩)
    · rw [decide_eq_false e2]
      go_enter Try.func27, Try.ntmps27
      go_wp2_with fail
      refine Calls.mono HN.out ?_
      rintro e w1 ⟨rfl, hw1⟩
      rw [hw1]
      clear hw1 HN
      go_wp2
      all_goals (go_ret; exact ⟨by first | rfl | (simp; omega), rfl⟩)
  · rw [decide_eq_false e1] at HN ⊢
    clear h ok hw hg hdn e1
    go_enter Try.func27, Try.ntmps27
    go_wp2_with fail
    refine Calls.mono HN.out ?_
    rintro e w1 ⟨rfl, hw1⟩
    rw [hw1]
    clear hw1 HN
    go_wp2
    all_goals (go_ret; exact ⟨rfl, rfl⟩)

theorem weight20 {w : World} {r : Nat} {ws gs : List Int} (h : IsDs w r ws gs) (ok : NewOk ws gs) {S g : Nat} (hS : S < 256) : Calls Try.prog 42 #[.pointer (some ⟨r, 0, none⟩), .int .u8 (S : Int), .int .i64 (g : Int)] w fun e w' => e = .returned (.int .i64 ((syD ws gs).part S.testBit g ws.length)) ∧ w' = w := by
  obtain ⟨b, off, cap, b', off', cap', c0, c1, l1, l2, hw, hg⟩ := h.read ok
  have hz := h.lt
  have n7 := ok.l7
  have HD : Hid (syD ws gs).Good := ok.good
  have HW : Hid (∀ i, i < ws.length → w.cell? ⟨b, off + i, none⟩ = some (.int .i64 ((syD ws gs).ws i))) := hw
  have HG : Hid (∀ i, i < ws.length → w.cell? ⟨b', off' + i, none⟩ = some (.int .i64 ((syD ws gs).gs i : Int))) := hg
  clear h ok hw hg
  generalize syD ws gs = D at *
  generalize ws.length = n at *
  go_enter Try.func42, Try.ntmps42
  go_wp2
  go_loopw [7, 8] (fun v7 vi wr => ∃ i : Nat, i ≤ n ∧ v7 = .int .i64 (D.part S.testBit g i) ∧ vi = .int .i64 (i : Int) ∧ Hid (wr = w)) (fun _ vi _ => n - (intOf vi).toNat)
  case atStart => exact ⟨0, by omega, rfl, rfl, rfl⟩
  case round =>
    obtain ⟨i, hi, rfl, rfl, HE⟩ := hrel
    rw [HE.out]
    clear HE
    by_cases hin : i < n
    · have i0 : (0 : Int) ≤ (i : Int) := by omega
      have i1 : (i : Int) < (n : Int) := by omega
      have hi8 : i < 8 := by omega
      have cw := HW.out i hin
      have cg := HG.out i hin
      have g6 := HD.out.g6 i
      have b0 := D.part_nonneg HD.out S.testBit g i
      have b1 := D.part_le HD.out S.testBit g i
      have b2 := D.whole_le HD.out g i
      have b3 := HD.out.w0 i
      have b4 := HD.out.w1 i
      have b5 : D.part S.testBit g i ≤ 700 := by omega
      have sP : Hid (D.part S.testBit g (i + 1) = D.part S.testBit g i + if S.testBit i = true ∧ D.gs i = g then D.ws i else 0) := rfl
      clear b1 b2
      generalize D.part S.testBit g i = P at *
      generalize D.ws i = V at *
      by_cases e1 : D.gs i = g
      · have q1 : ((D.gs i : Int) == (g : Int)) = true := by rw [e1]; simp
        cases e2 : S.testBit i with
        | true =>
          have HX : Hid (Value.int .i64 (P + V) = .int .i64 (D.part S.testBit g (i + 1))) := by show _ = _; rw [sP.out, if_pos ⟨e2, e1⟩]
          have HI := in_any hS hi8
          rw [e2] at HI
          clear sP e1 e2
          generalize (D.gs i : Int) = gi at *
          go_wp2_with fail
          refine Calls.mono (HI _) ?_
          rintro e w1 ⟨rfl, rfl⟩
          clear HI
          go_wp2
          go_roundw
          case rel => exact ⟨i + 1, by omega, HX.out, by simp, trivial⟩
          case measure => simp [intOf]; omega
        | false =>
          have HX : Hid (Value.int .i64 P = .int .i64 (D.part S.testBit g (i + 1))) := by show _ = _; rw [sP.out, if_neg (by rw [e2]; simp), Int.add_zero]
          have HI := in_any hS hi8
          rw [e2] at HI
          clear sP e1 e2
          generalize (D.gs i : Int) = gi at *
          go_wp2_with fail
          refine Calls.mono (HI _) ?_
          rintro e w1 ⟨rfl, rfl⟩
          clear HI
          go_wp2
          go_roundw
          case rel => exact ⟨i + 1, by omega, HX.out, by simp, trivial⟩
          case measure => simp [intOf]; omega
      · have q1 : ((D.gs i : Int) == (g : Int)) = false := by rw [beq_eq_false_iff_ne]; omega
        have HX : Hid (Value.int .i64 P = .int .i64 (D.part S.testBit g (i + 1))) := by show _ = _; rw [sP.out, if_neg (fun q => e1 q.2), Int.add_zero]
        clear sP e1
        generalize (D.gs i : Int) = gi at *
        go_wp2
        go_roundw
        case rel => exact ⟨i + 1, by omega, HX.out, by simp, trivial⟩
        case measure => simp [intOf]; omega
    · obtain rfl : i = n := by omega
      go_wp2
      all_goals (go_ret; exact ⟨rfl, rfl⟩)

end Go.Proofs.Ytlnoighjdmjdeaa
