/- What Least answers; New. -/
import Derived.Test.YtlnoighjdmjdeaaQuB
namespace Go.Proofs.Ytlnoighjdmjdeaa
open Go.RowKit Go.Shelf
set_option maxRecDepth 8000

theorem least_sy {w : World} {s : Nat} {D : SyD} (hD : D.Good) (h : IsSy w s D) {S : Nat} (hS : S < 256) : Calls Try.prog 24 #[.pointer (some ⟨s, 0, none⟩), .int .u8 (S : Int)] w fun e w' => e = .returned (.bool (D.least S.testBit)) ∧ Below w.heap.size w w' := by
  have HI : Hid (IsSy w s D) := h
  have HD : Hid D.Good := hD
  have hz := h.lt
  have n7 := hD.n7
  have HG : Hid (Calls Try.prog 22 #[.pointer (some ⟨s, 0, none⟩), .int .u8 (S : Int)] w fun e w' => e = .returned (.bool (D.has S.testBit)) ∧ Below w.heap.size w w') := has_sy hD h hS
  clear h hD
  obtain ⟨N, hN⟩ : ∃ N : Nat, N = D.n := ⟨_, rfl⟩
  have HE : Hid (N = D.n) := hN
  rw [← hN] at n7
  clear hN
  unfold SyD.least
  cases hh : D.has S.testBit with
  | false =>
    rw [hh] at HG
    rw [Bool.false_and]
    go_enter Try.func24, Try.ntmps24
    go_wp2_with fail
    refine Calls.mono HG.out ?_
    rintro e w1 ⟨rfl, hb1⟩
    have HB1 : Hid (Below w.heap.size w w1) := hb1
    clear hb1 HG hh
    go_wp2
    all_goals (go_ret; exact ⟨rfl, HB1.out⟩)
  | true =>
    rw [hh] at HG
    rw [Bool.true_and]
    obtain ⟨val, hval⟩ : ∃ val, val = D.lst S.testBit D.n := ⟨_, rfl⟩
    rw [← hval]
    have HV : Hid (val = D.lst S.testBit D.n) := hval
    clear hval hh
    go_enter Try.func24, Try.ntmps24
    go_wp2_with fail
    refine Calls.mono HG.out ?_
    rintro e w1 ⟨rfl, hb1⟩
    have HB1 : Hid (Below w.heap.size w w1) := hb1
    clear hb1 HG
    have HI1 := HI.out.below HB1.out hz
    have c0 := HI1.n0
    have hz1 := HI1.lt
    rw [← HE.out] at c0
    clear HI1
    go_wp2
    clear c0 hz1
    go_loopw [15] (fun vi wr => ∃ k : Nat, k ≤ N ∧ vi = .int .i64 (k : Int) ∧ Hid (D.lst S.testBit k = true ∧ Below w.heap.size w wr)) (fun vi _ => N - (intOf vi).toNat)
    case atStart => exact ⟨0, by omega, rfl, rfl, HB1.out⟩
    case round =>
      obtain ⟨k, hk, rfl, HW⟩ := hrel
      by_cases hkN : k < N
      · have hk8 : k < 8 := by omega
        have hi0 : (0 : Int) ≤ (k : Int) := by omega
        have hi7 : (k : Int) < 7 := by omega
        have hiN : (k : Int) < (N : Int) := by omega
        have ht := and_bq hS hk8
        have hd := del_bq hS hk8
        have hdl := delB_lt (i := k) hS
        have HD2 : Hid (D.has (delB S k).testBit = D.has (fun j => S.testBit j && j != k)) := D.has_congr fun j _ => delB_bit hS j
        go_wp2_with fail
        go_at_call 34
        refine (bit_any hk8 _).mono ?_
        rintro e w2 ⟨rfl, rfl⟩
        have sL : Hid (D.lst S.testBit (k + 1) = (D.lst S.testBit k && !(S.testBit k && D.has (fun j => S.testBit j && j != k)))) := rfl
        cases hb : S.testBit k with
        | false =>
          rw [hb] at ht
          have HX : Hid (D.lst S.testBit (k + 1) = true) := by show _ = _; rw [sL.out, HW.out.1, hb]; rfl
          clear hb sL HD2
          go_wp2
          go_roundw
          case rel => exact ⟨k + 1, by omega, by simp, HX.out, HW.out.2⟩
          case measure => simp [intOf]; omega
        | true =>
          rw [hb] at ht
          have HI2 := HI.out.below HW.out.2 hz
          have HG2 : Hid (Calls Try.prog 22 #[.pointer (some ⟨s, 0, none⟩), .int .u8 ((delB S k : Nat) : Int)] w2 fun e w' => e = .returned (.bool (D.has (delB S k).testBit)) ∧ Below w2.heap.size w2 w') := has_sy HD.out HI2 hdl
          clear HI2
          cases hq : D.has (delB S k).testBit with
          | false =>
            rw [hq] at HG2
            have HX : Hid (D.lst S.testBit (k + 1) = true) := by show _ = _; rw [sL.out, HW.out.1, hb, ← HD2.out, hq]; rfl
            clear hb sL HD2 hq
            go_wp2_with fail
            refine Calls.mono HG2.out ?_
            rintro e w3 ⟨rfl, hb3⟩
            have HB3 : Hid (Below w.heap.size w w3) := HW.out.2.trans (hb3.mono HW.out.2.size)
            clear hb3 HG2
            go_wp2
            go_roundw
            case rel => exact ⟨k + 1, by omega, by simp, HX.out, HB3.out⟩
            case measure => simp [intOf]; omega
          | true =>
            rw [hq] at HG2
            have HX : Hid (val = false) := by
              show _ = _
              have h1 : D.lst S.testBit D.n ≠ true := fun q => by
                have := (D.lst_iff S.testBit D.n).1 q k (by rw [← HE.out]; exact hkN) hb
                rw [← HD2.out, hq] at this
                cases this
              rw [HV.out]
              revert h1
              cases D.lst S.testBit D.n <;> simp
            clear hb sL HD2 hq
            go_wp2_with fail
            refine Calls.mono HG2.out ?_
            rintro e w3 ⟨rfl, hb3⟩
            have HB3 : Hid (Below w.heap.size w w3) := HW.out.2.trans (hb3.mono HW.out.2.size)
            clear hb3 HG2
            go_wp2
            all_goals (go_ret; exact ⟨by rw [HX.out]; rfl, HB3.out⟩)
      · obtain rfl : k = N := by omega
        have HX : Hid (val = true) := by show _ = _; rw [HV.out, ← HE.out, HW.out.1]
        go_wp2
        all_goals (go_ret; exact ⟨by rw [HX.out]; rfl, HW.out.2⟩)

end Go.Proofs.Ytlnoighjdmjdeaa
