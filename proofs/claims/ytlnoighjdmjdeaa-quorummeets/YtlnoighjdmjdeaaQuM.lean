/- The walk of QuorumMeets. -/
import Derived.Test.YtlnoighjdmjdeaaQuL
namespace Go.Proofs.Ytlnoighjdmjdeaa
open Go.RowKit Go.Shelf
set_option maxRecDepth 8000

/-- Is one of the first k sets a part of a, and a least quorum? -/
def SyD.lsB (D : SyD) (a : Nat) : Nat → Bool
  | 0 => false
  | k + 1 => D.lsB a k || (decide (k &&& a = k) && D.least k.testBit)
theorem SyD.lsB_of (D : SyD) {a t k : Nat} (ht : t < k) (hp : t &&& a = t) (hl : D.least t.testBit = true) : D.lsB a k = true := by
  induction k with
  | zero => omega
  | succ k ih =>
    unfold SyD.lsB
    by_cases e : t = k
    · subst e; rw [hl, decide_eq_true hp]; simp
    · rw [ih (by omega)]; rfl
theorem tb127 {i : Nat} (hi : i < 7) (a : Nat) : (a &&& 127).testBit i = a.testBit i := by
  rw [Nat.testBit_and, show (127 : Nat) = 2 ^ 7 - 1 from rfl, Nat.testBit_two_pow_sub_one]
  simp [hi]
theorem SyD.lsB_all {D : SyD} (hD : D.Good) {a : Nat} (hh : D.has a.testBit = true) : D.lsB a 128 = true := by
  have h1 : D.has (a &&& 127).testBit = true := by
    rw [← hh]; exact D.has_congr fun i hi => tb127 (by have := hD.n7; omega) a
  have h127 : a &&& 127 < 128 := Nat.lt_of_le_of_lt Nat.and_le_right (by omega)
  obtain ⟨t, t1, t2, t3⟩ := D.has_least h127 h1
  refine D.lsB_of t1 ?_ t3
  rw [← t2, Nat.and_assoc, Nat.and_assoc, Nat.and_comm 127 a, ← Nat.and_assoc a a 127, Nat.and_self]
theorem pbN {t a : Nat} (ht : t < 256) (ha : a < 256) : (bits .and .u8 (t : Int) (a : Int) == (t : Int)) = decide (t &&& a = t) := by
  rw [andN ht ha]
  by_cases e : t &&& a = t
  · rw [e]; simp
  · rw [decide_eq_false e, beq_eq_false_iff_ne]; omega

theorem meets_walk (v u : Value) (ws gs : List Int) (a b : Nat) (w : World) (hv : SeesQ w v ws) (hu : SeesQ w u gs) (ha : a < 256) (hb : b < 256) :
    Calls Try.prog 5 #[.agg #[v, u, .int .u8 (a : Int), .int .u8 (b : Int)]] w fun e w' => e = .returned (.bool true) ∧ Below w.heap.size w w' := by
  obtain ⟨W0, hW0⟩ : ∃ W0, W0 = w.alloc (.cells #[v, u, .int .u8 (a : Int), .int .u8 (b : Int)] 59) := ⟨_, rfl⟩
  have hb0 : Below w.heap.size w W0 := by rw [hW0]; exact one_alloc w _
  have r0 : W0.heap[w.heap.size]? = some (.cells #[v, u, .int .u8 (a : Int), .int .u8 (b : Int)] 59 (0, 0)) := by rw [hW0]; exact heap_alloc_new _ _
  have c0 := cell_of_row _ _ 0 _ _ _ r0
  have c1 := cell_of_row _ _ 1 _ _ _ r0
  have c2 := cell_of_row _ _ 2 _ _ _ r0
  have c3 := cell_of_row _ _ 3 _ _ _ r0
  have hz0 : w.heap.size < W0.heap.size := lt_of_block r0
  have HB0 : Hid (Below w.heap.size w W0) := hb0
  have HV : Hid (SeesQ W0 v ws ∧ SeesQ W0 u gs) := ⟨hv.below hb0, hu.below hb0⟩
  have HW0 : Hid (w.alloc (.cells #[v, u, .int .u8 (a : Int), .int .u8 (b : Int)] 59) = W0) := hW0.symm
  obtain ⟨av, cv, ev, l1, l2, x1⟩ := hv
  obtain ⟨au, cu, eu, l3, l4, x2⟩ := hu
  subst ev eu
  clear x1 x2 hb0 hW0 r0
  have HL := long20 (ws.length : Int)
  have HG := long20 (gs.length : Int)
  by_cases q1 : (2147483647 : Int) ≤ (ws.length : Int)
  · simp only [decide_eq_true q1] at HL
    go_enter Try.func5, Try.ntmps5
    go_upto_region 1 with fail
    rw [HW0.out]
    clear HW0
    go_wp2_with fail
    refine Calls.mono (HL _) ?_
    rintro e w1 ⟨rfl, rfl⟩
    go_wp2
    all_goals (go_ret; exact ⟨rfl, HB0.out⟩)
  · by_cases q2 : (2147483647 : Int) ≤ (gs.length : Int)
    · simp only [decide_eq_false q1] at HL
      simp only [decide_eq_true q2] at HG
      go_enter Try.func5, Try.ntmps5
      go_upto_region 1 with fail
      rw [HW0.out]
      clear HW0
      go_wp2_with fail
      refine Calls.mono (HL _) ?_
      rintro e w1 ⟨rfl, rfl⟩
      go_wp2_with fail
      refine Calls.mono (HG _) ?_
      rintro e w1 ⟨rfl, rfl⟩
      go_wp2
      all_goals (go_ret; exact ⟨rfl, HB0.out⟩)
    · simp only [decide_eq_false q1] at HL
      simp only [decide_eq_false q2] at HG
      go_enter Try.func5, Try.ntmps5
      go_upto_region 1 with fail
      rw [HW0.out]
      clear HW0
      go_wp2_with fail
      refine Calls.mono (HL _) ?_
      rintro e w1 ⟨rfl, rfl⟩
      go_wp2_with fail
      refine Calls.mono (HG _) ?_
      rintro e w1 ⟨rfl, rfl⟩
      clear HL HG
      go_wp2_with fail
      go_at_call 11
      refine (lives20 _).mono ?_
      rintro e w2 ⟨rfl, hb2⟩
      have HB2 : Hid (Below w.heap.size w w2) := HB0.out.trans (hb2.mono HB0.out.size)
      have HV2 : Hid (SeesQ w2 (.slice av ws.length cv) ws ∧ SeesQ w2 (.slice au gs.length cu) gs) := ⟨HV.out.1.below hb2, HV.out.2.below hb2⟩
      clear hb2 HB0 HV c0 c1 c2 c3
      by_cases ok : NewOk ws gs
      · have HN : Hid (Calls Try.prog 9 #[.slice av ws.length cv, .slice au gs.length cu] w2 fun e w' => e = .returned (.tuple #[.pointer (some ⟨w2.heap.size, 0, none⟩), .int .i64 0]) ∧ IsSy w' w2.heap.size (syD ws gs) ∧ Below w2.heap.size w2 w') := new_good HV2.out.1 HV2.out.2 ok
        have HD : Hid (syD ws gs).Good := ok.good
        obtain ⟨s, hs⟩ : ∃ s, s = w2.heap.size := ⟨_, rfl⟩
        rw [← hs] at HN
        have HSs : Hid (s = w2.heap.size) := hs
        generalize syD ws gs = D at HN HD
        clear ok HV2 hs
        go_wp2_with fail
        refine Calls.mono HN.out ?_
        rintro e w3 ⟨rfl, hI, hb3⟩
        rw [HSs.out] at hb3
        have HB3 : Hid (Below w.heap.size w w3) := HB2.out.trans (hb3.mono HB2.out.size)
        have HI3 : Hid (IsSy w3 s D) := hI
        clear hI hb3 HN HB2 HSs
        have H127 : Hid (D.has (127 : Nat).testBit = true) := D.has_all HD.out fun i hi => by
          have := HD.out.n7
          rw [show (127 : Nat) = 2 ^ 7 - 1 from rfl, Nat.testBit_two_pow_sub_one]; simp; omega
        have H0 : Hid (D.has (0 : Nat).testBit = false) := D.has_none HD.out fun i _ => by simp
        have hb' := hb
        have hab : a ||| b < 256 := Nat.or_lt_two_pow (n := 8) ha hb
        have hor := orN ha hb
        clear hb
        cases hA : D.has a.testBit with
        | false =>
          have HA : Hid (D.has a.testBit = false) := hA
          clear hA hor hab
          have hc3 := has_sy HD.out HI3.out (S := a) (ha)
          rw [HA.out] at hc3
          have HC3 : Hid (Calls Try.prog 22 #[.pointer (some ⟨s, 0, none⟩), .int .u8 (a : Int)] w3 fun e w' => e = .returned (.bool false) ∧ Below w3.heap.size w3 w') := hc3
          clear hc3
          go_wp2_with fail
          refine Calls.mono HC3.out ?_
          rintro e w4 ⟨rfl, hb⟩
          have HB4 : Hid (Below w.heap.size w w4) := HB3.out.trans (hb.mono HB3.out.size)
          have HI4 : Hid (IsSy w4 s D) := HI3.out.below hb HI3.out.lt
          clear hb HC3 HB3 HI3
          have hc4 := has_sy HD.out HI4.out (S := a) (ha)
          rw [HA.out] at hc4
          have HC4 : Hid (Calls Try.prog 22 #[.pointer (some ⟨s, 0, none⟩), .int .u8 (a : Int)] w4 fun e w' => e = .returned (.bool false) ∧ Below w4.heap.size w4 w') := hc4
          clear hc4
          go_wp2_with fail
          refine Calls.mono HC4.out ?_
          rintro e w5 ⟨rfl, hb⟩
          have HB5 : Hid (Below w.heap.size w w5) := HB4.out.trans (hb.mono HB4.out.size)
          have HI5 : Hid (IsSy w5 s D) := HI4.out.below hb HI4.out.lt
          clear hb HC4 HB4 HI4
          have hc5 := has_sy HD.out HI5.out (S := 127) (by decide)
          rw [H127.out] at hc5
          have HC5 : Hid (Calls Try.prog 22 #[.pointer (some ⟨s, 0, none⟩), .int .u8 127] w5 fun e w' => e = .returned (.bool true) ∧ Below w5.heap.size w5 w') := hc5
          clear hc5
          go_wp2_with fail
          refine Calls.mono HC5.out ?_
          rintro e w6 ⟨rfl, hb⟩
          have HB6 : Hid (Below w.heap.size w w6) := HB5.out.trans (hb.mono HB5.out.size)
          have HI6 : Hid (IsSy w6 s D) := HI5.out.below hb HI5.out.lt
          clear hb HC5 HB5 HI5
          have hc6 := has_sy HD.out HI6.out (S := 0) (by decide)
          rw [H0.out] at hc6
          have HC6 : Hid (Calls Try.prog 22 #[.pointer (some ⟨s, 0, none⟩), .int .u8 0] w6 fun e w' => e = .returned (.bool false) ∧ Below w6.heap.size w6 w') := hc6
          clear hc6
          go_wp2_with fail
          refine Calls.mono HC6.out ?_
          rintro e w7 ⟨rfl, hb⟩
          have HB7 : Hid (Below w.heap.size w w7) := HB6.out.trans (hb.mono HB6.out.size)
          have HI7 : Hid (IsSy w7 s D) := HI6.out.below hb HI6.out.lt
          clear hb HC6 HB6 HI6
          have hc7 := has_sy HD.out HI7.out (S := a) (ha)
          rw [HA.out] at hc7
          have HC7 : Hid (Calls Try.prog 22 #[.pointer (some ⟨s, 0, none⟩), .int .u8 (a : Int)] w7 fun e w' => e = .returned (.bool false) ∧ Below w7.heap.size w7 w') := hc7
          clear hc7
          go_wp2_with fail
          refine Calls.mono HC7.out ?_
          rintro e w8 ⟨rfl, hb⟩
          have HB8 : Hid (Below w.heap.size w w8) := HB7.out.trans (hb.mono HB7.out.size)
          have HI8 : Hid (IsSy w8 s D) := HI7.out.below hb HI7.out.lt
          clear hb HC7 HB7 HI7
          have hl := least_sy HD.out HI8.out ha
          rw [show D.least a.testBit = false by unfold SyD.least; rw [HA.out]; rfl] at hl
          have HLs : Hid (Calls Try.prog 24 #[.pointer (some ⟨s, 0, none⟩), .int .u8 (a : Int)] w8 fun e w' => e = .returned (.bool false) ∧ Below w8.heap.size w8 w') := hl
          clear hl
          go_wp2_with fail
          refine Calls.mono HLs.out ?_
          rintro e wz ⟨rfl, hbz⟩
          have HBz : Hid (Below w.heap.size w wz) := HB8.out.trans (hbz.mono HB8.out.size)
          clear hbz HLs
          go_wp2
          all_goals (go_ret; exact ⟨rfl, HBz.out⟩)
        | true =>
          have HA : Hid (D.has a.testBit = true) := hA
          have HO : Hid (D.has (a ||| b).testBit = true) := D.has_mono HD.out (S := a.testBit) (fun i _ q => by rw [Nat.testBit_or, q]; rfl) hA
          clear hA
          cases hBs : D.has b.testBit with
          | false =>
            have HBs : Hid (D.has b.testBit = false) := hBs
            clear hBs
            have hc3 := has_sy HD.out HI3.out (S := a) (ha)
            rw [HA.out] at hc3
            have HC3 : Hid (Calls Try.prog 22 #[.pointer (some ⟨s, 0, none⟩), .int .u8 (a : Int)] w3 fun e w' => e = .returned (.bool true) ∧ Below w3.heap.size w3 w') := hc3
            clear hc3
            go_wp2_with fail
            refine Calls.mono HC3.out ?_
            rintro e w4 ⟨rfl, hb⟩
            have HB4 : Hid (Below w.heap.size w w4) := HB3.out.trans (hb.mono HB3.out.size)
            have HI4 : Hid (IsSy w4 s D) := HI3.out.below hb HI3.out.lt
            clear hb HC3 HB3 HI3
            have hc4 := has_sy HD.out HI4.out (S := b) (hb')
            rw [HBs.out] at hc4
            have HC4 : Hid (Calls Try.prog 22 #[.pointer (some ⟨s, 0, none⟩), .int .u8 (b : Int)] w4 fun e w' => e = .returned (.bool false) ∧ Below w4.heap.size w4 w') := hc4
            clear hc4
            go_wp2_with fail
            refine Calls.mono HC4.out ?_
            rintro e w5 ⟨rfl, hb⟩
            have HB5 : Hid (Below w.heap.size w w5) := HB4.out.trans (hb.mono HB4.out.size)
            have HI5 : Hid (IsSy w5 s D) := HI4.out.below hb HI4.out.lt
            clear hb HC4 HB4 HI4
            have hc5 := has_sy HD.out HI5.out (S := a) (ha)
            rw [HA.out] at hc5
            have HC5 : Hid (Calls Try.prog 22 #[.pointer (some ⟨s, 0, none⟩), .int .u8 (a : Int)] w5 fun e w' => e = .returned (.bool true) ∧ Below w5.heap.size w5 w') := hc5
            clear hc5
            go_wp2_with fail
            refine Calls.mono HC5.out ?_
            rintro e w6 ⟨rfl, hb⟩
            have HB6 : Hid (Below w.heap.size w w6) := HB5.out.trans (hb.mono HB5.out.size)
            have HI6 : Hid (IsSy w6 s D) := HI5.out.below hb HI5.out.lt
            clear hb HC5 HB5 HI5
            have hc6 := has_sy HD.out HI6.out (S := (a ||| b)) (hab)
            rw [HO.out] at hc6
            have HC6 : Hid (Calls Try.prog 22 #[.pointer (some ⟨s, 0, none⟩), .int .u8 ((a ||| b : Nat) : Int)] w6 fun e w' => e = .returned (.bool true) ∧ Below w6.heap.size w6 w') := hc6
            clear hc6
            go_wp2_with fail
            refine Calls.mono HC6.out ?_
            rintro e w7 ⟨rfl, hb⟩
            have HB7 : Hid (Below w.heap.size w w7) := HB6.out.trans (hb.mono HB6.out.size)
            have HI7 : Hid (IsSy w7 s D) := HI6.out.below hb HI6.out.lt
            clear hb HC6 HB6 HI6
            have hc7 := has_sy HD.out HI7.out (S := 127) (by decide)
            rw [H127.out] at hc7
            have HC7 : Hid (Calls Try.prog 22 #[.pointer (some ⟨s, 0, none⟩), .int .u8 127] w7 fun e w' => e = .returned (.bool true) ∧ Below w7.heap.size w7 w') := hc7
            clear hc7
            go_wp2_with fail
            refine Calls.mono HC7.out ?_
            rintro e w8 ⟨rfl, hb⟩
            have HB8 : Hid (Below w.heap.size w w8) := HB7.out.trans (hb.mono HB7.out.size)
            have HI8 : Hid (IsSy w8 s D) := HI7.out.below hb HI7.out.lt
            clear hb HC7 HB7 HI7
            have hc8 := has_sy HD.out HI8.out (S := 0) (by decide)
            rw [H0.out] at hc8
            have HC8 : Hid (Calls Try.prog 22 #[.pointer (some ⟨s, 0, none⟩), .int .u8 0] w8 fun e w' => e = .returned (.bool false) ∧ Below w8.heap.size w8 w') := hc8
            clear hc8
            go_wp2_with fail
            refine Calls.mono HC8.out ?_
            rintro e w9 ⟨rfl, hb⟩
            have HB9 : Hid (Below w.heap.size w w9) := HB8.out.trans (hb.mono HB8.out.size)
            have HI9 : Hid (IsSy w9 s D) := HI8.out.below hb HI8.out.lt
            clear hb HC8 HB8 HI8
            have hc9 := has_sy HD.out HI9.out (S := a) (ha)
            rw [HA.out] at hc9
            have HC9 : Hid (Calls Try.prog 22 #[.pointer (some ⟨s, 0, none⟩), .int .u8 (a : Int)] w9 fun e w' => e = .returned (.bool true) ∧ Below w9.heap.size w9 w') := hc9
            clear hc9
            go_wp2_with fail
            refine Calls.mono HC9.out ?_
            rintro e w10 ⟨rfl, hb⟩
            have HB10 : Hid (Below w.heap.size w w10) := HB9.out.trans (hb.mono HB9.out.size)
            have HI10 : Hid (IsSy w10 s D) := HI9.out.below hb HI9.out.lt
            clear hb HC9 HB9 HI9
            go_wp2
            go_loopw [10, 11] (fun v10 vi wr => ∃ k : Nat, k ≤ 128 ∧ v10 = .bool (D.lsB a k) ∧ vi = .int .i64 (k : Int) ∧ Hid (Below w10.heap.size w10 wr)) (fun _ vi _ => 128 - (intOf vi).toNat)
            case atStart => exact ⟨0, by omega, rfl, rfl, Below.refl _ _⟩
            case round =>
              obtain ⟨k, hk, rfl, rfl, HW⟩ := hrel
              by_cases hk7 : k < 128
              · have hi0 : (0 : Int) ≤ (k : Int) := by omega
                have hi7 : (k : Int) < 128 := by omega
                have hk8 : k < 256 := by omega
                have hp := pbN hk8 ha
                have sL : Hid (D.lsB a (k + 1) = (D.lsB a k || (decide (k &&& a = k) && D.least k.testBit))) := rfl
                have HLs : Hid (Calls Try.prog 24 #[.pointer (some ⟨s, 0, none⟩), .int .u8 (k : Int)] wr fun e w' => e = .returned (.bool (D.least k.testBit)) ∧ Below wr.heap.size wr w') := least_sy HD.out (HI10.out.below HW.out HI10.out.lt) hk8
                cases h1 : D.lsB a k with
                | true =>
                  have HX : Hid (D.lsB a (k + 1) = true) := by show _ = _; rw [sL.out, h1]; rfl
                  generalize decide (k &&& a = k) = pb at hp
                  clear sL h1 HLs
                  cases pb <;>
                  (go_wp2
                   go_roundw
                   case rel => exact ⟨k + 1, by omega, by rw [HX.out], by simp, HW⟩
                   case measure => simp [intOf]; omega)
                | false =>
                  cases h2 : decide (k &&& a = k) with
                  | false =>
                    rw [h2] at hp
                    have HX : Hid (D.lsB a (k + 1) = false) := by show _ = _; rw [sL.out, h1, h2]; rfl
                    clear sL h1 h2 HLs
                    go_wp2
                    go_roundw
                    case rel => exact ⟨k + 1, by omega, by rw [HX.out], by simp, HW⟩
                    case measure => simp [intOf]; omega
                  | true =>
                    rw [h2] at hp
                    have HX : Hid (D.lsB a (k + 1) = D.least k.testBit) := by show _ = _; rw [sL.out, h1, h2]; simp
                    clear sL h1 h2
                    go_wp2_with fail
                    refine Calls.mono HLs.out ?_
                    rintro e wz ⟨rfl, hbz⟩
                    have HBz : Hid (Below w10.heap.size w10 wz) := HW.out.trans (hbz.mono HW.out.size)
                    clear hbz HLs
                    generalize D.least k.testBit = lb at HX
                    go_wp2
                    go_roundw
                    case rel => exact ⟨k + 1, by omega, by rw [HX.out], by simp, HBz⟩
                    case measure => simp [intOf]; omega
              · obtain rfl : k = 128 := by omega
                have HX : Hid (D.lsB a 128 = true) := D.lsB_all HD.out HA.out
                rw [HX.out]
                have e128 : ((128 : Nat) : Int) = 128 := rfl
                generalize ((128 : Nat) : Int) = z128 at *
                have hz128 : ¬ z128 < 128 := by omega
                clear e128 HX
                go_wp2
                all_goals (go_ret; exact ⟨rfl, HB10.out.trans (HW.out.mono HB10.out.size)⟩)
          | true =>
            have HBs : Hid (D.has b.testBit = true) := hBs
            clear hBs
            have hc3 := has_sy HD.out HI3.out (S := a) (ha)
            rw [HA.out] at hc3
            have HC3 : Hid (Calls Try.prog 22 #[.pointer (some ⟨s, 0, none⟩), .int .u8 (a : Int)] w3 fun e w' => e = .returned (.bool true) ∧ Below w3.heap.size w3 w') := hc3
            clear hc3
            go_wp2_with fail
            refine Calls.mono HC3.out ?_
            rintro e w4 ⟨rfl, hb⟩
            have HB4 : Hid (Below w.heap.size w w4) := HB3.out.trans (hb.mono HB3.out.size)
            have HI4 : Hid (IsSy w4 s D) := HI3.out.below hb HI3.out.lt
            clear hb HC3 HB3 HI3
            have hc4 := has_sy HD.out HI4.out (S := b) (hb')
            rw [HBs.out] at hc4
            have HC4 : Hid (Calls Try.prog 22 #[.pointer (some ⟨s, 0, none⟩), .int .u8 (b : Int)] w4 fun e w' => e = .returned (.bool true) ∧ Below w4.heap.size w4 w') := hc4
            clear hc4
            go_wp2_with fail
            refine Calls.mono HC4.out ?_
            rintro e w5 ⟨rfl, hb⟩
            have HB5 : Hid (Below w.heap.size w w5) := HB4.out.trans (hb.mono HB4.out.size)
            have HI5 : Hid (IsSy w5 s D) := HI4.out.below hb HI4.out.lt
            clear hb HC4 HB4 HI4
            obtain ⟨j, j1, j2, j3, j4⟩ := D.meet HD.out HA.out HBs.out
            have HCm : Hid (Calls Try.prog 28 #[.pointer (some ⟨s, 0, none⟩), .int .u8 (a : Int), .int .u8 (b : Int)] w5 fun e w' => e = .returned (.bool true) ∧ w' = w5) := common_yes HD.out HI5.out ha hb' (j := j) (by have := HD.out.n7; omega) j2 j3 (by unfold SyD.cou; rw [Int.toNat_natCast, decide_eq_true j4, decide_eq_true (show (0 : Int) ≤ (j : Int) ∧ (j : Int) < D.n by omega)]; rfl)
            clear j1 j2 j3 j4 j
            go_wp2_with fail
            refine Calls.mono HCm.out ?_
            rintro e wz ⟨rfl, hwz⟩
            rw [hwz]
            clear hwz HCm wz
            have hc5 := has_sy HD.out HI5.out (S := a) (ha)
            rw [HA.out] at hc5
            have HC5 : Hid (Calls Try.prog 22 #[.pointer (some ⟨s, 0, none⟩), .int .u8 (a : Int)] w5 fun e w' => e = .returned (.bool true) ∧ Below w5.heap.size w5 w') := hc5
            clear hc5
            go_wp2_with fail
            refine Calls.mono HC5.out ?_
            rintro e w6 ⟨rfl, hb⟩
            have HB6 : Hid (Below w.heap.size w w6) := HB5.out.trans (hb.mono HB5.out.size)
            have HI6 : Hid (IsSy w6 s D) := HI5.out.below hb HI5.out.lt
            clear hb HC5 HB5 HI5
            have hc6 := has_sy HD.out HI6.out (S := (a ||| b)) (hab)
            rw [HO.out] at hc6
            have HC6 : Hid (Calls Try.prog 22 #[.pointer (some ⟨s, 0, none⟩), .int .u8 ((a ||| b : Nat) : Int)] w6 fun e w' => e = .returned (.bool true) ∧ Below w6.heap.size w6 w') := hc6
            clear hc6
            go_wp2_with fail
            refine Calls.mono HC6.out ?_
            rintro e w7 ⟨rfl, hb⟩
            have HB7 : Hid (Below w.heap.size w w7) := HB6.out.trans (hb.mono HB6.out.size)
            have HI7 : Hid (IsSy w7 s D) := HI6.out.below hb HI6.out.lt
            clear hb HC6 HB6 HI6
            have hc7 := has_sy HD.out HI7.out (S := 127) (by decide)
            rw [H127.out] at hc7
            have HC7 : Hid (Calls Try.prog 22 #[.pointer (some ⟨s, 0, none⟩), .int .u8 127] w7 fun e w' => e = .returned (.bool true) ∧ Below w7.heap.size w7 w') := hc7
            clear hc7
            go_wp2_with fail
            refine Calls.mono HC7.out ?_
            rintro e w8 ⟨rfl, hb⟩
            have HB8 : Hid (Below w.heap.size w w8) := HB7.out.trans (hb.mono HB7.out.size)
            have HI8 : Hid (IsSy w8 s D) := HI7.out.below hb HI7.out.lt
            clear hb HC7 HB7 HI7
            have hc8 := has_sy HD.out HI8.out (S := 0) (by decide)
            rw [H0.out] at hc8
            have HC8 : Hid (Calls Try.prog 22 #[.pointer (some ⟨s, 0, none⟩), .int .u8 0] w8 fun e w' => e = .returned (.bool false) ∧ Below w8.heap.size w8 w') := hc8
            clear hc8
            go_wp2_with fail
            refine Calls.mono HC8.out ?_
            rintro e w9 ⟨rfl, hb⟩
            have HB9 : Hid (Below w.heap.size w w9) := HB8.out.trans (hb.mono HB8.out.size)
            have HI9 : Hid (IsSy w9 s D) := HI8.out.below hb HI8.out.lt
            clear hb HC8 HB8 HI8
            have hc9 := has_sy HD.out HI9.out (S := a) (ha)
            rw [HA.out] at hc9
            have HC9 : Hid (Calls Try.prog 22 #[.pointer (some ⟨s, 0, none⟩), .int .u8 (a : Int)] w9 fun e w' => e = .returned (.bool true) ∧ Below w9.heap.size w9 w') := hc9
            clear hc9
            go_wp2_with fail
            refine Calls.mono HC9.out ?_
            rintro e w10 ⟨rfl, hb⟩
            have HB10 : Hid (Below w.heap.size w w10) := HB9.out.trans (hb.mono HB9.out.size)
            have HI10 : Hid (IsSy w10 s D) := HI9.out.below hb HI9.out.lt
            clear hb HC9 HB9 HI9
            go_wp2
            go_loopw [10, 11] (fun v10 vi wr => ∃ k : Nat, k ≤ 128 ∧ v10 = .bool (D.lsB a k) ∧ vi = .int .i64 (k : Int) ∧ Hid (Below w10.heap.size w10 wr)) (fun _ vi _ => 128 - (intOf vi).toNat)
            case atStart => exact ⟨0, by omega, rfl, rfl, Below.refl _ _⟩
            case round =>
              obtain ⟨k, hk, rfl, rfl, HW⟩ := hrel
              by_cases hk7 : k < 128
              · have hi0 : (0 : Int) ≤ (k : Int) := by omega
                have hi7 : (k : Int) < 128 := by omega
                have hk8 : k < 256 := by omega
                have hp := pbN hk8 ha
                have sL : Hid (D.lsB a (k + 1) = (D.lsB a k || (decide (k &&& a = k) && D.least k.testBit))) := rfl
                have HLs : Hid (Calls Try.prog 24 #[.pointer (some ⟨s, 0, none⟩), .int .u8 (k : Int)] wr fun e w' => e = .returned (.bool (D.least k.testBit)) ∧ Below wr.heap.size wr w') := least_sy HD.out (HI10.out.below HW.out HI10.out.lt) hk8
                cases h1 : D.lsB a k with
                | true =>
                  have HX : Hid (D.lsB a (k + 1) = true) := by show _ = _; rw [sL.out, h1]; rfl
                  generalize decide (k &&& a = k) = pb at hp
                  clear sL h1 HLs
                  cases pb <;>
                  (go_wp2
                   go_roundw
                   case rel => exact ⟨k + 1, by omega, by rw [HX.out], by simp, HW⟩
                   case measure => simp [intOf]; omega)
                | false =>
                  cases h2 : decide (k &&& a = k) with
                  | false =>
                    rw [h2] at hp
                    have HX : Hid (D.lsB a (k + 1) = false) := by show _ = _; rw [sL.out, h1, h2]; rfl
                    clear sL h1 h2 HLs
                    go_wp2
                    go_roundw
                    case rel => exact ⟨k + 1, by omega, by rw [HX.out], by simp, HW⟩
                    case measure => simp [intOf]; omega
                  | true =>
                    rw [h2] at hp
                    have HX : Hid (D.lsB a (k + 1) = D.least k.testBit) := by show _ = _; rw [sL.out, h1, h2]; simp
                    clear sL h1 h2
                    go_wp2_with fail
                    refine Calls.mono HLs.out ?_
                    rintro e wz ⟨rfl, hbz⟩
                    have HBz : Hid (Below w10.heap.size w10 wz) := HW.out.trans (hbz.mono HW.out.size)
                    clear hbz HLs
                    generalize D.least k.testBit = lb at HX
                    go_wp2
                    go_roundw
                    case rel => exact ⟨k + 1, by omega, by rw [HX.out], by simp, HBz⟩
                    case measure => simp [intOf]; omega
              · obtain rfl : k = 128 := by omega
                have HX : Hid (D.lsB a 128 = true) := D.lsB_all HD.out HA.out
                rw [HX.out]
                have e128 : ((128 : Nat) : Int) = 128 := rfl
                generalize ((128 : Nat) : Int) = z128 at *
                have hz128 : ¬ z128 < 128 := by omega
                clear e128 HX
                go_wp2
                all_goals (go_ret; exact ⟨rfl, HB10.out.trans (HW.out.mono HB10.out.size)⟩)
      · have HN : Hid (Calls Try.prog 9 #[.slice av ws.length cv, .slice au gs.length cu] w2 fun e w' => e = .returned (.tuple #[.pointer none, .int .i64 200]) ∧ Below w2.heap.size w2 w') := new_bad HV2.out.1 HV2.out.2 ok
        clear ok HV2
        go_wp2_with fail
        refine Calls.mono HN.out ?_
        rintro e w3 ⟨rfl, hb3⟩
        have HB3 : Hid (Below w.heap.size w w3) := HB2.out.trans (hb3.mono HB2.out.size)
        clear hb3 HN HB2
        go_wp2
        all_goals (go_ret; exact ⟨rfl, HB3.out⟩)

end Go.Proofs.Ytlnoighjdmjdeaa
