/- The walk of QuorumTwo. -/
import Derived.Test.YtlnoighjdmjdeaaQwI
namespace Go.Proofs.Ytlnoighjdmjdeaa
open Go.RowKit Go.Shelf
set_option maxRecDepth 8000

theorem IsDo.mono {w : World} {r B C : Nat} {ws gs : List Int} (h : IsDo w r B ws gs) (hC : C ≤ B) : IsDo w r C ws gs := by
  obtain ⟨v, u, h1, h2, h3, h4⟩ := h
  exact ⟨v, u, h1, h2.mono hC, h3.mono hC, by omega⟩
theorem eqZxQ (e n : Int) (w : World) : (binOp .eql 38 (.agg #[.int .u32 e, .int .u32 n]) (.agg #[.int .u32 e, .int .u32 n])).run Try.prog w = .ok (.bool true) w := by
  have := eqZx e n e n w
  rwa [decide_eq_true (show e = e ∧ n = n from ⟨rfl, rfl⟩)] at this
theorem twoE (w : World) : SeesQ ((w.alloc (.cells #[.int .i64 1, .int .i64 1, .int .i64 1] 3)).alloc (.cells #[.int .i64 0, .int .i64 1, .int .i64 2] 3)) (.slice (some ⟨w.heap.size, 0, none⟩) 3 3) [1, 1, 1] ∧ SeesQ ((w.alloc (.cells #[.int .i64 1, .int .i64 1, .int .i64 1] 3)).alloc (.cells #[.int .i64 0, .int .i64 1, .int .i64 2] 3)) (.slice (some ⟨w.heap.size + 1, 0, none⟩) 3 3) [0, 1, 2] := by
  refine ⟨(sees3 w 1 1 1).below (one_alloc _ _), ?_⟩
  have := sees3 (w.alloc (.cells #[.int .i64 1, .int .i64 1, .int .i64 1] 3)) 0 1 2
  rwa [World.size_alloc] at this

set_option maxHeartbeats 16000000 in
theorem two_walk (v u o t : Value) (ws gs : List Int) (lo lt : List PuT) (w : World) (hv : SeesQ w v ws) (hu : SeesQ w u gs) (ho : SeesPu w o lo) (ht : SeesPu w t lt) :
    Calls Try.prog 4 #[.agg #[v, u, o, t]] w fun e w' => e = .returned (.bool true) ∧ Below w.heap.size w w' := by
  obtain ⟨W0, hW0⟩ : ∃ W0, W0 = w.alloc (.cells #[v, u, o, t] 56) := ⟨_, rfl⟩
  have hb0 : Below w.heap.size w W0 := by rw [hW0]; exact one_alloc w _
  have r0 : W0.heap[w.heap.size]? = some (.cells #[v, u, o, t] 56 (0, 0)) := by rw [hW0]; exact heap_alloc_new _ _
  have c0 := cell_of_row _ _ 0 _ _ _ r0
  have c1 := cell_of_row _ _ 1 _ _ _ r0
  have c2 := cell_of_row _ _ 2 _ _ _ r0
  have c3 := cell_of_row _ _ 3 _ _ _ r0
  have hz0 : w.heap.size < W0.heap.size := lt_of_block r0
  have HB0 : Hid (Below w.heap.size w W0) := hb0
  have HV : Hid (SeesQ W0 v ws ∧ SeesQ W0 u gs) := ⟨hv.below hb0, hu.below hb0⟩
  have HW0 : Hid (w.alloc (.cells #[v, u, o, t] 56) = W0) := hW0.symm
  obtain ⟨av, cv, ev, l1, l2, x1⟩ := hv
  obtain ⟨au, cu0, eu, l3, l4, x2⟩ := hu
  obtain ⟨ao, co, eo, l5, hgo, hco⟩ := ho
  obtain ⟨at0, ct, et, l6, hgt, hct⟩ := ht
  subst ev eu eo et
  have HGo : Hid (∀ s ∈ lo, s.good) := hgo
  have HCo : Hid (lo ≠ [] → ∃ b off, ao = some ⟨b, off, none⟩ ∧ ∀ i s, lo[i]? = some s → ∀ j u, s.cells[j]? = some u → w.cell? ⟨b, off + i * 3 + j, none⟩ = some u) := hco
  have HGt : Hid (∀ s ∈ lt, s.good) := hgt
  have HCt : Hid (lt ≠ [] → ∃ b off, at0 = some ⟨b, off, none⟩ ∧ ∀ i s, lt[i]? = some s → ∀ j u, s.cells[j]? = some u → w.cell? ⟨b, off + i * 3 + j, none⟩ = some u) := hct
  clear x1 x2 hgo hco hgt hct hb0 hW0 r0
  have HL := long20 (ws.length : Int)
  have HG := long20 (gs.length : Int)
  have HO := long20 (lo.length : Int)
  have HT := long20 (lt.length : Int)
  by_cases q1 : (2147483647 : Int) ≤ (ws.length : Int)
  · simp only [decide_eq_true q1] at HL
    go_enter Try.func4, Try.ntmps4
    go_upto_region 1 with fail
    rw [HW0.out]
    clear HW0
    go_wp2_with fail
    refine Calls.mono (HL _) ?_
    rintro e w1 ⟨rfl, hw1⟩
    rw [hw1]
    clear hw1 w1
    go_wp2
    all_goals (go_ret; exact ⟨rfl, HB0.out⟩)
  simp only [decide_eq_false q1] at HL
  by_cases q2 : (2147483647 : Int) ≤ (gs.length : Int)
  · simp only [decide_eq_true q2] at HG
    go_enter Try.func4, Try.ntmps4
    go_upto_region 1 with fail
    rw [HW0.out]
    clear HW0
    go_wp2_with fail
    refine Calls.mono (HL _) ?_
    rintro e w1 ⟨rfl, hw1⟩
    rw [hw1]
    clear hw1 w1
    go_wp2_with fail
    refine Calls.mono (HG _) ?_
    rintro e w1 ⟨rfl, hw1⟩
    rw [hw1]
    clear hw1 w1
    go_wp2
    all_goals (go_ret; exact ⟨rfl, HB0.out⟩)
  simp only [decide_eq_false q2] at HG
  by_cases q3 : (2147483647 : Int) ≤ (lo.length : Int)
  · simp only [decide_eq_true q3] at HO
    go_enter Try.func4, Try.ntmps4
    go_upto_region 1 with fail
    rw [HW0.out]
    clear HW0
    go_wp2_with fail
    refine Calls.mono (HL _) ?_
    rintro e w1 ⟨rfl, hw1⟩
    rw [hw1]
    clear hw1 w1
    go_wp2_with fail
    refine Calls.mono (HG _) ?_
    rintro e w1 ⟨rfl, hw1⟩
    rw [hw1]
    clear hw1 w1
    go_wp2_with fail
    refine Calls.mono (HO _) ?_
    rintro e w1 ⟨rfl, hw1⟩
    rw [hw1]
    clear hw1 w1
    go_wp2
    all_goals (go_ret; exact ⟨rfl, HB0.out⟩)
  simp only [decide_eq_false q3] at HO
  by_cases q4 : (2147483647 : Int) ≤ (lt.length : Int)
  · simp only [decide_eq_true q4] at HT
    go_enter Try.func4, Try.ntmps4
    go_upto_region 1 with fail
    rw [HW0.out]
    clear HW0
    go_wp2_with fail
    refine Calls.mono (HL _) ?_
    rintro e w1 ⟨rfl, hw1⟩
    rw [hw1]
    clear hw1 w1
    go_wp2_with fail
    refine Calls.mono (HG _) ?_
    rintro e w1 ⟨rfl, hw1⟩
    rw [hw1]
    clear hw1 w1
    go_wp2_with fail
    refine Calls.mono (HO _) ?_
    rintro e w1 ⟨rfl, hw1⟩
    rw [hw1]
    clear hw1 w1
    go_wp2_with fail
    refine Calls.mono (HT _) ?_
    rintro e w1 ⟨rfl, hw1⟩
    rw [hw1]
    clear hw1 w1
    go_wp2
    all_goals (go_ret; exact ⟨rfl, HB0.out⟩)
  simp only [decide_eq_false q4] at HT
  go_enter Try.func4, Try.ntmps4
  go_upto_region 1 with fail
  rw [HW0.out]
  clear HW0
  go_wp2_with fail
  refine Calls.mono (HL _) ?_
  rintro e w1 ⟨rfl, hw1⟩
  rw [hw1]
  clear hw1 w1
  go_wp2_with fail
  refine Calls.mono (HG _) ?_
  rintro e w1 ⟨rfl, hw1⟩
  rw [hw1]
  clear hw1 w1
  go_wp2_with fail
  refine Calls.mono (HO _) ?_
  rintro e w1 ⟨rfl, hw1⟩
  rw [hw1]
  clear hw1 w1
  go_wp2_with fail
  refine Calls.mono (HT _) ?_
  rintro e w1 ⟨rfl, hw1⟩
  rw [hw1]
  clear hw1 w1
  clear HL HG HO HT c0 c1 c2 c3 hz0
  by_cases nok : ¬ NewOk ws gs
  · have HN : Hid (Calls Try.prog 9 #[.slice av ws.length cv, .slice au gs.length cu0] W0 fun e w' => e = .returned (.tuple #[.pointer none, .int .i64 200]) ∧ Below W0.heap.size W0 w') := new_bad HV.out.1 HV.out.2 nok
    have HNk : Hid (¬ NewOk ws gs) := nok
    clear nok
    go_wp2_with fail
    refine Calls.mono HN.out ?_
    rintro e w1 ⟨rfl, hb1⟩
    have HB1 : Hid (Below W0.heap.size W0 w1) := hb1
    clear hb1 HN
    obtain ⟨W1, hW1⟩ : ∃ W1, W1 = (w1.alloc (.cells #[.int .i64 1, .int .i64 1, .int .i64 1] 3)).alloc (.cells #[.int .i64 0, .int .i64 1, .int .i64 2] 3) := ⟨_, rfl⟩
    have HW1 : Hid ((w1.alloc (.cells #[.int .i64 1, .int .i64 1, .int .i64 1] 3)).alloc (.cells #[.int .i64 0, .int .i64 1, .int .i64 2] 3) = W1) := hW1.symm
    have hs12 := twoE w1
    rw [← hW1] at hs12
    have hB11 : Below w1.heap.size w1 W1 := by rw [hW1]; exact two_alloc _ _ _
    have HN2 : Hid (Calls Try.prog 9 #[.slice (some ⟨w1.heap.size, 0, none⟩) 3 3, .slice (some ⟨w1.heap.size + 1, 0, none⟩) 3 3] W1 fun e w' => e = .returned (.tuple #[.pointer (some ⟨W1.heap.size, 0, none⟩), .int .i64 0]) ∧ IsSy w' W1.heap.size syE ∧ Below W1.heap.size W1 w') := new_good hs12.1 hs12.2 okE
    obtain ⟨t0, ht0⟩ : ∃ t0, t0 = W1.heap.size := ⟨_, rfl⟩
    rw [← ht0] at HN2
    have HT0 : Hid (t0 = W1.heap.size) := ht0
    have HB11 : Hid (Below w1.heap.size w1 W1) := hB11
    clear ht0 hs12 hB11 hW1
    go_wp2_with fail
    rw [HW1.out]
    refine Calls.mono HN2.out ?_
    rintro e w2 ⟨rfl, hI2, hb2⟩
    rw [HT0.out] at hb2
    have HB2 : Hid (Below w1.heap.size w1 w2) := HB11.out.trans (hb2.mono HB11.out.size)
    have HI2 : Hid (IsSy w2 t0 syE) := hI2
    clear hI2 hb2 HN2 HW1 HB11
    go_wp2_with fail
    go_at_call 11
    refine (lives20 _).mono ?_
    rintro e w3 ⟨rfl, hb3⟩
    have HB3 : Hid (Below w1.heap.size w1 w3) := HB2.out.trans (hb3.mono HB2.out.size)
    have HI3 : Hid (IsSy w3 t0 syE) := HI2.out.below hb3 HI2.out.lt
    have HB4 : Hid (Below W0.heap.size W0 w3) := HB1.out.trans (HB3.out.mono HB1.out.size)
    clear hb3 HB2 HI2 HB3 HI3 HB1
    have HN4 : Hid (Calls Try.prog 10 #[.slice av ws.length cv, .slice au gs.length cu0] w3 fun e w' => e = .returned (.tuple #[.pointer none, .int .i64 200]) ∧ Below w3.heap.size w3 w') := refNew_bad (HV.out.1.below HB4.out) (HV.out.2.below HB4.out) HNk.out
    go_wp2_with fail
    refine Calls.mono HN4.out ?_
    rintro e w4 ⟨rfl, hb4⟩
    have HB5 : Hid (Below w.heap.size w w4) := by
      have h5 := HB4.out.trans (hb4.mono HB4.out.size)
      exact HB0.out.trans (h5.mono HB0.out.size)
    clear hb4 HN4 HB4
    go_wp2
    all_goals (go_ret; exact ⟨rfl, HB5.out⟩)
  have ok : NewOk ws gs := Classical.not_not.1 nok
  clear nok
  have HOK : Hid (NewOk ws gs) := ok
  have HD : Hid (syD ws gs).Good := ok.good
  have HE : Hid syE.Good := okE.good
  have HN : Hid (Calls Try.prog 9 #[.slice av ws.length cv, .slice au gs.length cu0] W0 fun e w' => e = .returned (.tuple #[.pointer (some ⟨W0.heap.size, 0, none⟩), .int .i64 0]) ∧ IsSy w' W0.heap.size (syD ws gs) ∧ Below W0.heap.size W0 w') := new_good HV.out.1 HV.out.2 ok
  have hl31 : lo.length < 2147483647 := by omega
  have hl32 : lt.length < 2147483647 := by omega
  clear q1 q2 q3 q4 l1 l2 l3 l4
  obtain ⟨s, hs⟩ : ∃ s, s = W0.heap.size := ⟨_, rfl⟩
  rw [← hs] at HN
  have HSs : Hid (s = W0.heap.size) := hs
  clear hs ok
  go_wp2_with fail
  refine Calls.mono HN.out ?_
  rintro e w1 ⟨rfl, hI, hb1⟩
  rw [HSs.out] at hb1
  have HI1 : Hid (IsSy w1 s (syD ws gs)) := hI
  have HB1 : Hid (Below W0.heap.size W0 w1) := hb1
  clear hI hb1 HN
  obtain ⟨W1, hW1⟩ : ∃ W1, W1 = (w1.alloc (.cells #[.int .i64 1, .int .i64 1, .int .i64 1] 3)).alloc (.cells #[.int .i64 0, .int .i64 1, .int .i64 2] 3) := ⟨_, rfl⟩
  have HW1 : Hid ((w1.alloc (.cells #[.int .i64 1, .int .i64 1, .int .i64 1] 3)).alloc (.cells #[.int .i64 0, .int .i64 1, .int .i64 2] 3) = W1) := hW1.symm
  have hs12 := twoE w1
  rw [← hW1] at hs12
  have hB11 : Below w1.heap.size w1 W1 := by rw [hW1]; exact two_alloc _ _ _
  have HN2 : Hid (Calls Try.prog 9 #[.slice (some ⟨w1.heap.size, 0, none⟩) 3 3, .slice (some ⟨w1.heap.size + 1, 0, none⟩) 3 3] W1 fun e w' => e = .returned (.tuple #[.pointer (some ⟨W1.heap.size, 0, none⟩), .int .i64 0]) ∧ IsSy w' W1.heap.size syE ∧ Below W1.heap.size W1 w') := new_good hs12.1 hs12.2 okE
  obtain ⟨t0, ht0⟩ : ∃ t0, t0 = W1.heap.size := ⟨_, rfl⟩
  rw [← ht0] at HN2
  have HT0 : Hid (t0 = W1.heap.size) := ht0
  have HB11 : Hid (Below w1.heap.size w1 W1) := hB11
  clear ht0 hs12 hB11 hW1
  go_wp2_with fail
  rw [HW1.out]
  refine Calls.mono HN2.out ?_
  rintro e w2 ⟨rfl, hI2, hb2⟩
  rw [HT0.out] at hb2
  have HB2 : Hid (Below w1.heap.size w1 w2) := HB11.out.trans (hb2.mono HB11.out.size)
  have HI2 : Hid (IsSy w2 t0 syE) := hI2
  clear hI2 hb2 HN2 HW1 HB11
  go_wp2_with fail
  go_at_call 11
  refine (lives20 _).mono ?_
  rintro e w3 ⟨rfl, hb3⟩
  have HB3 : Hid (Below w1.heap.size w1 w3) := HB2.out.trans (hb3.mono HB2.out.size)
  have HI3 : Hid (IsSy w3 t0 syE) := HI2.out.below hb3 HI2.out.lt
  have HJ3 : Hid (IsSy w3 s (syD ws gs)) := HI1.out.below HB3.out HI1.out.lt
  have HB4 : Hid (Below W0.heap.size W0 w3) := HB1.out.trans (HB3.out.mono HB1.out.size)
  clear hb3 HB2 HI2 HB3 HB1 HI1
  have HN4 : Hid (Calls Try.prog 12 #[.pointer (some ⟨s, 0, none⟩)] w3 fun e w' => e = .returned (.tuple #[.pointer (some ⟨w3.heap.size, 0, none⟩), .int .i64 0]) ∧ IsAc w' w3.heap.size s ac0 ∧ Below w3.heap.size w3 w') := newAcks_yes HD.out HJ3.out
  obtain ⟨pa, hpa⟩ : ∃ x, x = w3.heap.size := ⟨_, rfl⟩
  rw [← hpa] at HN4
  have HPpa : Hid (pa = w3.heap.size) := hpa
  clear hpa
  go_wp2_with fail
  refine Calls.mono HN4.out ?_
  rintro e w4 ⟨rfl, hA, hb⟩
  rw [HPpa.out] at hb
  have HApa : Hid (IsAc w4 pa s ac0) := hA
  have HI4 : Hid (IsSy w4 t0 syE) := HI3.out.below hb HI3.out.lt
  have HJ4 : Hid (IsSy w4 s (syD ws gs)) := HJ3.out.below hb HJ3.out.lt
  have HBB4 : Hid (Below w3.heap.size w3 w4) := hb
  clear hA hb HN4
  have HN5 : Hid (Calls Try.prog 12 #[.pointer (some ⟨s, 0, none⟩)] w4 fun e w' => e = .returned (.tuple #[.pointer (some ⟨w4.heap.size, 0, none⟩), .int .i64 0]) ∧ IsAc w' w4.heap.size s ac0 ∧ Below w4.heap.size w4 w') := newAcks_yes HD.out HJ4.out
  obtain ⟨pb, hpb⟩ : ∃ x, x = w4.heap.size := ⟨_, rfl⟩
  rw [← hpb] at HN5
  have HPpb : Hid (pb = w4.heap.size) := hpb
  clear hpb
  go_wp2_with fail
  refine Calls.mono HN5.out ?_
  rintro e w5 ⟨rfl, hA, hb⟩
  rw [HPpb.out] at hb
  have HApb : Hid (IsAc w5 pb s ac0) := hA
  have HI5 : Hid (IsSy w5 t0 syE) := HI4.out.below hb HI4.out.lt
  have HJ5 : Hid (IsSy w5 s (syD ws gs)) := HJ4.out.below hb HJ4.out.lt
  have HBB5 : Hid (Below w4.heap.size w4 w5) := hb
  clear hA hb HN5
  have HN6 : Hid (Calls Try.prog 12 #[.pointer (some ⟨t0, 0, none⟩)] w5 fun e w' => e = .returned (.tuple #[.pointer (some ⟨w5.heap.size, 0, none⟩), .int .i64 0]) ∧ IsAc w' w5.heap.size t0 ac0 ∧ Below w5.heap.size w5 w') := newAcks_yes HE.out HI5.out
  obtain ⟨pc, hpc⟩ : ∃ x, x = w5.heap.size := ⟨_, rfl⟩
  rw [← hpc] at HN6
  have HPpc : Hid (pc = w5.heap.size) := hpc
  clear hpc
  go_wp2_with fail
  refine Calls.mono HN6.out ?_
  rintro e w6 ⟨rfl, hA, hb⟩
  rw [HPpc.out] at hb
  have HApc : Hid (IsAc w6 pc t0 ac0) := hA
  have HI6 : Hid (IsSy w6 t0 syE) := HI5.out.below hb HI5.out.lt
  have HJ6 : Hid (IsSy w6 s (syD ws gs)) := HJ5.out.below hb HJ5.out.lt
  have HBB6 : Hid (Below w5.heap.size w5 w6) := hb
  clear hA hb HN6
  have HB6 : Hid (Below W0.heap.size W0 w6) := by
    have h1 := HB4.out.trans (HBB4.out.mono HB4.out.size)
    have h2 := h1.trans (HBB5.out.mono h1.size)
    exact h2.trans (HBB6.out.mono h2.size)
  have HL6 : Hid (s < pa ∧ t0 < pa ∧ pa < pb ∧ pb < pc ∧ pc < w6.heap.size ∧ w.heap.size ≤ s) :=
    ⟨by rw [HPpa.out]; exact HJ3.out.lt, by rw [HPpa.out]; exact HI3.out.lt, by rw [HPpb.out]; exact HApa.out.lt, by rw [HPpc.out]; exact HApb.out.lt, HApc.out.lt, by rw [HSs.out]; exact HB0.out.size⟩
  have HQ6 : Hid (IsAc w6 pa s ac0 ∧ IsAc w6 pb s ac0) := ⟨(HApa.out.below HBB5.out HApa.out.lt).below HBB6.out (HApa.out.below HBB5.out HApa.out.lt).lt, HApb.out.below HBB6.out HApb.out.lt⟩
  clear HB4 HBB4 HBB5 HBB6 HPpa HPpb HPpc HApa HApb HI3 HI4 HI5 HJ3 HJ4 HJ5 HSs HT0
  have HN7 : Hid (Calls Try.prog 10 #[.slice av ws.length cv, .slice au gs.length cu0] w6 fun e w' => ∃ r, e = .returned (.tuple #[.pointer (some ⟨r, 0, none⟩), .int .i64 0]) ∧ w6.heap.size ≤ r ∧ IsDo w' r w6.heap.size ws gs ∧ Below w6.heap.size w6 w') := refNew_good (HV.out.1.below HB6.out) (HV.out.2.below HB6.out) HOK.out
  go_wp2_with fail
  refine Calls.mono HN7.out ?_
  rintro e w7 ⟨r, rfl, _, hd7, hb7⟩
  have HD7 : Hid (IsDo w7 r w6.heap.size ws gs) := hd7
  have HB7 : Hid (Below w6.heap.size w6 w7) := hb7
  clear hd7 hb7 HN7 HV
  obtain ⟨W1, hW1⟩ : ∃ W1, W1 = (w7.alloc (.cells #[.int .i64 1, .int .i64 1, .int .i64 1] 3)).alloc (.cells #[.int .i64 0, .int .i64 1, .int .i64 2] 3) := ⟨_, rfl⟩
  have HW1 : Hid ((w7.alloc (.cells #[.int .i64 1, .int .i64 1, .int .i64 1] 3)).alloc (.cells #[.int .i64 0, .int .i64 1, .int .i64 2] 3) = W1) := hW1.symm
  have hs12 := twoE w7
  rw [← hW1] at hs12
  have hB11 : Below w7.heap.size w7 W1 := by rw [hW1]; exact two_alloc _ _ _
  have HN8 : Hid (Calls Try.prog 10 #[.slice (some ⟨w7.heap.size, 0, none⟩) 3 3, .slice (some ⟨w7.heap.size + 1, 0, none⟩) 3 3] W1 fun e w' => ∃ r, e = .returned (.tuple #[.pointer (some ⟨r, 0, none⟩), .int .i64 0]) ∧ W1.heap.size ≤ r ∧ IsDo w' r W1.heap.size [1, 1, 1] [0, 1, 2] ∧ Below W1.heap.size W1 w') := refNew_good hs12.1 hs12.2 okE
  have HB11 : Hid (Below w7.heap.size w7 W1) := hB11
  clear hs12 hB11 hW1
  go_wp2_with fail
  rw [HW1.out]
  refine Calls.mono HN8.out ?_
  rintro e w8 ⟨x, rfl, _, hd8, hb8⟩
  have HB8 : Hid (Below w6.heap.size w6 w8) := by
    have h1 := HB7.out.trans (HB11.out.mono HB7.out.size)
    exact h1.trans (hb8.mono h1.size)
  have HD8 : Hid (IsDo w8 r w6.heap.size ws gs ∧ IsDo w8 x w6.heap.size [1, 1, 1] [0, 1, 2]) := by
    refine ⟨(HD7.out.below HB11.out).below hb8, hd8.mono ?_⟩
    have h1 := HB7.out.size
    have h2 := HB11.out.size
    omega
  have HI8 : Hid (IsSy w8 t0 syE ∧ IsSy w8 s (syD ws gs)) := ⟨HI6.out.below HB8.out HI6.out.lt, HJ6.out.below HB8.out HJ6.out.lt⟩
  have HQ8 : Hid (IsAc w8 pa s ac0 ∧ IsAc w8 pb s ac0 ∧ IsAc w8 pc t0 ac0) := ⟨HQ6.out.1.below HB8.out HQ6.out.1.lt, HQ6.out.2.below HB8.out HQ6.out.2.lt, HApc.out.below HB8.out HApc.out.lt⟩
  have HB88 : Hid (Below w.heap.size w w8) := by
    have h1 := HB0.out.trans (HB6.out.mono HB0.out.size)
    exact h1.trans (HB8.out.mono h1.size)
  have HL8 : Hid (w6.heap.size ≤ w8.heap.size) := HB8.out.size
  clear hb8 hd8 HN8 HD7 HB7 HB11 HW1 HI6 HJ6 HQ6 HApc HB6 HB8 HB0
  have HN9 : Hid (Calls Try.prog 15 #[.pointer (some ⟨r, 0, none⟩)] w8 fun e w' => e = .returned (.pointer (some ⟨w8.heap.size, 0, none⟩)) ∧ Rax w' w8.heap.size w'.heap.size r ws.length ac0 ∧ Below w8.heap.size w8 w') := newAcks_x HD8.out.1.ds HOK.out
  obtain ⟨Ba, hBa⟩ : ∃ x, x = w8.heap.size := ⟨_, rfl⟩
  rw [← hBa] at HN9
  have HPBa : Hid (Ba = w8.heap.size) := hBa
  clear hBa
  go_wp2_with fail
  refine Calls.mono HN9.out ?_
  rintro e w9 ⟨rfl, hA, hb⟩
  rw [HPBa.out] at hb
  have HABa : Hid (Rax w9 Ba w9.heap.size r ws.length ac0) := hA
  have HC9 : Hid (Below w8.heap.size w8 w9) := hb
  clear hA hb HN9
  have HN10 : Hid (Calls Try.prog 15 #[.pointer (some ⟨r, 0, none⟩)] w9 fun e w' => e = .returned (.pointer (some ⟨w9.heap.size, 0, none⟩)) ∧ Rax w' w9.heap.size w'.heap.size r ws.length ac0 ∧ Below w9.heap.size w9 w') := newAcks_x (HD8.out.1.below HC9.out).ds HOK.out
  obtain ⟨Bb, hBb⟩ : ∃ x, x = w9.heap.size := ⟨_, rfl⟩
  rw [← hBb] at HN10
  have HPBb : Hid (Bb = w9.heap.size) := hBb
  clear hBb
  go_wp2_with fail
  refine Calls.mono HN10.out ?_
  rintro e w10 ⟨rfl, hA, hb⟩
  rw [HPBb.out] at hb
  have HABb : Hid (Rax w10 Bb w10.heap.size r ws.length ac0) := hA
  have HC10 : Hid (Below w9.heap.size w9 w10) := hb
  clear hA hb HN10
  have HN11 : Hid (Calls Try.prog 15 #[.pointer (some ⟨x, 0, none⟩)] w10 fun e w' => e = .returned (.pointer (some ⟨w10.heap.size, 0, none⟩)) ∧ Rax w' w10.heap.size w'.heap.size x 3 ac0 ∧ Below w10.heap.size w10 w') := newAcks_x ((HD8.out.2.below HC9.out).below HC10.out).ds okE
  obtain ⟨Bc, hBc⟩ : ∃ x, x = w10.heap.size := ⟨_, rfl⟩
  rw [← hBc] at HN11
  have HPBc : Hid (Bc = w10.heap.size) := hBc
  clear hBc
  go_wp2_with fail
  refine Calls.mono HN11.out ?_
  rintro e w11 ⟨rfl, hA, hb⟩
  rw [HPBc.out] at hb
  have HABc : Hid (Rax w11 Bc w11.heap.size x 3 ac0) := hA
  have HC11 : Hid (Below w10.heap.size w10 w11) := hb
  clear hA hb HN11
  obtain ⟨Bd, hBd⟩ : ∃ x, x = w11.heap.size := ⟨_, rfl⟩
  obtain ⟨R6, hR6⟩ : ∃ x, x = w6.heap.size := ⟨_, rfl⟩
  obtain ⟨d, e1, e2, e3, e4, e5, e6, e7, e8, e9, e10, e11, e12⟩ : ∃ d : Adr, d.s = s ∧ d.t = t0 ∧ d.pa = pa ∧ d.pb = pb ∧ d.pc = pc ∧ d.r = r ∧ d.u = x ∧ d.R = R6 ∧ d.Ba = Ba ∧ d.Bb = Bb ∧ d.Bc = Bc ∧ d.Bd = Bd := ⟨⟨s, t0, pa, pb, pc, r, x, R6, Ba, Bb, Bc, Bd⟩, rfl, rfl, rfl, rfl, rfl, rfl, rfl, rfl, rfl, rfl, rfl, rfl⟩
  subst e1 e2 e3 e4 e5 e6 e7 e8 e9 e10 e11 e12
  have HWd0 : Hid (Wd w w8 w11 d ws gs ac0 ac0 ac0 ac0 ac0 ac0) := by
    obtain ⟨m1, m2, m3, m4, m5, m6⟩ := HL6.out
    have hc1 := HC9.out
    have hc2 := hc1.trans (HC10.out.mono hc1.size)
    have hc3 := hc2.trans (HC11.out.mono hc2.size)
    have hr1 := HABa.out
    have hr2 := HABb.out
    have hr3 := HABc.out
    rw [← HPBb.out] at hr1
    rw [← HPBc.out] at hr2
    rw [← hBd] at hr3
    have hl8 := HL8.out
    rw [← hR6] at m5 hl8
    have hd8 := HD8.out
    rw [← hR6] at hd8
    exact ⟨HI8.out.2, HI8.out.1, hd8.1, hd8.2, kept_of_below hc3, HB88.out.trans (hc3.mono HB88.out.size), m6, m1, m2, m3, m4, m5, hl8, by rw [HPBa.out]; exact Nat.le_refl _, hr1.lt.2, hr2.lt.2,
      HQ8.out.1.below hc3 HQ8.out.1.lt, HQ8.out.2.1.below hc3 HQ8.out.2.1.lt, HQ8.out.2.2.below hc3 HQ8.out.2.2.lt, (hr1.below HC10.out).below HC11.out, hr2.below HC11.out, hr3⟩
  clear hBd hR6 HL6 HC9 HC10 HC11 HABa HABb HABc HPBa HPBb HPBc HL8 HD8 HI8 HQ8 HB88
  go_wp2
  go_loopw [27] (fun vi wr => ∃ (i : Nat) (A B C : AcD), i ≤ lo.length + lt.length ∧ vi = .int .i64 (i : Int) ∧ Hid (A.so < 256 ∧ B.so < 256 ∧ C.so < 256) ∧ Hid (Wd w w8 wr d ws gs A A B B C C)) (fun vi _ => lo.length + lt.length - (intOf vi).toNat)
  case atStart => exact ⟨0, ac0, ac0, ac0, by omega, rfl, ⟨by decide, by decide, by decide⟩, HWd0.out⟩
  case round =>
    clear HWd0
    obtain ⟨i, A, B, C, hi, rfl, HSo, HW⟩ := hrel
    have hi0 : (0 : Int) ≤ (i : Int) := by omega
    obtain ⟨wo, hwo⟩ : ∃ wo, wo = wr := ⟨_, rfl⟩
    have HWo : Hid (wo = wr) := hwo
    clear hwo HWo wo
    by_cases hlto : i < lo.length
    · by_cases hltt : i < lt.length
      · have hio : (i : Int) < (lo.length : Int) := by omega
        obtain ⟨bo, offo, hapo, hclo⟩ := HCo.out (fun q => by rw [q] at hlto; simp at hlto)
        subst hapo
        obtain ⟨⟨vo, eo, mo⟩, hpto⟩ : ∃ s, lo[i]? = some s := ⟨lo[i], List.getElem?_eq_getElem hlto⟩
        have hgdo := HGo.out _ (List.mem_of_getElem? hpto)
        have HGdo : Hid (-128 ≤ vo ∧ vo ≤ 127) := hgdo.1
        have hc0o : w.cell? ⟨bo, offo + i * 3, none⟩ = some (.int .i8 vo) := hclo i _ hpto 0 _ rfl
        have hc1o : w.cell? ⟨bo, offo + i * 3 + 1, none⟩ = some (.int .u32 eo) := hclo i _ hpto 1 _ rfl
        have hc2o : w.cell? ⟨bo, offo + i * 3 + 2, none⟩ = some (.int .u32 mo) := hclo i _ hpto 2 _ rfl
        have hblo : bo < w.heap.size := World.block_lt_of_cell? w _ hc0o
        have HKo : Hid (∀ W, Below w.heap.size w W → W.cell? ⟨bo, offo + i * 3, none⟩ = some (.int .i8 vo) ∧ W.cell? ⟨bo, offo + i * 3 + 1, none⟩ = some (.int .u32 eo) ∧ W.cell? ⟨bo, offo + i * 3 + 2, none⟩ = some (.int .u32 mo)) := fun W h => ⟨(h.cell hblo).trans hc0o, (h.cell hblo).trans hc1o, (h.cell hblo).trans hc2o⟩
        clear hclo hpto hgdo hc0o hc1o hc2o hblo
        have hit : (i : Int) < (lt.length : Int) := by omega
        obtain ⟨bt, offt, hapt, hclt⟩ := HCt.out (fun q => by rw [q] at hltt; simp at hltt)
        subst hapt
        obtain ⟨⟨vt, et, mt⟩, hptt⟩ : ∃ s, lt[i]? = some s := ⟨lt[i], List.getElem?_eq_getElem hltt⟩
        have hgdt := HGt.out _ (List.mem_of_getElem? hptt)
        have HGdt : Hid (-128 ≤ vt ∧ vt ≤ 127) := hgdt.1
        have hc0t : w.cell? ⟨bt, offt + i * 3, none⟩ = some (.int .i8 vt) := hclt i _ hptt 0 _ rfl
        have hc1t : w.cell? ⟨bt, offt + i * 3 + 1, none⟩ = some (.int .u32 et) := hclt i _ hptt 1 _ rfl
        have hc2t : w.cell? ⟨bt, offt + i * 3 + 2, none⟩ = some (.int .u32 mt) := hclt i _ hptt 2 _ rfl
        have hblt : bt < w.heap.size := World.block_lt_of_cell? w _ hc0t
        have HKt : Hid (∀ W, Below w.heap.size w W → W.cell? ⟨bt, offt + i * 3, none⟩ = some (.int .i8 vt) ∧ W.cell? ⟨bt, offt + i * 3 + 1, none⟩ = some (.int .u32 et) ∧ W.cell? ⟨bt, offt + i * 3 + 2, none⟩ = some (.int .u32 mt)) := fun W h => ⟨(h.cell hblt).trans hc0t, (h.cell hblt).trans hc1t, (h.cell hblt).trans hc2t⟩
        clear hclt hptt hgdt hc0t hc1t hc2t hblt
        have G27 := HKo.out _ HW.out.be
        have HP27 : Hid (Calls Try.prog 20 #[.pointer (some ⟨d.pa, 0, none⟩), .int .i8 vo, zx eo mo] wr.drew fun y w' => y = .returned (.int .i64 (putE (syD ws gs) vo)) ∧ IsAc w' d.pa d.s (A.putV (syD ws gs) vo eo mo) ∧ Kept wr.drew w' (fun k => k = d.pa)) := put_gen HD.out HW.out.drew.sy1 HW.out.drew.pA HSo.out.1 vo eo mo HGdo.out.1 HGdo.out.2
        go_wp2_with fail
        refine wp_region_held_drew (S := (fun W => W.cell? ⟨bo, offo + i * 3, none⟩ = some (.int .i8 vo) ∧ W.cell? ⟨bo, offo + i * 3 + 1, none⟩ = some (.int .u32 eo) ∧ W.cell? ⟨bo, offo + i * 3 + 2, none⟩ = some (.int .u32 mo))) (by kernel_rfl) ?_ (fun hHeld => ?_)
        · exact G27
        refine wpAnyH_take (i := 0) (oi := { dst := some 164, op := Op.move (Operand.tmp 14), type := 33, pos := "law.go:164", after := #[], guard := none }) (v := ?_) rfl (by kernel_rfl) (by kernel_rfl) (by kernel_rfl) (fun _ _ _ h => h) (Or.inl ⟨by rfl, ?_⟩) (by assumption) ?_
        rotate_left
        · (intro w hSw; (try dsimp only at hSw); go_simp) <;> with_reducible rfl
        try simp only [Act.put, List.setIfInBounds_toArray, List.set_cons_zero, List.set_cons_succ]
        refine wpAnyH_take (i := 1) (oi := { dst := some 165, op := Op.move (Operand.tmp 5), type := 23, pos := "law.go:164", after := #[], guard := none }) (v := ?_) rfl (by kernel_rfl) (by kernel_rfl) (by kernel_rfl) (fun _ _ _ h => h) (Or.inl ⟨by rfl, ?_⟩) (by assumption) ?_
        rotate_left
        · (intro w hSw; (try dsimp only at hSw); go_simp) <;> with_reducible rfl
        try simp only [Act.put, List.setIfInBounds_toArray, List.set_cons_zero, List.set_cons_succ]
        refine wpAnyH_take (i := 2) (oi := { dst := some 166, op := Op.move (Operand.tmp 27), type := 3, pos := "law.go:164", after := #[], guard := none }) (v := ?_) rfl (by kernel_rfl) (by kernel_rfl) (by kernel_rfl) (fun _ _ _ h => h) (Or.inl ⟨by rfl, ?_⟩) (by assumption) ?_
        rotate_left
        · (intro w hSw; (try dsimp only at hSw); go_simp) <;> with_reducible rfl
        try simp only [Act.put, List.setIfInBounds_toArray, List.set_cons_zero, List.set_cons_succ]
        refine wpAnyH_take (i := 3) (oi := { dst := some 167, op := Op.indexAddr 23 (Operand.tmp 165) (Operand.tmp 166), type := 0, pos := "law.go:164", after := #[{ on := 1, ground := Ground.data }, { on := 2, ground := Ground.data }], guard := none }) (v := ?_) rfl (by kernel_rfl) (by kernel_rfl) (by kernel_rfl) (fun _ _ _ h => h) (Or.inl ⟨by rfl, ?_⟩) (by assumption) ?_
        rotate_left
        · (intro w hSw; (try dsimp only at hSw); go_simp) <;> with_reducible rfl
        try simp only [Act.put, List.setIfInBounds_toArray, List.set_cons_zero, List.set_cons_succ]
        refine wpAnyH_take (i := 4) (oi := { dst := some 168, op := Op.fieldAddr 50 (Operand.tmp 167) 0, type := 0, pos := "law.go:164", after := #[{ on := 3, ground := Ground.data }], guard := none }) (v := ?_) rfl (by kernel_rfl) (by kernel_rfl) (by kernel_rfl) (fun _ _ _ h => h) (Or.inl ⟨by rfl, ?_⟩) (by assumption) ?_
        rotate_left
        · (intro w hSw; (try dsimp only at hSw); go_simp) <;> with_reducible rfl
        try simp only [Act.put, List.setIfInBounds_toArray, List.set_cons_zero, List.set_cons_succ]
        refine wpAnyH_take (i := 5) (oi := { dst := some 169, op := Op.load 48 (Operand.tmp 168), type := 48, pos := "law.go:164", after := #[{ on := 4, ground := Ground.data }], guard := none }) (v := ?_) rfl (by kernel_rfl) (by kernel_rfl) (by kernel_rfl) (fun _ _ _ h => h) (Or.inl ⟨by rfl, ?_⟩) (by assumption) ?_
        rotate_left
        · (intro w hSw; (try dsimp only at hSw); go_simp) <;> with_reducible rfl
        try simp only [Act.put, List.setIfInBounds_toArray, List.set_cons_zero, List.set_cons_succ]
        refine wpAnyH_take (i := 6) (oi := { dst := some 170, op := Op.move (Operand.tmp 5), type := 23, pos := "law.go:164", after := #[], guard := none }) (v := ?_) rfl (by kernel_rfl) (by kernel_rfl) (by kernel_rfl) (fun _ _ _ h => h) (Or.inl ⟨by rfl, ?_⟩) (by assumption) ?_
        rotate_left
        · (intro w hSw; (try dsimp only at hSw); go_simp) <;> with_reducible rfl
        try simp only [Act.put, List.setIfInBounds_toArray, List.set_cons_zero, List.set_cons_succ]
        refine wpAnyH_take (i := 7) (oi := { dst := some 171, op := Op.move (Operand.tmp 27), type := 3, pos := "law.go:164", after := #[], guard := none }) (v := ?_) rfl (by kernel_rfl) (by kernel_rfl) (by kernel_rfl) (fun _ _ _ h => h) (Or.inl ⟨by rfl, ?_⟩) (by assumption) ?_
        rotate_left
        · (intro w hSw; (try dsimp only at hSw); go_simp) <;> with_reducible rfl
        try simp only [Act.put, List.setIfInBounds_toArray, List.set_cons_zero, List.set_cons_succ]
        refine wpAnyH_take (i := 8) (oi := { dst := some 172, op := Op.indexAddr 23 (Operand.tmp 170) (Operand.tmp 171), type := 0, pos := "law.go:164", after := #[{ on := 6, ground := Ground.data }, { on := 7, ground := Ground.data }], guard := none }) (v := ?_) rfl (by kernel_rfl) (by kernel_rfl) (by kernel_rfl) (fun _ _ _ h => h) (Or.inl ⟨by rfl, ?_⟩) (by assumption) ?_
        rotate_left
        · (intro w hSw; (try dsimp only at hSw); go_simp) <;> with_reducible rfl
        try simp only [Act.put, List.setIfInBounds_toArray, List.set_cons_zero, List.set_cons_succ]
        refine wpAnyH_take (i := 9) (oi := { dst := some 173, op := Op.fieldAddr 50 (Operand.tmp 172) 1, type := 0, pos := "law.go:164", after := #[{ on := 8, ground := Ground.data }], guard := none }) (v := ?_) rfl (by kernel_rfl) (by kernel_rfl) (by kernel_rfl) (fun _ _ _ h => h) (Or.inl ⟨by rfl, ?_⟩) (by assumption) ?_
        rotate_left
        · (intro w hSw; (try dsimp only at hSw); go_simp) <;> with_reducible rfl
        try simp only [Act.put, List.setIfInBounds_toArray, List.set_cons_zero, List.set_cons_succ]
        refine wpAnyH_take (i := 10) (oi := { dst := some 174, op := Op.load 38 (Operand.tmp 173), type := 38, pos := "law.go:164", after := #[{ on := 9, ground := Ground.data }], guard := none }) (v := ?_) rfl (by kernel_rfl) (by kernel_rfl) (by kernel_rfl) (fun _ _ _ h => h) (Or.inl ⟨by rfl, ?_⟩) (by assumption) ?_
        rotate_left
        · (intro w hSw; (try dsimp only at hSw); go_simp) <;> with_reducible rfl
        try simp only [Act.put, List.setIfInBounds_toArray, List.set_cons_zero, List.set_cons_succ]
        refine wpAnyH_ready (rs := [11]) (by kernel_rfl) (by simp) ?_
        refine AllReadyH.cons (o := { dst := some 175, op := Op.call { callee := Callee.value (Operand.func 20), args := #[Operand.tmp 164, Operand.tmp 169, Operand.tmp 174], argTypes := #[33, 48, 38] }, type := 26, pos := "law.go:164", after := #[{ on := 0, ground := Ground.data }, { on := 5, ground := Ground.data }, { on := 10, ground := Ground.data }], guard := none }) rfl (fun K hK => ?_) AllReadyH.nil
        go_simp
        refine Calls.mono HP27.out ?_
        rintro y w27 ⟨rfl, hA, hk⟩
        have HT27 : Hid (Wd w w8 w27 d ws gs (A.putV (syD ws gs) vo eo mo) A B B C C) := HW.out.drew.putA hA hk
        have G27a := HKo.out _ HT27.out.be
        clear hA hk HP27 HW
        refine hK.out _ _ G27a (fun hHeld => ?_)
        clear hK K
        refine wpAnyH_done (by kernel_rfl) ?_ _
        clear hHeld G27 G27a
        have G28 := HKo.out _ HT27.out.be
        have HP28 : Hid (Calls Try.prog 21 #[.pointer (some ⟨d.Ba, 0, none⟩), .int .i8 vo, zx eo mo] w27.drew fun y w' => y = .returned (.int .i64 (putE (syD ws gs) vo)) ∧ Rax w' d.Ba d.Bb d.r ws.length (A.putV (syD ws gs) vo eo mo) ∧ Kept w27.drew w' (fun k => d.Ba ≤ k ∧ k < d.Bb)) := put_x HOK.out HT27.out.drew.ds1 HT27.out.drew.rA vo eo mo HGdo.out.1 HGdo.out.2
        go_wp2_with fail
        refine wp_region_held_drew (S := (fun W => W.cell? ⟨bo, offo + i * 3, none⟩ = some (.int .i8 vo) ∧ W.cell? ⟨bo, offo + i * 3 + 1, none⟩ = some (.int .u32 eo) ∧ W.cell? ⟨bo, offo + i * 3 + 2, none⟩ = some (.int .u32 mo))) (by kernel_rfl) ?_ (fun hHeld => ?_)
        · exact G28
        refine wpAnyH_take (i := 0) (oi := { dst := some 176, op := Op.move (Operand.tmp 24), type := 43, pos := "law.go:165", after := #[], guard := none }) (v := ?_) rfl (by kernel_rfl) (by kernel_rfl) (by kernel_rfl) (fun _ _ _ h => h) (Or.inl ⟨by rfl, ?_⟩) (by assumption) ?_
        rotate_left
        · (intro w hSw; (try dsimp only at hSw); go_simp) <;> with_reducible rfl
        try simp only [Act.put, List.setIfInBounds_toArray, List.set_cons_zero, List.set_cons_succ]
        refine wpAnyH_take (i := 1) (oi := { dst := some 177, op := Op.move (Operand.tmp 5), type := 23, pos := "law.go:165", after := #[], guard := none }) (v := ?_) rfl (by kernel_rfl) (by kernel_rfl) (by kernel_rfl) (fun _ _ _ h => h) (Or.inl ⟨by rfl, ?_⟩) (by assumption) ?_
        rotate_left
        · (intro w hSw; (try dsimp only at hSw); go_simp) <;> with_reducible rfl
        try simp only [Act.put, List.setIfInBounds_toArray, List.set_cons_zero, List.set_cons_succ]
        refine wpAnyH_take (i := 2) (oi := { dst := some 178, op := Op.move (Operand.tmp 27), type := 3, pos := "law.go:165", after := #[], guard := none }) (v := ?_) rfl (by kernel_rfl) (by kernel_rfl) (by kernel_rfl) (fun _ _ _ h => h) (Or.inl ⟨by rfl, ?_⟩) (by assumption) ?_
        rotate_left
        · (intro w hSw; (try dsimp only at hSw); go_simp) <;> with_reducible rfl
        try simp only [Act.put, List.setIfInBounds_toArray, List.set_cons_zero, List.set_cons_succ]
        refine wpAnyH_take (i := 3) (oi := { dst := some 179, op := Op.indexAddr 23 (Operand.tmp 177) (Operand.tmp 178), type := 0, pos := "law.go:165", after := #[{ on := 1, ground := Ground.data }, { on := 2, ground := Ground.data }], guard := none }) (v := ?_) rfl (by kernel_rfl) (by kernel_rfl) (by kernel_rfl) (fun _ _ _ h => h) (Or.inl ⟨by rfl, ?_⟩) (by assumption) ?_
        rotate_left
        · (intro w hSw; (try dsimp only at hSw); go_simp) <;> with_reducible rfl
        try simp only [Act.put, List.setIfInBounds_toArray, List.set_cons_zero, List.set_cons_succ]
        refine wpAnyH_take (i := 4) (oi := { dst := some 180, op := Op.fieldAddr 50 (Operand.tmp 179) 0, type := 0, pos := "law.go:165", after := #[{ on := 3, ground := Ground.data }], guard := none }) (v := ?_) rfl (by kernel_rfl) (by kernel_rfl) (by kernel_rfl) (fun _ _ _ h => h) (Or.inl ⟨by rfl, ?_⟩) (by assumption) ?_
        rotate_left
        · (intro w hSw; (try dsimp only at hSw); go_simp) <;> with_reducible rfl
        try simp only [Act.put, List.setIfInBounds_toArray, List.set_cons_zero, List.set_cons_succ]
        refine wpAnyH_take (i := 5) (oi := { dst := some 181, op := Op.load 48 (Operand.tmp 180), type := 48, pos := "law.go:165", after := #[{ on := 4, ground := Ground.data }], guard := none }) (v := ?_) rfl (by kernel_rfl) (by kernel_rfl) (by kernel_rfl) (fun _ _ _ h => h) (Or.inl ⟨by rfl, ?_⟩) (by assumption) ?_
        rotate_left
        · (intro w hSw; (try dsimp only at hSw); go_simp) <;> with_reducible rfl
        try simp only [Act.put, List.setIfInBounds_toArray, List.set_cons_zero, List.set_cons_succ]
        refine wpAnyH_take (i := 6) (oi := { dst := some 182, op := Op.move (Operand.tmp 5), type := 23, pos := "law.go:165", after := #[], guard := none }) (v := ?_) rfl (by kernel_rfl) (by kernel_rfl) (by kernel_rfl) (fun _ _ _ h => h) (Or.inl ⟨by rfl, ?_⟩) (by assumption) ?_
        rotate_left
        · (intro w hSw; (try dsimp only at hSw); go_simp) <;> with_reducible rfl
        try simp only [Act.put, List.setIfInBounds_toArray, List.set_cons_zero, List.set_cons_succ]
        refine wpAnyH_take (i := 7) (oi := { dst := some 183, op := Op.move (Operand.tmp 27), type := 3, pos := "law.go:165", after := #[], guard := none }) (v := ?_) rfl (by kernel_rfl) (by kernel_rfl) (by kernel_rfl) (fun _ _ _ h => h) (Or.inl ⟨by rfl, ?_⟩) (by assumption) ?_
        rotate_left
        · (intro w hSw; (try dsimp only at hSw); go_simp) <;> with_reducible rfl
        try simp only [Act.put, List.setIfInBounds_toArray, List.set_cons_zero, List.set_cons_succ]
        refine wpAnyH_take (i := 8) (oi := { dst := some 184, op := Op.indexAddr 23 (Operand.tmp 182) (Operand.tmp 183), type := 0, pos := "law.go:165", after := #[{ on := 6, ground := Ground.data }, { on := 7, ground := Ground.data }], guard := none }) (v := ?_) rfl (by kernel_rfl) (by kernel_rfl) (by kernel_rfl) (fun _ _ _ h => h) (Or.inl ⟨by rfl, ?_⟩) (by assumption) ?_
        rotate_left
        · (intro w hSw; (try dsimp only at hSw); go_simp) <;> with_reducible rfl
        try simp only [Act.put, List.setIfInBounds_toArray, List.set_cons_zero, List.set_cons_succ]
        refine wpAnyH_take (i := 9) (oi := { dst := some 185, op := Op.fieldAddr 50 (Operand.tmp 184) 1, type := 0, pos := "law.go:165", after := #[{ on := 8, ground := Ground.data }], guard := none }) (v := ?_) rfl (by kernel_rfl) (by kernel_rfl) (by kernel_rfl) (fun _ _ _ h => h) (Or.inl ⟨by rfl, ?_⟩) (by assumption) ?_
        rotate_left
        · (intro w hSw; (try dsimp only at hSw); go_simp) <;> with_reducible rfl
        try simp only [Act.put, List.setIfInBounds_toArray, List.set_cons_zero, List.set_cons_succ]
        refine wpAnyH_take (i := 10) (oi := { dst := some 186, op := Op.load 38 (Operand.tmp 185), type := 38, pos := "law.go:165", after := #[{ on := 9, ground := Ground.data }], guard := none }) (v := ?_) rfl (by kernel_rfl) (by kernel_rfl) (by kernel_rfl) (fun _ _ _ h => h) (Or.inl ⟨by rfl, ?_⟩) (by assumption) ?_
        rotate_left
        · (intro w hSw; (try dsimp only at hSw); go_simp) <;> with_reducible rfl
        try simp only [Act.put, List.setIfInBounds_toArray, List.set_cons_zero, List.set_cons_succ]
        refine wpAnyH_ready (rs := [11]) (by kernel_rfl) (by simp) ?_
        refine AllReadyH.cons (o := { dst := some 187, op := Op.call { callee := Callee.value (Operand.func 21), args := #[Operand.tmp 176, Operand.tmp 181, Operand.tmp 186], argTypes := #[43, 48, 38] }, type := 26, pos := "law.go:165", after := #[{ on := 0, ground := Ground.data }, { on := 5, ground := Ground.data }, { on := 10, ground := Ground.data }], guard := none }) rfl (fun K hK => ?_) AllReadyH.nil
        go_simp
        refine Calls.mono HP28.out ?_
        rintro y w28 ⟨rfl, hA, hk⟩
        have HT28 : Hid (Wd w w8 w28 d ws gs (A.putV (syD ws gs) vo eo mo) (A.putV (syD ws gs) vo eo mo) B B C C) := HT27.out.drew.refA hA hk
        have G28a := HKo.out _ HT28.out.be
        clear hA hk HP28 HT27
        refine hK.out _ _ G28a (fun hHeld => ?_)
        clear hK K
        refine wpAnyH_done (by kernel_rfl) ?_ _
        clear hHeld G28 G28a
        have G29 := HKo.out _ HT28.out.be
        have HP29 : Hid (Calls Try.prog 20 #[.pointer (some ⟨d.pc, 0, none⟩), .int .i8 vo, zx eo mo] w28.drew fun y w' => y = .returned (.int .i64 (putE syE vo)) ∧ IsAc w' d.pc d.t (C.putV syE vo eo mo) ∧ Kept w28.drew w' (fun k => k = d.pc)) := put_gen HE.out HT28.out.drew.sy2 HT28.out.drew.pC HSo.out.2.2 vo eo mo HGdo.out.1 HGdo.out.2
        go_wp2_with fail
        refine wp_region_held_drew (S := (fun W => W.cell? ⟨bo, offo + i * 3, none⟩ = some (.int .i8 vo) ∧ W.cell? ⟨bo, offo + i * 3 + 1, none⟩ = some (.int .u32 eo) ∧ W.cell? ⟨bo, offo + i * 3 + 2, none⟩ = some (.int .u32 mo))) (by kernel_rfl) ?_ (fun hHeld => ?_)
        · exact G29
        refine wpAnyH_take (i := 0) (oi := { dst := some 188, op := Op.move (Operand.tmp 18), type := 33, pos := "law.go:166", after := #[], guard := none }) (v := ?_) rfl (by kernel_rfl) (by kernel_rfl) (by kernel_rfl) (fun _ _ _ h => h) (Or.inl ⟨by rfl, ?_⟩) (by assumption) ?_
        rotate_left
        · (intro w hSw; (try dsimp only at hSw); go_simp) <;> with_reducible rfl
        try simp only [Act.put, List.setIfInBounds_toArray, List.set_cons_zero, List.set_cons_succ]
        refine wpAnyH_take (i := 1) (oi := { dst := some 189, op := Op.move (Operand.tmp 5), type := 23, pos := "law.go:166", after := #[], guard := none }) (v := ?_) rfl (by kernel_rfl) (by kernel_rfl) (by kernel_rfl) (fun _ _ _ h => h) (Or.inl ⟨by rfl, ?_⟩) (by assumption) ?_
        rotate_left
        · (intro w hSw; (try dsimp only at hSw); go_simp) <;> with_reducible rfl
        try simp only [Act.put, List.setIfInBounds_toArray, List.set_cons_zero, List.set_cons_succ]
        refine wpAnyH_take (i := 2) (oi := { dst := some 190, op := Op.move (Operand.tmp 27), type := 3, pos := "law.go:166", after := #[], guard := none }) (v := ?_) rfl (by kernel_rfl) (by kernel_rfl) (by kernel_rfl) (fun _ _ _ h => h) (Or.inl ⟨by rfl, ?_⟩) (by assumption) ?_
        rotate_left
        · (intro w hSw; (try dsimp only at hSw); go_simp) <;> with_reducible rfl
        try simp only [Act.put, List.setIfInBounds_toArray, List.set_cons_zero, List.set_cons_succ]
        refine wpAnyH_take (i := 3) (oi := { dst := some 191, op := Op.indexAddr 23 (Operand.tmp 189) (Operand.tmp 190), type := 0, pos := "law.go:166", after := #[{ on := 1, ground := Ground.data }, { on := 2, ground := Ground.data }], guard := none }) (v := ?_) rfl (by kernel_rfl) (by kernel_rfl) (by kernel_rfl) (fun _ _ _ h => h) (Or.inl ⟨by rfl, ?_⟩) (by assumption) ?_
        rotate_left
        · (intro w hSw; (try dsimp only at hSw); go_simp) <;> with_reducible rfl
        try simp only [Act.put, List.setIfInBounds_toArray, List.set_cons_zero, List.set_cons_succ]
        refine wpAnyH_take (i := 4) (oi := { dst := some 192, op := Op.fieldAddr 50 (Operand.tmp 191) 0, type := 0, pos := "law.go:166", after := #[{ on := 3, ground := Ground.data }], guard := none }) (v := ?_) rfl (by kernel_rfl) (by kernel_rfl) (by kernel_rfl) (fun _ _ _ h => h) (Or.inl ⟨by rfl, ?_⟩) (by assumption) ?_
        rotate_left
        · (intro w hSw; (try dsimp only at hSw); go_simp) <;> with_reducible rfl
        try simp only [Act.put, List.setIfInBounds_toArray, List.set_cons_zero, List.set_cons_succ]
        refine wpAnyH_take (i := 5) (oi := { dst := some 193, op := Op.load 48 (Operand.tmp 192), type := 48, pos := "law.go:166", after := #[{ on := 4, ground := Ground.data }], guard := none }) (v := ?_) rfl (by kernel_rfl) (by kernel_rfl) (by kernel_rfl) (fun _ _ _ h => h) (Or.inl ⟨by rfl, ?_⟩) (by assumption) ?_
        rotate_left
        · (intro w hSw; (try dsimp only at hSw); go_simp) <;> with_reducible rfl
        try simp only [Act.put, List.setIfInBounds_toArray, List.set_cons_zero, List.set_cons_succ]
        refine wpAnyH_take (i := 6) (oi := { dst := some 194, op := Op.move (Operand.tmp 5), type := 23, pos := "law.go:166", after := #[], guard := none }) (v := ?_) rfl (by kernel_rfl) (by kernel_rfl) (by kernel_rfl) (fun _ _ _ h => h) (Or.inl ⟨by rfl, ?_⟩) (by assumption) ?_
        rotate_left
        · (intro w hSw; (try dsimp only at hSw); go_simp) <;> with_reducible rfl
        try simp only [Act.put, List.setIfInBounds_toArray, List.set_cons_zero, List.set_cons_succ]
        refine wpAnyH_take (i := 7) (oi := { dst := some 195, op := Op.move (Operand.tmp 27), type := 3, pos := "law.go:166", after := #[], guard := none }) (v := ?_) rfl (by kernel_rfl) (by kernel_rfl) (by kernel_rfl) (fun _ _ _ h => h) (Or.inl ⟨by rfl, ?_⟩) (by assumption) ?_
        rotate_left
        · (intro w hSw; (try dsimp only at hSw); go_simp) <;> with_reducible rfl
        try simp only [Act.put, List.setIfInBounds_toArray, List.set_cons_zero, List.set_cons_succ]
        refine wpAnyH_take (i := 8) (oi := { dst := some 196, op := Op.indexAddr 23 (Operand.tmp 194) (Operand.tmp 195), type := 0, pos := "law.go:166", after := #[{ on := 6, ground := Ground.data }, { on := 7, ground := Ground.data }], guard := none }) (v := ?_) rfl (by kernel_rfl) (by kernel_rfl) (by kernel_rfl) (fun _ _ _ h => h) (Or.inl ⟨by rfl, ?_⟩) (by assumption) ?_
        rotate_left
        · (intro w hSw; (try dsimp only at hSw); go_simp) <;> with_reducible rfl
        try simp only [Act.put, List.setIfInBounds_toArray, List.set_cons_zero, List.set_cons_succ]
        refine wpAnyH_take (i := 9) (oi := { dst := some 197, op := Op.fieldAddr 50 (Operand.tmp 196) 1, type := 0, pos := "law.go:166", after := #[{ on := 8, ground := Ground.data }], guard := none }) (v := ?_) rfl (by kernel_rfl) (by kernel_rfl) (by kernel_rfl) (fun _ _ _ h => h) (Or.inl ⟨by rfl, ?_⟩) (by assumption) ?_
        rotate_left
        · (intro w hSw; (try dsimp only at hSw); go_simp) <;> with_reducible rfl
        try simp only [Act.put, List.setIfInBounds_toArray, List.set_cons_zero, List.set_cons_succ]
        refine wpAnyH_take (i := 10) (oi := { dst := some 198, op := Op.load 38 (Operand.tmp 197), type := 38, pos := "law.go:166", after := #[{ on := 9, ground := Ground.data }], guard := none }) (v := ?_) rfl (by kernel_rfl) (by kernel_rfl) (by kernel_rfl) (fun _ _ _ h => h) (Or.inl ⟨by rfl, ?_⟩) (by assumption) ?_
        rotate_left
        · (intro w hSw; (try dsimp only at hSw); go_simp) <;> with_reducible rfl
        try simp only [Act.put, List.setIfInBounds_toArray, List.set_cons_zero, List.set_cons_succ]
        refine wpAnyH_ready (rs := [11]) (by kernel_rfl) (by simp) ?_
        refine AllReadyH.cons (o := { dst := some 199, op := Op.call { callee := Callee.value (Operand.func 20), args := #[Operand.tmp 188, Operand.tmp 193, Operand.tmp 198], argTypes := #[33, 48, 38] }, type := 26, pos := "law.go:166", after := #[{ on := 0, ground := Ground.data }, { on := 5, ground := Ground.data }, { on := 10, ground := Ground.data }], guard := none }) rfl (fun K hK => ?_) AllReadyH.nil
        go_simp
        refine Calls.mono HP29.out ?_
        rintro y w29 ⟨rfl, hA, hk⟩
        have HT29 : Hid (Wd w w8 w29 d ws gs (A.putV (syD ws gs) vo eo mo) (A.putV (syD ws gs) vo eo mo) B B (C.putV syE vo eo mo) C) := HT28.out.drew.putC hA hk
        have G29a := HKo.out _ HT29.out.be
        clear hA hk HP29 HT28
        refine hK.out _ _ G29a (fun hHeld => ?_)
        clear hK K
        refine wpAnyH_done (by kernel_rfl) ?_ _
        clear hHeld G29 G29a
        have G30 := HKo.out _ HT29.out.be
        have HP30 : Hid (Calls Try.prog 21 #[.pointer (some ⟨d.Bc, 0, none⟩), .int .i8 vo, zx eo mo] w29.drew fun y w' => y = .returned (.int .i64 (putE syE vo)) ∧ Rax w' d.Bc d.Bd d.u 3 (C.putV syE vo eo mo) ∧ Kept w29.drew w' (fun k => d.Bc ≤ k ∧ k < d.Bd)) := put_x okE HT29.out.drew.ds2 HT29.out.drew.rC vo eo mo HGdo.out.1 HGdo.out.2
        go_wp2_with fail
        refine wp_region_held_drew (S := (fun W => W.cell? ⟨bo, offo + i * 3, none⟩ = some (.int .i8 vo) ∧ W.cell? ⟨bo, offo + i * 3 + 1, none⟩ = some (.int .u32 eo) ∧ W.cell? ⟨bo, offo + i * 3 + 2, none⟩ = some (.int .u32 mo))) (by kernel_rfl) ?_ (fun hHeld => ?_)
        · exact G30
        refine wpAnyH_take (i := 0) (oi := { dst := some 200, op := Op.move (Operand.tmp 26), type := 43, pos := "law.go:167", after := #[], guard := none }) (v := ?_) rfl (by kernel_rfl) (by kernel_rfl) (by kernel_rfl) (fun _ _ _ h => h) (Or.inl ⟨by rfl, ?_⟩) (by assumption) ?_
        rotate_left
        · (intro w hSw; (try dsimp only at hSw); go_simp) <;> with_reducible rfl
        try simp only [Act.put, List.setIfInBounds_toArray, List.set_cons_zero, List.set_cons_succ]
        refine wpAnyH_take (i := 1) (oi := { dst := some 201, op := Op.move (Operand.tmp 5), type := 23, pos := "law.go:167", after := #[], guard := none }) (v := ?_) rfl (by kernel_rfl) (by kernel_rfl) (by kernel_rfl) (fun _ _ _ h => h) (Or.inl ⟨by rfl, ?_⟩) (by assumption) ?_
        rotate_left
        · (intro w hSw; (try dsimp only at hSw); go_simp) <;> with_reducible rfl
        try simp only [Act.put, List.setIfInBounds_toArray, List.set_cons_zero, List.set_cons_succ]
        refine wpAnyH_take (i := 2) (oi := { dst := some 202, op := Op.move (Operand.tmp 27), type := 3, pos := "law.go:167", after := #[], guard := none }) (v := ?_) rfl (by kernel_rfl) (by kernel_rfl) (by kernel_rfl) (fun _ _ _ h => h) (Or.inl ⟨by rfl, ?_⟩) (by assumption) ?_
        rotate_left
        · (intro w hSw; (try dsimp only at hSw); go_simp) <;> with_reducible rfl
        try simp only [Act.put, List.setIfInBounds_toArray, List.set_cons_zero, List.set_cons_succ]
        refine wpAnyH_take (i := 3) (oi := { dst := some 203, op := Op.indexAddr 23 (Operand.tmp 201) (Operand.tmp 202), type := 0, pos := "law.go:167", after := #[{ on := 1, ground := Ground.data }, { on := 2, ground := Ground.data }], guard := none }) (v := ?_) rfl (by kernel_rfl) (by kernel_rfl) (by kernel_rfl) (fun _ _ _ h => h) (Or.inl ⟨by rfl, ?_⟩) (by assumption) ?_
        rotate_left
        · (intro w hSw; (try dsimp only at hSw); go_simp) <;> with_reducible rfl
        try simp only [Act.put, List.setIfInBounds_toArray, List.set_cons_zero, List.set_cons_succ]
        refine wpAnyH_take (i := 4) (oi := { dst := some 204, op := Op.fieldAddr 50 (Operand.tmp 203) 0, type := 0, pos := "law.go:167", after := #[{ on := 3, ground := Ground.data }], guard := none }) (v := ?_) rfl (by kernel_rfl) (by kernel_rfl) (by kernel_rfl) (fun _ _ _ h => h) (Or.inl ⟨by rfl, ?_⟩) (by assumption) ?_
        rotate_left
        · (intro w hSw; (try dsimp only at hSw); go_simp) <;> with_reducible rfl
        try simp only [Act.put, List.setIfInBounds_toArray, List.set_cons_zero, List.set_cons_succ]
        refine wpAnyH_take (i := 5) (oi := { dst := some 205, op := Op.load 48 (Operand.tmp 204), type := 48, pos := "law.go:167", after := #[{ on := 4, ground := Ground.data }], guard := none }) (v := ?_) rfl (by kernel_rfl) (by kernel_rfl) (by kernel_rfl) (fun _ _ _ h => h) (Or.inl ⟨by rfl, ?_⟩) (by assumption) ?_
        rotate_left
        · (intro w hSw; (try dsimp only at hSw); go_simp) <;> with_reducible rfl
        try simp only [Act.put, List.setIfInBounds_toArray, List.set_cons_zero, List.set_cons_succ]
        refine wpAnyH_take (i := 6) (oi := { dst := some 206, op := Op.move (Operand.tmp 5), type := 23, pos := "law.go:167", after := #[], guard := none }) (v := ?_) rfl (by kernel_rfl) (by kernel_rfl) (by kernel_rfl) (fun _ _ _ h => h) (Or.inl ⟨by rfl, ?_⟩) (by assumption) ?_
        rotate_left
        · (intro w hSw; (try dsimp only at hSw); go_simp) <;> with_reducible rfl
        try simp only [Act.put, List.setIfInBounds_toArray, List.set_cons_zero, List.set_cons_succ]
        refine wpAnyH_take (i := 7) (oi := { dst := some 207, op := Op.move (Operand.tmp 27), type := 3, pos := "law.go:167", after := #[], guard := none }) (v := ?_) rfl (by kernel_rfl) (by kernel_rfl) (by kernel_rfl) (fun _ _ _ h => h) (Or.inl ⟨by rfl, ?_⟩) (by assumption) ?_
        rotate_left
        · (intro w hSw; (try dsimp only at hSw); go_simp) <;> with_reducible rfl
        try simp only [Act.put, List.setIfInBounds_toArray, List.set_cons_zero, List.set_cons_succ]
        refine wpAnyH_take (i := 8) (oi := { dst := some 208, op := Op.indexAddr 23 (Operand.tmp 206) (Operand.tmp 207), type := 0, pos := "law.go:167", after := #[{ on := 6, ground := Ground.data }, { on := 7, ground := Ground.data }], guard := none }) (v := ?_) rfl (by kernel_rfl) (by kernel_rfl) (by kernel_rfl) (fun _ _ _ h => h) (Or.inl ⟨by rfl, ?_⟩) (by assumption) ?_
        rotate_left
        · (intro w hSw; (try dsimp only at hSw); go_simp) <;> with_reducible rfl
        try simp only [Act.put, List.setIfInBounds_toArray, List.set_cons_zero, List.set_cons_succ]
        refine wpAnyH_take (i := 9) (oi := { dst := some 209, op := Op.fieldAddr 50 (Operand.tmp 208) 1, type := 0, pos := "law.go:167", after := #[{ on := 8, ground := Ground.data }], guard := none }) (v := ?_) rfl (by kernel_rfl) (by kernel_rfl) (by kernel_rfl) (fun _ _ _ h => h) (Or.inl ⟨by rfl, ?_⟩) (by assumption) ?_
        rotate_left
        · (intro w hSw; (try dsimp only at hSw); go_simp) <;> with_reducible rfl
        try simp only [Act.put, List.setIfInBounds_toArray, List.set_cons_zero, List.set_cons_succ]
        refine wpAnyH_take (i := 10) (oi := { dst := some 210, op := Op.load 38 (Operand.tmp 209), type := 38, pos := "law.go:167", after := #[{ on := 9, ground := Ground.data }], guard := none }) (v := ?_) rfl (by kernel_rfl) (by kernel_rfl) (by kernel_rfl) (fun _ _ _ h => h) (Or.inl ⟨by rfl, ?_⟩) (by assumption) ?_
        rotate_left
        · (intro w hSw; (try dsimp only at hSw); go_simp) <;> with_reducible rfl
        try simp only [Act.put, List.setIfInBounds_toArray, List.set_cons_zero, List.set_cons_succ]
        refine wpAnyH_ready (rs := [11]) (by kernel_rfl) (by simp) ?_
        refine AllReadyH.cons (o := { dst := some 211, op := Op.call { callee := Callee.value (Operand.func 21), args := #[Operand.tmp 200, Operand.tmp 205, Operand.tmp 210], argTypes := #[43, 48, 38] }, type := 26, pos := "law.go:167", after := #[{ on := 0, ground := Ground.data }, { on := 5, ground := Ground.data }, { on := 10, ground := Ground.data }], guard := none }) rfl (fun K hK => ?_) AllReadyH.nil
        go_simp
        refine Calls.mono HP30.out ?_
        rintro y w30 ⟨rfl, hA, hk⟩
        have HT30 : Hid (Wd w w8 w30 d ws gs (A.putV (syD ws gs) vo eo mo) (A.putV (syD ws gs) vo eo mo) B B (C.putV syE vo eo mo) (C.putV syE vo eo mo)) := HT29.out.drew.refC hA hk
        have G30a := HKo.out _ HT30.out.be
        clear hA hk HP30 HT29
        refine hK.out _ _ G30a (fun hHeld => ?_)
        clear hK K
        refine wpAnyH_done (by kernel_rfl) ?_ _
        clear hHeld G30 G30a
        have G32 := HKt.out _ HT30.out.be
        have HP32 : Hid (Calls Try.prog 20 #[.pointer (some ⟨d.pb, 0, none⟩), .int .i8 vt, zx et mt] w30.drew fun y w' => y = .returned (.int .i64 (putE (syD ws gs) vt)) ∧ IsAc w' d.pb d.s (B.putV (syD ws gs) vt et mt) ∧ Kept w30.drew w' (fun k => k = d.pb)) := put_gen HD.out HT30.out.drew.sy1 HT30.out.drew.pB HSo.out.2.1 vt et mt HGdt.out.1 HGdt.out.2
        go_wp2_with fail
        refine wp_region_held_drew (S := (fun W => W.cell? ⟨bt, offt + i * 3, none⟩ = some (.int .i8 vt) ∧ W.cell? ⟨bt, offt + i * 3 + 1, none⟩ = some (.int .u32 et) ∧ W.cell? ⟨bt, offt + i * 3 + 2, none⟩ = some (.int .u32 mt))) (by kernel_rfl) ?_ (fun hHeld => ?_)
        · exact G32
        refine wpAnyH_take (i := 0) (oi := { dst := some 216, op := Op.move (Operand.tmp 16), type := 33, pos := "law.go:170", after := #[], guard := none }) (v := ?_) rfl (by kernel_rfl) (by kernel_rfl) (by kernel_rfl) (fun _ _ _ h => h) (Or.inl ⟨by rfl, ?_⟩) (by assumption) ?_
        rotate_left
        · (intro w hSw; (try dsimp only at hSw); go_simp) <;> with_reducible rfl
        try simp only [Act.put, List.setIfInBounds_toArray, List.set_cons_zero, List.set_cons_succ]
        refine wpAnyH_take (i := 1) (oi := { dst := some 217, op := Op.move (Operand.tmp 6), type := 23, pos := "law.go:170", after := #[], guard := none }) (v := ?_) rfl (by kernel_rfl) (by kernel_rfl) (by kernel_rfl) (fun _ _ _ h => h) (Or.inl ⟨by rfl, ?_⟩) (by assumption) ?_
        rotate_left
        · (intro w hSw; (try dsimp only at hSw); go_simp) <;> with_reducible rfl
        try simp only [Act.put, List.setIfInBounds_toArray, List.set_cons_zero, List.set_cons_succ]
        refine wpAnyH_take (i := 2) (oi := { dst := some 218, op := Op.move (Operand.tmp 27), type := 3, pos := "law.go:170", after := #[], guard := none }) (v := ?_) rfl (by kernel_rfl) (by kernel_rfl) (by kernel_rfl) (fun _ _ _ h => h) (Or.inl ⟨by rfl, ?_⟩) (by assumption) ?_
        rotate_left
        · (intro w hSw; (try dsimp only at hSw); go_simp) <;> with_reducible rfl
        try simp only [Act.put, List.setIfInBounds_toArray, List.set_cons_zero, List.set_cons_succ]
        refine wpAnyH_take (i := 3) (oi := { dst := some 219, op := Op.indexAddr 23 (Operand.tmp 217) (Operand.tmp 218), type := 0, pos := "law.go:170", after := #[{ on := 1, ground := Ground.data }, { on := 2, ground := Ground.data }], guard := none }) (v := ?_) rfl (by kernel_rfl) (by kernel_rfl) (by kernel_rfl) (fun _ _ _ h => h) (Or.inl ⟨by rfl, ?_⟩) (by assumption) ?_
        rotate_left
        · (intro w hSw; (try dsimp only at hSw); go_simp) <;> with_reducible rfl
        try simp only [Act.put, List.setIfInBounds_toArray, List.set_cons_zero, List.set_cons_succ]
        refine wpAnyH_take (i := 4) (oi := { dst := some 220, op := Op.fieldAddr 50 (Operand.tmp 219) 0, type := 0, pos := "law.go:170", after := #[{ on := 3, ground := Ground.data }], guard := none }) (v := ?_) rfl (by kernel_rfl) (by kernel_rfl) (by kernel_rfl) (fun _ _ _ h => h) (Or.inl ⟨by rfl, ?_⟩) (by assumption) ?_
        rotate_left
        · (intro w hSw; (try dsimp only at hSw); go_simp) <;> with_reducible rfl
        try simp only [Act.put, List.setIfInBounds_toArray, List.set_cons_zero, List.set_cons_succ]
        refine wpAnyH_take (i := 5) (oi := { dst := some 221, op := Op.load 48 (Operand.tmp 220), type := 48, pos := "law.go:170", after := #[{ on := 4, ground := Ground.data }], guard := none }) (v := ?_) rfl (by kernel_rfl) (by kernel_rfl) (by kernel_rfl) (fun _ _ _ h => h) (Or.inl ⟨by rfl, ?_⟩) (by assumption) ?_
        rotate_left
        · (intro w hSw; (try dsimp only at hSw); go_simp) <;> with_reducible rfl
        try simp only [Act.put, List.setIfInBounds_toArray, List.set_cons_zero, List.set_cons_succ]
        refine wpAnyH_take (i := 6) (oi := { dst := some 222, op := Op.move (Operand.tmp 6), type := 23, pos := "law.go:170", after := #[], guard := none }) (v := ?_) rfl (by kernel_rfl) (by kernel_rfl) (by kernel_rfl) (fun _ _ _ h => h) (Or.inl ⟨by rfl, ?_⟩) (by assumption) ?_
        rotate_left
        · (intro w hSw; (try dsimp only at hSw); go_simp) <;> with_reducible rfl
        try simp only [Act.put, List.setIfInBounds_toArray, List.set_cons_zero, List.set_cons_succ]
        refine wpAnyH_take (i := 7) (oi := { dst := some 223, op := Op.move (Operand.tmp 27), type := 3, pos := "law.go:170", after := #[], guard := none }) (v := ?_) rfl (by kernel_rfl) (by kernel_rfl) (by kernel_rfl) (fun _ _ _ h => h) (Or.inl ⟨by rfl, ?_⟩) (by assumption) ?_
        rotate_left
        · (intro w hSw; (try dsimp only at hSw); go_simp) <;> with_reducible rfl
        try simp only [Act.put, List.setIfInBounds_toArray, List.set_cons_zero, List.set_cons_succ]
        refine wpAnyH_take (i := 8) (oi := { dst := some 224, op := Op.indexAddr 23 (Operand.tmp 222) (Operand.tmp 223), type := 0, pos := "law.go:170", after := #[{ on := 6, ground := Ground.data }, { on := 7, ground := Ground.data }], guard := none }) (v := ?_) rfl (by kernel_rfl) (by kernel_rfl) (by kernel_rfl) (fun _ _ _ h => h) (Or.inl ⟨by rfl, ?_⟩) (by assumption) ?_
        rotate_left
        · (intro w hSw; (try dsimp only at hSw); go_simp) <;> with_reducible rfl
        try simp only [Act.put, List.setIfInBounds_toArray, List.set_cons_zero, List.set_cons_succ]
        refine wpAnyH_take (i := 9) (oi := { dst := some 225, op := Op.fieldAddr 50 (Operand.tmp 224) 1, type := 0, pos := "law.go:170", after := #[{ on := 8, ground := Ground.data }], guard := none }) (v := ?_) rfl (by kernel_rfl) (by kernel_rfl) (by kernel_rfl) (fun _ _ _ h => h) (Or.inl ⟨by rfl, ?_⟩) (by assumption) ?_
        rotate_left
        · (intro w hSw; (try dsimp only at hSw); go_simp) <;> with_reducible rfl
        try simp only [Act.put, List.setIfInBounds_toArray, List.set_cons_zero, List.set_cons_succ]
        refine wpAnyH_take (i := 10) (oi := { dst := some 226, op := Op.load 38 (Operand.tmp 225), type := 38, pos := "law.go:170", after := #[{ on := 9, ground := Ground.data }], guard := none }) (v := ?_) rfl (by kernel_rfl) (by kernel_rfl) (by kernel_rfl) (fun _ _ _ h => h) (Or.inl ⟨by rfl, ?_⟩) (by assumption) ?_
        rotate_left
        · (intro w hSw; (try dsimp only at hSw); go_simp) <;> with_reducible rfl
        try simp only [Act.put, List.setIfInBounds_toArray, List.set_cons_zero, List.set_cons_succ]
        refine wpAnyH_ready (rs := [11]) (by kernel_rfl) (by simp) ?_
        refine AllReadyH.cons (o := { dst := some 227, op := Op.call { callee := Callee.value (Operand.func 20), args := #[Operand.tmp 216, Operand.tmp 221, Operand.tmp 226], argTypes := #[33, 48, 38] }, type := 26, pos := "law.go:170", after := #[{ on := 0, ground := Ground.data }, { on := 5, ground := Ground.data }, { on := 10, ground := Ground.data }], guard := none }) rfl (fun K hK => ?_) AllReadyH.nil
        go_simp
        refine Calls.mono HP32.out ?_
        rintro y w32 ⟨rfl, hA, hk⟩
        have HT32 : Hid (Wd w w8 w32 d ws gs (A.putV (syD ws gs) vo eo mo) (A.putV (syD ws gs) vo eo mo) (B.putV (syD ws gs) vt et mt) B (C.putV syE vo eo mo) (C.putV syE vo eo mo)) := HT30.out.drew.putB hA hk
        have G32a := HKt.out _ HT32.out.be
        clear hA hk HP32 HT30
        refine hK.out _ _ G32a (fun hHeld => ?_)
        clear hK K
        refine wpAnyH_done (by kernel_rfl) ?_ _
        clear hHeld G32 G32a
        have G33 := HKt.out _ HT32.out.be
        have HP33 : Hid (Calls Try.prog 21 #[.pointer (some ⟨d.Bb, 0, none⟩), .int .i8 vt, zx et mt] w32.drew fun y w' => y = .returned (.int .i64 (putE (syD ws gs) vt)) ∧ Rax w' d.Bb d.Bc d.r ws.length (B.putV (syD ws gs) vt et mt) ∧ Kept w32.drew w' (fun k => d.Bb ≤ k ∧ k < d.Bc)) := put_x HOK.out HT32.out.drew.ds1 HT32.out.drew.rB vt et mt HGdt.out.1 HGdt.out.2
        go_wp2_with fail
        refine wp_region_held_drew (S := (fun W => W.cell? ⟨bt, offt + i * 3, none⟩ = some (.int .i8 vt) ∧ W.cell? ⟨bt, offt + i * 3 + 1, none⟩ = some (.int .u32 et) ∧ W.cell? ⟨bt, offt + i * 3 + 2, none⟩ = some (.int .u32 mt))) (by kernel_rfl) ?_ (fun hHeld => ?_)
        · exact G33
        refine wpAnyH_take (i := 0) (oi := { dst := some 228, op := Op.move (Operand.tmp 25), type := 43, pos := "law.go:171", after := #[], guard := none }) (v := ?_) rfl (by kernel_rfl) (by kernel_rfl) (by kernel_rfl) (fun _ _ _ h => h) (Or.inl ⟨by rfl, ?_⟩) (by assumption) ?_
        rotate_left
        · (intro w hSw; (try dsimp only at hSw); go_simp) <;> with_reducible rfl
        try simp only [Act.put, List.setIfInBounds_toArray, List.set_cons_zero, List.set_cons_succ]
        refine wpAnyH_take (i := 1) (oi := { dst := some 229, op := Op.move (Operand.tmp 6), type := 23, pos := "law.go:171", after := #[], guard := none }) (v := ?_) rfl (by kernel_rfl) (by kernel_rfl) (by kernel_rfl) (fun _ _ _ h => h) (Or.inl ⟨by rfl, ?_⟩) (by assumption) ?_
        rotate_left
        · (intro w hSw; (try dsimp only at hSw); go_simp) <;> with_reducible rfl
        try simp only [Act.put, List.setIfInBounds_toArray, List.set_cons_zero, List.set_cons_succ]
        refine wpAnyH_take (i := 2) (oi := { dst := some 230, op := Op.move (Operand.tmp 27), type := 3, pos := "law.go:171", after := #[], guard := none }) (v := ?_) rfl (by kernel_rfl) (by kernel_rfl) (by kernel_rfl) (fun _ _ _ h => h) (Or.inl ⟨by rfl, ?_⟩) (by assumption) ?_
        rotate_left
        · (intro w hSw; (try dsimp only at hSw); go_simp) <;> with_reducible rfl
        try simp only [Act.put, List.setIfInBounds_toArray, List.set_cons_zero, List.set_cons_succ]
        refine wpAnyH_take (i := 3) (oi := { dst := some 231, op := Op.indexAddr 23 (Operand.tmp 229) (Operand.tmp 230), type := 0, pos := "law.go:171", after := #[{ on := 1, ground := Ground.data }, { on := 2, ground := Ground.data }], guard := none }) (v := ?_) rfl (by kernel_rfl) (by kernel_rfl) (by kernel_rfl) (fun _ _ _ h => h) (Or.inl ⟨by rfl, ?_⟩) (by assumption) ?_
        rotate_left
        · (intro w hSw; (try dsimp only at hSw); go_simp) <;> with_reducible rfl
        try simp only [Act.put, List.setIfInBounds_toArray, List.set_cons_zero, List.set_cons_succ]
        refine wpAnyH_take (i := 4) (oi := { dst := some 232, op := Op.fieldAddr 50 (Operand.tmp 231) 0, type := 0, pos := "law.go:171", after := #[{ on := 3, ground := Ground.data }], guard := none }) (v := ?_) rfl (by kernel_rfl) (by kernel_rfl) (by kernel_rfl) (fun _ _ _ h => h) (Or.inl ⟨by rfl, ?_⟩) (by assumption) ?_
        rotate_left
        · (intro w hSw; (try dsimp only at hSw); go_simp) <;> with_reducible rfl
        try simp only [Act.put, List.setIfInBounds_toArray, List.set_cons_zero, List.set_cons_succ]
        refine wpAnyH_take (i := 5) (oi := { dst := some 233, op := Op.load 48 (Operand.tmp 232), type := 48, pos := "law.go:171", after := #[{ on := 4, ground := Ground.data }], guard := none }) (v := ?_) rfl (by kernel_rfl) (by kernel_rfl) (by kernel_rfl) (fun _ _ _ h => h) (Or.inl ⟨by rfl, ?_⟩) (by assumption) ?_
        rotate_left
        · (intro w hSw; (try dsimp only at hSw); go_simp) <;> with_reducible rfl
        try simp only [Act.put, List.setIfInBounds_toArray, List.set_cons_zero, List.set_cons_succ]
        refine wpAnyH_take (i := 6) (oi := { dst := some 234, op := Op.move (Operand.tmp 6), type := 23, pos := "law.go:171", after := #[], guard := none }) (v := ?_) rfl (by kernel_rfl) (by kernel_rfl) (by kernel_rfl) (fun _ _ _ h => h) (Or.inl ⟨by rfl, ?_⟩) (by assumption) ?_
        rotate_left
        · (intro w hSw; (try dsimp only at hSw); go_simp) <;> with_reducible rfl
        try simp only [Act.put, List.setIfInBounds_toArray, List.set_cons_zero, List.set_cons_succ]
        refine wpAnyH_take (i := 7) (oi := { dst := some 235, op := Op.move (Operand.tmp 27), type := 3, pos := "law.go:171", after := #[], guard := none }) (v := ?_) rfl (by kernel_rfl) (by kernel_rfl) (by kernel_rfl) (fun _ _ _ h => h) (Or.inl ⟨by rfl, ?_⟩) (by assumption) ?_
        rotate_left
        · (intro w hSw; (try dsimp only at hSw); go_simp) <;> with_reducible rfl
        try simp only [Act.put, List.setIfInBounds_toArray, List.set_cons_zero, List.set_cons_succ]
        refine wpAnyH_take (i := 8) (oi := { dst := some 236, op := Op.indexAddr 23 (Operand.tmp 234) (Operand.tmp 235), type := 0, pos := "law.go:171", after := #[{ on := 6, ground := Ground.data }, { on := 7, ground := Ground.data }], guard := none }) (v := ?_) rfl (by kernel_rfl) (by kernel_rfl) (by kernel_rfl) (fun _ _ _ h => h) (Or.inl ⟨by rfl, ?_⟩) (by assumption) ?_
        rotate_left
        · (intro w hSw; (try dsimp only at hSw); go_simp) <;> with_reducible rfl
        try simp only [Act.put, List.setIfInBounds_toArray, List.set_cons_zero, List.set_cons_succ]
        refine wpAnyH_take (i := 9) (oi := { dst := some 237, op := Op.fieldAddr 50 (Operand.tmp 236) 1, type := 0, pos := "law.go:171", after := #[{ on := 8, ground := Ground.data }], guard := none }) (v := ?_) rfl (by kernel_rfl) (by kernel_rfl) (by kernel_rfl) (fun _ _ _ h => h) (Or.inl ⟨by rfl, ?_⟩) (by assumption) ?_
        rotate_left
        · (intro w hSw; (try dsimp only at hSw); go_simp) <;> with_reducible rfl
        try simp only [Act.put, List.setIfInBounds_toArray, List.set_cons_zero, List.set_cons_succ]
        refine wpAnyH_take (i := 10) (oi := { dst := some 238, op := Op.load 38 (Operand.tmp 237), type := 38, pos := "law.go:171", after := #[{ on := 9, ground := Ground.data }], guard := none }) (v := ?_) rfl (by kernel_rfl) (by kernel_rfl) (by kernel_rfl) (fun _ _ _ h => h) (Or.inl ⟨by rfl, ?_⟩) (by assumption) ?_
        rotate_left
        · (intro w hSw; (try dsimp only at hSw); go_simp) <;> with_reducible rfl
        try simp only [Act.put, List.setIfInBounds_toArray, List.set_cons_zero, List.set_cons_succ]
        refine wpAnyH_ready (rs := [11]) (by kernel_rfl) (by simp) ?_
        refine AllReadyH.cons (o := { dst := some 239, op := Op.call { callee := Callee.value (Operand.func 21), args := #[Operand.tmp 228, Operand.tmp 233, Operand.tmp 238], argTypes := #[43, 48, 38] }, type := 26, pos := "law.go:171", after := #[{ on := 0, ground := Ground.data }, { on := 5, ground := Ground.data }, { on := 10, ground := Ground.data }], guard := none }) rfl (fun K hK => ?_) AllReadyH.nil
        go_simp
        refine Calls.mono HP33.out ?_
        rintro y w33 ⟨rfl, hA, hk⟩
        have HT33 : Hid (Wd w w8 w33 d ws gs (A.putV (syD ws gs) vo eo mo) (A.putV (syD ws gs) vo eo mo) (B.putV (syD ws gs) vt et mt) (B.putV (syD ws gs) vt et mt) (C.putV syE vo eo mo) (C.putV syE vo eo mo)) := HT32.out.drew.refB hA hk
        have G33a := HKt.out _ HT33.out.be
        clear hA hk HP33 HT32
        refine hK.out _ _ G33a (fun hHeld => ?_)
        clear hK K
        refine wpAnyH_done (by kernel_rfl) ?_ _
        clear hHeld G33 G33a
        go_wp2
        go_roundw
        case rel => exact ⟨i + 1, _, _, _, by omega, by simp, ⟨AcD.putV_so HD.out HSo.out.1 _ _ _, AcD.putV_so HD.out HSo.out.2.1 _ _ _, AcD.putV_so HE.out HSo.out.2.2 _ _ _⟩, HT33⟩
        case measure => simp [intOf]; omega
      · have hio : (i : Int) < (lo.length : Int) := by omega
        obtain ⟨bo, offo, hapo, hclo⟩ := HCo.out (fun q => by rw [q] at hlto; simp at hlto)
        subst hapo
        obtain ⟨⟨vo, eo, mo⟩, hpto⟩ : ∃ s, lo[i]? = some s := ⟨lo[i], List.getElem?_eq_getElem hlto⟩
        have hgdo := HGo.out _ (List.mem_of_getElem? hpto)
        have HGdo : Hid (-128 ≤ vo ∧ vo ≤ 127) := hgdo.1
        have hc0o : w.cell? ⟨bo, offo + i * 3, none⟩ = some (.int .i8 vo) := hclo i _ hpto 0 _ rfl
        have hc1o : w.cell? ⟨bo, offo + i * 3 + 1, none⟩ = some (.int .u32 eo) := hclo i _ hpto 1 _ rfl
        have hc2o : w.cell? ⟨bo, offo + i * 3 + 2, none⟩ = some (.int .u32 mo) := hclo i _ hpto 2 _ rfl
        have hblo : bo < w.heap.size := World.block_lt_of_cell? w _ hc0o
        have HKo : Hid (∀ W, Below w.heap.size w W → W.cell? ⟨bo, offo + i * 3, none⟩ = some (.int .i8 vo) ∧ W.cell? ⟨bo, offo + i * 3 + 1, none⟩ = some (.int .u32 eo) ∧ W.cell? ⟨bo, offo + i * 3 + 2, none⟩ = some (.int .u32 mo)) := fun W h => ⟨(h.cell hblo).trans hc0o, (h.cell hblo).trans hc1o, (h.cell hblo).trans hc2o⟩
        clear hclo hpto hgdo hc0o hc1o hc2o hblo
        have hnt : ¬ (i : Int) < (lt.length : Int) := by omega
        have G27 := HKo.out _ HW.out.be
        have HP27 : Hid (Calls Try.prog 20 #[.pointer (some ⟨d.pa, 0, none⟩), .int .i8 vo, zx eo mo] wr.drew fun y w' => y = .returned (.int .i64 (putE (syD ws gs) vo)) ∧ IsAc w' d.pa d.s (A.putV (syD ws gs) vo eo mo) ∧ Kept wr.drew w' (fun k => k = d.pa)) := put_gen HD.out HW.out.drew.sy1 HW.out.drew.pA HSo.out.1 vo eo mo HGdo.out.1 HGdo.out.2
        go_wp2_with fail
        refine wp_region_held_drew (S := (fun W => W.cell? ⟨bo, offo + i * 3, none⟩ = some (.int .i8 vo) ∧ W.cell? ⟨bo, offo + i * 3 + 1, none⟩ = some (.int .u32 eo) ∧ W.cell? ⟨bo, offo + i * 3 + 2, none⟩ = some (.int .u32 mo))) (by kernel_rfl) ?_ (fun hHeld => ?_)
        · exact G27
        refine wpAnyH_take (i := 0) (oi := { dst := some 164, op := Op.move (Operand.tmp 14), type := 33, pos := "law.go:164", after := #[], guard := none }) (v := ?_) rfl (by kernel_rfl) (by kernel_rfl) (by kernel_rfl) (fun _ _ _ h => h) (Or.inl ⟨by rfl, ?_⟩) (by assumption) ?_
        rotate_left
        · (intro w hSw; (try dsimp only at hSw); go_simp) <;> with_reducible rfl
        try simp only [Act.put, List.setIfInBounds_toArray, List.set_cons_zero, List.set_cons_succ]
        refine wpAnyH_take (i := 1) (oi := { dst := some 165, op := Op.move (Operand.tmp 5), type := 23, pos := "law.go:164", after := #[], guard := none }) (v := ?_) rfl (by kernel_rfl) (by kernel_rfl) (by kernel_rfl) (fun _ _ _ h => h) (Or.inl ⟨by rfl, ?_⟩) (by assumption) ?_
        rotate_left
        · (intro w hSw; (try dsimp only at hSw); go_simp) <;> with_reducible rfl
        try simp only [Act.put, List.setIfInBounds_toArray, List.set_cons_zero, List.set_cons_succ]
        refine wpAnyH_take (i := 2) (oi := { dst := some 166, op := Op.move (Operand.tmp 27), type := 3, pos := "law.go:164", after := #[], guard := none }) (v := ?_) rfl (by kernel_rfl) (by kernel_rfl) (by kernel_rfl) (fun _ _ _ h => h) (Or.inl ⟨by rfl, ?_⟩) (by assumption) ?_
        rotate_left
        · (intro w hSw; (try dsimp only at hSw); go_simp) <;> with_reducible rfl
        try simp only [Act.put, List.setIfInBounds_toArray, List.set_cons_zero, List.set_cons_succ]
        refine wpAnyH_take (i := 3) (oi := { dst := some 167, op := Op.indexAddr 23 (Operand.tmp 165) (Operand.tmp 166), type := 0, pos := "law.go:164", after := #[{ on := 1, ground := Ground.data }, { on := 2, ground := Ground.data }], guard := none }) (v := ?_) rfl (by kernel_rfl) (by kernel_rfl) (by kernel_rfl) (fun _ _ _ h => h) (Or.inl ⟨by rfl, ?_⟩) (by assumption) ?_
        rotate_left
        · (intro w hSw; (try dsimp only at hSw); go_simp) <;> with_reducible rfl
        try simp only [Act.put, List.setIfInBounds_toArray, List.set_cons_zero, List.set_cons_succ]
        refine wpAnyH_take (i := 4) (oi := { dst := some 168, op := Op.fieldAddr 50 (Operand.tmp 167) 0, type := 0, pos := "law.go:164", after := #[{ on := 3, ground := Ground.data }], guard := none }) (v := ?_) rfl (by kernel_rfl) (by kernel_rfl) (by kernel_rfl) (fun _ _ _ h => h) (Or.inl ⟨by rfl, ?_⟩) (by assumption) ?_
        rotate_left
        · (intro w hSw; (try dsimp only at hSw); go_simp) <;> with_reducible rfl
        try simp only [Act.put, List.setIfInBounds_toArray, List.set_cons_zero, List.set_cons_succ]
        refine wpAnyH_take (i := 5) (oi := { dst := some 169, op := Op.load 48 (Operand.tmp 168), type := 48, pos := "law.go:164", after := #[{ on := 4, ground := Ground.data }], guard := none }) (v := ?_) rfl (by kernel_rfl) (by kernel_rfl) (by kernel_rfl) (fun _ _ _ h => h) (Or.inl ⟨by rfl, ?_⟩) (by assumption) ?_
        rotate_left
        · (intro w hSw; (try dsimp only at hSw); go_simp) <;> with_reducible rfl
        try simp only [Act.put, List.setIfInBounds_toArray, List.set_cons_zero, List.set_cons_succ]
        refine wpAnyH_take (i := 6) (oi := { dst := some 170, op := Op.move (Operand.tmp 5), type := 23, pos := "law.go:164", after := #[], guard := none }) (v := ?_) rfl (by kernel_rfl) (by kernel_rfl) (by kernel_rfl) (fun _ _ _ h => h) (Or.inl ⟨by rfl, ?_⟩) (by assumption) ?_
        rotate_left
        · (intro w hSw; (try dsimp only at hSw); go_simp) <;> with_reducible rfl
        try simp only [Act.put, List.setIfInBounds_toArray, List.set_cons_zero, List.set_cons_succ]
        refine wpAnyH_take (i := 7) (oi := { dst := some 171, op := Op.move (Operand.tmp 27), type := 3, pos := "law.go:164", after := #[], guard := none }) (v := ?_) rfl (by kernel_rfl) (by kernel_rfl) (by kernel_rfl) (fun _ _ _ h => h) (Or.inl ⟨by rfl, ?_⟩) (by assumption) ?_
        rotate_left
        · (intro w hSw; (try dsimp only at hSw); go_simp) <;> with_reducible rfl
        try simp only [Act.put, List.setIfInBounds_toArray, List.set_cons_zero, List.set_cons_succ]
        refine wpAnyH_take (i := 8) (oi := { dst := some 172, op := Op.indexAddr 23 (Operand.tmp 170) (Operand.tmp 171), type := 0, pos := "law.go:164", after := #[{ on := 6, ground := Ground.data }, { on := 7, ground := Ground.data }], guard := none }) (v := ?_) rfl (by kernel_rfl) (by kernel_rfl) (by kernel_rfl) (fun _ _ _ h => h) (Or.inl ⟨by rfl, ?_⟩) (by assumption) ?_
        rotate_left
        · (intro w hSw; (try dsimp only at hSw); go_simp) <;> with_reducible rfl
        try simp only [Act.put, List.setIfInBounds_toArray, List.set_cons_zero, List.set_cons_succ]
        refine wpAnyH_take (i := 9) (oi := { dst := some 173, op := Op.fieldAddr 50 (Operand.tmp 172) 1, type := 0, pos := "law.go:164", after := #[{ on := 8, ground := Ground.data }], guard := none }) (v := ?_) rfl (by kernel_rfl) (by kernel_rfl) (by kernel_rfl) (fun _ _ _ h => h) (Or.inl ⟨by rfl, ?_⟩) (by assumption) ?_
        rotate_left
        · (intro w hSw; (try dsimp only at hSw); go_simp) <;> with_reducible rfl
        try simp only [Act.put, List.setIfInBounds_toArray, List.set_cons_zero, List.set_cons_succ]
        refine wpAnyH_take (i := 10) (oi := { dst := some 174, op := Op.load 38 (Operand.tmp 173), type := 38, pos := "law.go:164", after := #[{ on := 9, ground := Ground.data }], guard := none }) (v := ?_) rfl (by kernel_rfl) (by kernel_rfl) (by kernel_rfl) (fun _ _ _ h => h) (Or.inl ⟨by rfl, ?_⟩) (by assumption) ?_
        rotate_left
        · (intro w hSw; (try dsimp only at hSw); go_simp) <;> with_reducible rfl
        try simp only [Act.put, List.setIfInBounds_toArray, List.set_cons_zero, List.set_cons_succ]
        refine wpAnyH_ready (rs := [11]) (by kernel_rfl) (by simp) ?_
        refine AllReadyH.cons (o := { dst := some 175, op := Op.call { callee := Callee.value (Operand.func 20), args := #[Operand.tmp 164, Operand.tmp 169, Operand.tmp 174], argTypes := #[33, 48, 38] }, type := 26, pos := "law.go:164", after := #[{ on := 0, ground := Ground.data }, { on := 5, ground := Ground.data }, { on := 10, ground := Ground.data }], guard := none }) rfl (fun K hK => ?_) AllReadyH.nil
        go_simp
        refine Calls.mono HP27.out ?_
        rintro y w27 ⟨rfl, hA, hk⟩
        have HT27 : Hid (Wd w w8 w27 d ws gs (A.putV (syD ws gs) vo eo mo) A B B C C) := HW.out.drew.putA hA hk
        have G27a := HKo.out _ HT27.out.be
        clear hA hk HP27 HW
        refine hK.out _ _ G27a (fun hHeld => ?_)
        clear hK K
        refine wpAnyH_done (by kernel_rfl) ?_ _
        clear hHeld G27 G27a
        have G28 := HKo.out _ HT27.out.be
        have HP28 : Hid (Calls Try.prog 21 #[.pointer (some ⟨d.Ba, 0, none⟩), .int .i8 vo, zx eo mo] w27.drew fun y w' => y = .returned (.int .i64 (putE (syD ws gs) vo)) ∧ Rax w' d.Ba d.Bb d.r ws.length (A.putV (syD ws gs) vo eo mo) ∧ Kept w27.drew w' (fun k => d.Ba ≤ k ∧ k < d.Bb)) := put_x HOK.out HT27.out.drew.ds1 HT27.out.drew.rA vo eo mo HGdo.out.1 HGdo.out.2
        go_wp2_with fail
        refine wp_region_held_drew (S := (fun W => W.cell? ⟨bo, offo + i * 3, none⟩ = some (.int .i8 vo) ∧ W.cell? ⟨bo, offo + i * 3 + 1, none⟩ = some (.int .u32 eo) ∧ W.cell? ⟨bo, offo + i * 3 + 2, none⟩ = some (.int .u32 mo))) (by kernel_rfl) ?_ (fun hHeld => ?_)
        · exact G28
        refine wpAnyH_take (i := 0) (oi := { dst := some 176, op := Op.move (Operand.tmp 24), type := 43, pos := "law.go:165", after := #[], guard := none }) (v := ?_) rfl (by kernel_rfl) (by kernel_rfl) (by kernel_rfl) (fun _ _ _ h => h) (Or.inl ⟨by rfl, ?_⟩) (by assumption) ?_
        rotate_left
        · (intro w hSw; (try dsimp only at hSw); go_simp) <;> with_reducible rfl
        try simp only [Act.put, List.setIfInBounds_toArray, List.set_cons_zero, List.set_cons_succ]
        refine wpAnyH_take (i := 1) (oi := { dst := some 177, op := Op.move (Operand.tmp 5), type := 23, pos := "law.go:165", after := #[], guard := none }) (v := ?_) rfl (by kernel_rfl) (by kernel_rfl) (by kernel_rfl) (fun _ _ _ h => h) (Or.inl ⟨by rfl, ?_⟩) (by assumption) ?_
        rotate_left
        · (intro w hSw; (try dsimp only at hSw); go_simp) <;> with_reducible rfl
        try simp only [Act.put, List.setIfInBounds_toArray, List.set_cons_zero, List.set_cons_succ]
        refine wpAnyH_take (i := 2) (oi := { dst := some 178, op := Op.move (Operand.tmp 27), type := 3, pos := "law.go:165", after := #[], guard := none }) (v := ?_) rfl (by kernel_rfl) (by kernel_rfl) (by kernel_rfl) (fun _ _ _ h => h) (Or.inl ⟨by rfl, ?_⟩) (by assumption) ?_
        rotate_left
        · (intro w hSw; (try dsimp only at hSw); go_simp) <;> with_reducible rfl
        try simp only [Act.put, List.setIfInBounds_toArray, List.set_cons_zero, List.set_cons_succ]
        refine wpAnyH_take (i := 3) (oi := { dst := some 179, op := Op.indexAddr 23 (Operand.tmp 177) (Operand.tmp 178), type := 0, pos := "law.go:165", after := #[{ on := 1, ground := Ground.data }, { on := 2, ground := Ground.data }], guard := none }) (v := ?_) rfl (by kernel_rfl) (by kernel_rfl) (by kernel_rfl) (fun _ _ _ h => h) (Or.inl ⟨by rfl, ?_⟩) (by assumption) ?_
        rotate_left
        · (intro w hSw; (try dsimp only at hSw); go_simp) <;> with_reducible rfl
        try simp only [Act.put, List.setIfInBounds_toArray, List.set_cons_zero, List.set_cons_succ]
        refine wpAnyH_take (i := 4) (oi := { dst := some 180, op := Op.fieldAddr 50 (Operand.tmp 179) 0, type := 0, pos := "law.go:165", after := #[{ on := 3, ground := Ground.data }], guard := none }) (v := ?_) rfl (by kernel_rfl) (by kernel_rfl) (by kernel_rfl) (fun _ _ _ h => h) (Or.inl ⟨by rfl, ?_⟩) (by assumption) ?_
        rotate_left
        · (intro w hSw; (try dsimp only at hSw); go_simp) <;> with_reducible rfl
        try simp only [Act.put, List.setIfInBounds_toArray, List.set_cons_zero, List.set_cons_succ]
        refine wpAnyH_take (i := 5) (oi := { dst := some 181, op := Op.load 48 (Operand.tmp 180), type := 48, pos := "law.go:165", after := #[{ on := 4, ground := Ground.data }], guard := none }) (v := ?_) rfl (by kernel_rfl) (by kernel_rfl) (by kernel_rfl) (fun _ _ _ h => h) (Or.inl ⟨by rfl, ?_⟩) (by assumption) ?_
        rotate_left
        · (intro w hSw; (try dsimp only at hSw); go_simp) <;> with_reducible rfl
        try simp only [Act.put, List.setIfInBounds_toArray, List.set_cons_zero, List.set_cons_succ]
        refine wpAnyH_take (i := 6) (oi := { dst := some 182, op := Op.move (Operand.tmp 5), type := 23, pos := "law.go:165", after := #[], guard := none }) (v := ?_) rfl (by kernel_rfl) (by kernel_rfl) (by kernel_rfl) (fun _ _ _ h => h) (Or.inl ⟨by rfl, ?_⟩) (by assumption) ?_
        rotate_left
        · (intro w hSw; (try dsimp only at hSw); go_simp) <;> with_reducible rfl
        try simp only [Act.put, List.setIfInBounds_toArray, List.set_cons_zero, List.set_cons_succ]
        refine wpAnyH_take (i := 7) (oi := { dst := some 183, op := Op.move (Operand.tmp 27), type := 3, pos := "law.go:165", after := #[], guard := none }) (v := ?_) rfl (by kernel_rfl) (by kernel_rfl) (by kernel_rfl) (fun _ _ _ h => h) (Or.inl ⟨by rfl, ?_⟩) (by assumption) ?_
        rotate_left
        · (intro w hSw; (try dsimp only at hSw); go_simp) <;> with_reducible rfl
        try simp only [Act.put, List.setIfInBounds_toArray, List.set_cons_zero, List.set_cons_succ]
        refine wpAnyH_take (i := 8) (oi := { dst := some 184, op := Op.indexAddr 23 (Operand.tmp 182) (Operand.tmp 183), type := 0, pos := "law.go:165", after := #[{ on := 6, ground := Ground.data }, { on := 7, ground := Ground.data }], guard := none }) (v := ?_) rfl (by kernel_rfl) (by kernel_rfl) (by kernel_rfl) (fun _ _ _ h => h) (Or.inl ⟨by rfl, ?_⟩) (by assumption) ?_
        rotate_left
        · (intro w hSw; (try dsimp only at hSw); go_simp) <;> with_reducible rfl
        try simp only [Act.put, List.setIfInBounds_toArray, List.set_cons_zero, List.set_cons_succ]
        refine wpAnyH_take (i := 9) (oi := { dst := some 185, op := Op.fieldAddr 50 (Operand.tmp 184) 1, type := 0, pos := "law.go:165", after := #[{ on := 8, ground := Ground.data }], guard := none }) (v := ?_) rfl (by kernel_rfl) (by kernel_rfl) (by kernel_rfl) (fun _ _ _ h => h) (Or.inl ⟨by rfl, ?_⟩) (by assumption) ?_
        rotate_left
        · (intro w hSw; (try dsimp only at hSw); go_simp) <;> with_reducible rfl
        try simp only [Act.put, List.setIfInBounds_toArray, List.set_cons_zero, List.set_cons_succ]
        refine wpAnyH_take (i := 10) (oi := { dst := some 186, op := Op.load 38 (Operand.tmp 185), type := 38, pos := "law.go:165", after := #[{ on := 9, ground := Ground.data }], guard := none }) (v := ?_) rfl (by kernel_rfl) (by kernel_rfl) (by kernel_rfl) (fun _ _ _ h => h) (Or.inl ⟨by rfl, ?_⟩) (by assumption) ?_
        rotate_left
        · (intro w hSw; (try dsimp only at hSw); go_simp) <;> with_reducible rfl
        try simp only [Act.put, List.setIfInBounds_toArray, List.set_cons_zero, List.set_cons_succ]
        refine wpAnyH_ready (rs := [11]) (by kernel_rfl) (by simp) ?_
        refine AllReadyH.cons (o := { dst := some 187, op := Op.call { callee := Callee.value (Operand.func 21), args := #[Operand.tmp 176, Operand.tmp 181, Operand.tmp 186], argTypes := #[43, 48, 38] }, type := 26, pos := "law.go:165", after := #[{ on := 0, ground := Ground.data }, { on := 5, ground := Ground.data }, { on := 10, ground := Ground.data }], guard := none }) rfl (fun K hK => ?_) AllReadyH.nil
        go_simp
        refine Calls.mono HP28.out ?_
        rintro y w28 ⟨rfl, hA, hk⟩
        have HT28 : Hid (Wd w w8 w28 d ws gs (A.putV (syD ws gs) vo eo mo) (A.putV (syD ws gs) vo eo mo) B B C C) := HT27.out.drew.refA hA hk
        have G28a := HKo.out _ HT28.out.be
        clear hA hk HP28 HT27
        refine hK.out _ _ G28a (fun hHeld => ?_)
        clear hK K
        refine wpAnyH_done (by kernel_rfl) ?_ _
        clear hHeld G28 G28a
        have G29 := HKo.out _ HT28.out.be
        have HP29 : Hid (Calls Try.prog 20 #[.pointer (some ⟨d.pc, 0, none⟩), .int .i8 vo, zx eo mo] w28.drew fun y w' => y = .returned (.int .i64 (putE syE vo)) ∧ IsAc w' d.pc d.t (C.putV syE vo eo mo) ∧ Kept w28.drew w' (fun k => k = d.pc)) := put_gen HE.out HT28.out.drew.sy2 HT28.out.drew.pC HSo.out.2.2 vo eo mo HGdo.out.1 HGdo.out.2
        go_wp2_with fail
        refine wp_region_held_drew (S := (fun W => W.cell? ⟨bo, offo + i * 3, none⟩ = some (.int .i8 vo) ∧ W.cell? ⟨bo, offo + i * 3 + 1, none⟩ = some (.int .u32 eo) ∧ W.cell? ⟨bo, offo + i * 3 + 2, none⟩ = some (.int .u32 mo))) (by kernel_rfl) ?_ (fun hHeld => ?_)
        · exact G29
        refine wpAnyH_take (i := 0) (oi := { dst := some 188, op := Op.move (Operand.tmp 18), type := 33, pos := "law.go:166", after := #[], guard := none }) (v := ?_) rfl (by kernel_rfl) (by kernel_rfl) (by kernel_rfl) (fun _ _ _ h => h) (Or.inl ⟨by rfl, ?_⟩) (by assumption) ?_
        rotate_left
        · (intro w hSw; (try dsimp only at hSw); go_simp) <;> with_reducible rfl
        try simp only [Act.put, List.setIfInBounds_toArray, List.set_cons_zero, List.set_cons_succ]
        refine wpAnyH_take (i := 1) (oi := { dst := some 189, op := Op.move (Operand.tmp 5), type := 23, pos := "law.go:166", after := #[], guard := none }) (v := ?_) rfl (by kernel_rfl) (by kernel_rfl) (by kernel_rfl) (fun _ _ _ h => h) (Or.inl ⟨by rfl, ?_⟩) (by assumption) ?_
        rotate_left
        · (intro w hSw; (try dsimp only at hSw); go_simp) <;> with_reducible rfl
        try simp only [Act.put, List.setIfInBounds_toArray, List.set_cons_zero, List.set_cons_succ]
        refine wpAnyH_take (i := 2) (oi := { dst := some 190, op := Op.move (Operand.tmp 27), type := 3, pos := "law.go:166", after := #[], guard := none }) (v := ?_) rfl (by kernel_rfl) (by kernel_rfl) (by kernel_rfl) (fun _ _ _ h => h) (Or.inl ⟨by rfl, ?_⟩) (by assumption) ?_
        rotate_left
        · (intro w hSw; (try dsimp only at hSw); go_simp) <;> with_reducible rfl
        try simp only [Act.put, List.setIfInBounds_toArray, List.set_cons_zero, List.set_cons_succ]
        refine wpAnyH_take (i := 3) (oi := { dst := some 191, op := Op.indexAddr 23 (Operand.tmp 189) (Operand.tmp 190), type := 0, pos := "law.go:166", after := #[{ on := 1, ground := Ground.data }, { on := 2, ground := Ground.data }], guard := none }) (v := ?_) rfl (by kernel_rfl) (by kernel_rfl) (by kernel_rfl) (fun _ _ _ h => h) (Or.inl ⟨by rfl, ?_⟩) (by assumption) ?_
        rotate_left
        · (intro w hSw; (try dsimp only at hSw); go_simp) <;> with_reducible rfl
        try simp only [Act.put, List.setIfInBounds_toArray, List.set_cons_zero, List.set_cons_succ]
        refine wpAnyH_take (i := 4) (oi := { dst := some 192, op := Op.fieldAddr 50 (Operand.tmp 191) 0, type := 0, pos := "law.go:166", after := #[{ on := 3, ground := Ground.data }], guard := none }) (v := ?_) rfl (by kernel_rfl) (by kernel_rfl) (by kernel_rfl) (fun _ _ _ h => h) (Or.inl ⟨by rfl, ?_⟩) (by assumption) ?_
        rotate_left
        · (intro w hSw; (try dsimp only at hSw); go_simp) <;> with_reducible rfl
        try simp only [Act.put, List.setIfInBounds_toArray, List.set_cons_zero, List.set_cons_succ]
        refine wpAnyH_take (i := 5) (oi := { dst := some 193, op := Op.load 48 (Operand.tmp 192), type := 48, pos := "law.go:166", after := #[{ on := 4, ground := Ground.data }], guard := none }) (v := ?_) rfl (by kernel_rfl) (by kernel_rfl) (by kernel_rfl) (fun _ _ _ h => h) (Or.inl ⟨by rfl, ?_⟩) (by assumption) ?_
        rotate_left
        · (intro w hSw; (try dsimp only at hSw); go_simp) <;> with_reducible rfl
        try simp only [Act.put, List.setIfInBounds_toArray, List.set_cons_zero, List.set_cons_succ]
        refine wpAnyH_take (i := 6) (oi := { dst := some 194, op := Op.move (Operand.tmp 5), type := 23, pos := "law.go:166", after := #[], guard := none }) (v := ?_) rfl (by kernel_rfl) (by kernel_rfl) (by kernel_rfl) (fun _ _ _ h => h) (Or.inl ⟨by rfl, ?_⟩) (by assumption) ?_
        rotate_left
        · (intro w hSw; (try dsimp only at hSw); go_simp) <;> with_reducible rfl
        try simp only [Act.put, List.setIfInBounds_toArray, List.set_cons_zero, List.set_cons_succ]
        refine wpAnyH_take (i := 7) (oi := { dst := some 195, op := Op.move (Operand.tmp 27), type := 3, pos := "law.go:166", after := #[], guard := none }) (v := ?_) rfl (by kernel_rfl) (by kernel_rfl) (by kernel_rfl) (fun _ _ _ h => h) (Or.inl ⟨by rfl, ?_⟩) (by assumption) ?_
        rotate_left
        · (intro w hSw; (try dsimp only at hSw); go_simp) <;> with_reducible rfl
        try simp only [Act.put, List.setIfInBounds_toArray, List.set_cons_zero, List.set_cons_succ]
        refine wpAnyH_take (i := 8) (oi := { dst := some 196, op := Op.indexAddr 23 (Operand.tmp 194) (Operand.tmp 195), type := 0, pos := "law.go:166", after := #[{ on := 6, ground := Ground.data }, { on := 7, ground := Ground.data }], guard := none }) (v := ?_) rfl (by kernel_rfl) (by kernel_rfl) (by kernel_rfl) (fun _ _ _ h => h) (Or.inl ⟨by rfl, ?_⟩) (by assumption) ?_
        rotate_left
        · (intro w hSw; (try dsimp only at hSw); go_simp) <;> with_reducible rfl
        try simp only [Act.put, List.setIfInBounds_toArray, List.set_cons_zero, List.set_cons_succ]
        refine wpAnyH_take (i := 9) (oi := { dst := some 197, op := Op.fieldAddr 50 (Operand.tmp 196) 1, type := 0, pos := "law.go:166", after := #[{ on := 8, ground := Ground.data }], guard := none }) (v := ?_) rfl (by kernel_rfl) (by kernel_rfl) (by kernel_rfl) (fun _ _ _ h => h) (Or.inl ⟨by rfl, ?_⟩) (by assumption) ?_
        rotate_left
        · (intro w hSw; (try dsimp only at hSw); go_simp) <;> with_reducible rfl
        try simp only [Act.put, List.setIfInBounds_toArray, List.set_cons_zero, List.set_cons_succ]
        refine wpAnyH_take (i := 10) (oi := { dst := some 198, op := Op.load 38 (Operand.tmp 197), type := 38, pos := "law.go:166", after := #[{ on := 9, ground := Ground.data }], guard := none }) (v := ?_) rfl (by kernel_rfl) (by kernel_rfl) (by kernel_rfl) (fun _ _ _ h => h) (Or.inl ⟨by rfl, ?_⟩) (by assumption) ?_
        rotate_left
        · (intro w hSw; (try dsimp only at hSw); go_simp) <;> with_reducible rfl
        try simp only [Act.put, List.setIfInBounds_toArray, List.set_cons_zero, List.set_cons_succ]
        refine wpAnyH_ready (rs := [11]) (by kernel_rfl) (by simp) ?_
        refine AllReadyH.cons (o := { dst := some 199, op := Op.call { callee := Callee.value (Operand.func 20), args := #[Operand.tmp 188, Operand.tmp 193, Operand.tmp 198], argTypes := #[33, 48, 38] }, type := 26, pos := "law.go:166", after := #[{ on := 0, ground := Ground.data }, { on := 5, ground := Ground.data }, { on := 10, ground := Ground.data }], guard := none }) rfl (fun K hK => ?_) AllReadyH.nil
        go_simp
        refine Calls.mono HP29.out ?_
        rintro y w29 ⟨rfl, hA, hk⟩
        have HT29 : Hid (Wd w w8 w29 d ws gs (A.putV (syD ws gs) vo eo mo) (A.putV (syD ws gs) vo eo mo) B B (C.putV syE vo eo mo) C) := HT28.out.drew.putC hA hk
        have G29a := HKo.out _ HT29.out.be
        clear hA hk HP29 HT28
        refine hK.out _ _ G29a (fun hHeld => ?_)
        clear hK K
        refine wpAnyH_done (by kernel_rfl) ?_ _
        clear hHeld G29 G29a
        have G30 := HKo.out _ HT29.out.be
        have HP30 : Hid (Calls Try.prog 21 #[.pointer (some ⟨d.Bc, 0, none⟩), .int .i8 vo, zx eo mo] w29.drew fun y w' => y = .returned (.int .i64 (putE syE vo)) ∧ Rax w' d.Bc d.Bd d.u 3 (C.putV syE vo eo mo) ∧ Kept w29.drew w' (fun k => d.Bc ≤ k ∧ k < d.Bd)) := put_x okE HT29.out.drew.ds2 HT29.out.drew.rC vo eo mo HGdo.out.1 HGdo.out.2
        go_wp2_with fail
        refine wp_region_held_drew (S := (fun W => W.cell? ⟨bo, offo + i * 3, none⟩ = some (.int .i8 vo) ∧ W.cell? ⟨bo, offo + i * 3 + 1, none⟩ = some (.int .u32 eo) ∧ W.cell? ⟨bo, offo + i * 3 + 2, none⟩ = some (.int .u32 mo))) (by kernel_rfl) ?_ (fun hHeld => ?_)
        · exact G30
        refine wpAnyH_take (i := 0) (oi := { dst := some 200, op := Op.move (Operand.tmp 26), type := 43, pos := "law.go:167", after := #[], guard := none }) (v := ?_) rfl (by kernel_rfl) (by kernel_rfl) (by kernel_rfl) (fun _ _ _ h => h) (Or.inl ⟨by rfl, ?_⟩) (by assumption) ?_
        rotate_left
        · (intro w hSw; (try dsimp only at hSw); go_simp) <;> with_reducible rfl
        try simp only [Act.put, List.setIfInBounds_toArray, List.set_cons_zero, List.set_cons_succ]
        refine wpAnyH_take (i := 1) (oi := { dst := some 201, op := Op.move (Operand.tmp 5), type := 23, pos := "law.go:167", after := #[], guard := none }) (v := ?_) rfl (by kernel_rfl) (by kernel_rfl) (by kernel_rfl) (fun _ _ _ h => h) (Or.inl ⟨by rfl, ?_⟩) (by assumption) ?_
        rotate_left
        · (intro w hSw; (try dsimp only at hSw); go_simp) <;> with_reducible rfl
        try simp only [Act.put, List.setIfInBounds_toArray, List.set_cons_zero, List.set_cons_succ]
        refine wpAnyH_take (i := 2) (oi := { dst := some 202, op := Op.move (Operand.tmp 27), type := 3, pos := "law.go:167", after := #[], guard := none }) (v := ?_) rfl (by kernel_rfl) (by kernel_rfl) (by kernel_rfl) (fun _ _ _ h => h) (Or.inl ⟨by rfl, ?_⟩) (by assumption) ?_
        rotate_left
        · (intro w hSw; (try dsimp only at hSw); go_simp) <;> with_reducible rfl
        try simp only [Act.put, List.setIfInBounds_toArray, List.set_cons_zero, List.set_cons_succ]
        refine wpAnyH_take (i := 3) (oi := { dst := some 203, op := Op.indexAddr 23 (Operand.tmp 201) (Operand.tmp 202), type := 0, pos := "law.go:167", after := #[{ on := 1, ground := Ground.data }, { on := 2, ground := Ground.data }], guard := none }) (v := ?_) rfl (by kernel_rfl) (by kernel_rfl) (by kernel_rfl) (fun _ _ _ h => h) (Or.inl ⟨by rfl, ?_⟩) (by assumption) ?_
        rotate_left
        · (intro w hSw; (try dsimp only at hSw); go_simp) <;> with_reducible rfl
        try simp only [Act.put, List.setIfInBounds_toArray, List.set_cons_zero, List.set_cons_succ]
        refine wpAnyH_take (i := 4) (oi := { dst := some 204, op := Op.fieldAddr 50 (Operand.tmp 203) 0, type := 0, pos := "law.go:167", after := #[{ on := 3, ground := Ground.data }], guard := none }) (v := ?_) rfl (by kernel_rfl) (by kernel_rfl) (by kernel_rfl) (fun _ _ _ h => h) (Or.inl ⟨by rfl, ?_⟩) (by assumption) ?_
        rotate_left
        · (intro w hSw; (try dsimp only at hSw); go_simp) <;> with_reducible rfl
        try simp only [Act.put, List.setIfInBounds_toArray, List.set_cons_zero, List.set_cons_succ]
        refine wpAnyH_take (i := 5) (oi := { dst := some 205, op := Op.load 48 (Operand.tmp 204), type := 48, pos := "law.go:167", after := #[{ on := 4, ground := Ground.data }], guard := none }) (v := ?_) rfl (by kernel_rfl) (by kernel_rfl) (by kernel_rfl) (fun _ _ _ h => h) (Or.inl ⟨by rfl, ?_⟩) (by assumption) ?_
        rotate_left
        · (intro w hSw; (try dsimp only at hSw); go_simp) <;> with_reducible rfl
        try simp only [Act.put, List.setIfInBounds_toArray, List.set_cons_zero, List.set_cons_succ]
        refine wpAnyH_take (i := 6) (oi := { dst := some 206, op := Op.move (Operand.tmp 5), type := 23, pos := "law.go:167", after := #[], guard := none }) (v := ?_) rfl (by kernel_rfl) (by kernel_rfl) (by kernel_rfl) (fun _ _ _ h => h) (Or.inl ⟨by rfl, ?_⟩) (by assumption) ?_
        rotate_left
        · (intro w hSw; (try dsimp only at hSw); go_simp) <;> with_reducible rfl
        try simp only [Act.put, List.setIfInBounds_toArray, List.set_cons_zero, List.set_cons_succ]
        refine wpAnyH_take (i := 7) (oi := { dst := some 207, op := Op.move (Operand.tmp 27), type := 3, pos := "law.go:167", after := #[], guard := none }) (v := ?_) rfl (by kernel_rfl) (by kernel_rfl) (by kernel_rfl) (fun _ _ _ h => h) (Or.inl ⟨by rfl, ?_⟩) (by assumption) ?_
        rotate_left
        · (intro w hSw; (try dsimp only at hSw); go_simp) <;> with_reducible rfl
        try simp only [Act.put, List.setIfInBounds_toArray, List.set_cons_zero, List.set_cons_succ]
        refine wpAnyH_take (i := 8) (oi := { dst := some 208, op := Op.indexAddr 23 (Operand.tmp 206) (Operand.tmp 207), type := 0, pos := "law.go:167", after := #[{ on := 6, ground := Ground.data }, { on := 7, ground := Ground.data }], guard := none }) (v := ?_) rfl (by kernel_rfl) (by kernel_rfl) (by kernel_rfl) (fun _ _ _ h => h) (Or.inl ⟨by rfl, ?_⟩) (by assumption) ?_
        rotate_left
        · (intro w hSw; (try dsimp only at hSw); go_simp) <;> with_reducible rfl
        try simp only [Act.put, List.setIfInBounds_toArray, List.set_cons_zero, List.set_cons_succ]
        refine wpAnyH_take (i := 9) (oi := { dst := some 209, op := Op.fieldAddr 50 (Operand.tmp 208) 1, type := 0, pos := "law.go:167", after := #[{ on := 8, ground := Ground.data }], guard := none }) (v := ?_) rfl (by kernel_rfl) (by kernel_rfl) (by kernel_rfl) (fun _ _ _ h => h) (Or.inl ⟨by rfl, ?_⟩) (by assumption) ?_
        rotate_left
        · (intro w hSw; (try dsimp only at hSw); go_simp) <;> with_reducible rfl
        try simp only [Act.put, List.setIfInBounds_toArray, List.set_cons_zero, List.set_cons_succ]
        refine wpAnyH_take (i := 10) (oi := { dst := some 210, op := Op.load 38 (Operand.tmp 209), type := 38, pos := "law.go:167", after := #[{ on := 9, ground := Ground.data }], guard := none }) (v := ?_) rfl (by kernel_rfl) (by kernel_rfl) (by kernel_rfl) (fun _ _ _ h => h) (Or.inl ⟨by rfl, ?_⟩) (by assumption) ?_
        rotate_left
        · (intro w hSw; (try dsimp only at hSw); go_simp) <;> with_reducible rfl
        try simp only [Act.put, List.setIfInBounds_toArray, List.set_cons_zero, List.set_cons_succ]
        refine wpAnyH_ready (rs := [11]) (by kernel_rfl) (by simp) ?_
        refine AllReadyH.cons (o := { dst := some 211, op := Op.call { callee := Callee.value (Operand.func 21), args := #[Operand.tmp 200, Operand.tmp 205, Operand.tmp 210], argTypes := #[43, 48, 38] }, type := 26, pos := "law.go:167", after := #[{ on := 0, ground := Ground.data }, { on := 5, ground := Ground.data }, { on := 10, ground := Ground.data }], guard := none }) rfl (fun K hK => ?_) AllReadyH.nil
        go_simp
        refine Calls.mono HP30.out ?_
        rintro y w30 ⟨rfl, hA, hk⟩
        have HT30 : Hid (Wd w w8 w30 d ws gs (A.putV (syD ws gs) vo eo mo) (A.putV (syD ws gs) vo eo mo) B B (C.putV syE vo eo mo) (C.putV syE vo eo mo)) := HT29.out.drew.refC hA hk
        have G30a := HKo.out _ HT30.out.be
        clear hA hk HP30 HT29
        refine hK.out _ _ G30a (fun hHeld => ?_)
        clear hK K
        refine wpAnyH_done (by kernel_rfl) ?_ _
        clear hHeld G30 G30a
        go_wp2
        go_roundw
        case rel => exact ⟨i + 1, _, _, _, by omega, by simp, ⟨AcD.putV_so HD.out HSo.out.1 _ _ _, HSo.out.2.1, AcD.putV_so HE.out HSo.out.2.2 _ _ _⟩, HT30⟩
        case measure => simp [intOf]; omega
    · by_cases hltt : i < lt.length
      · have hno : ¬ (i : Int) < (lo.length : Int) := by omega
        have hit : (i : Int) < (lt.length : Int) := by omega
        obtain ⟨bt, offt, hapt, hclt⟩ := HCt.out (fun q => by rw [q] at hltt; simp at hltt)
        subst hapt
        obtain ⟨⟨vt, et, mt⟩, hptt⟩ : ∃ s, lt[i]? = some s := ⟨lt[i], List.getElem?_eq_getElem hltt⟩
        have hgdt := HGt.out _ (List.mem_of_getElem? hptt)
        have HGdt : Hid (-128 ≤ vt ∧ vt ≤ 127) := hgdt.1
        have hc0t : w.cell? ⟨bt, offt + i * 3, none⟩ = some (.int .i8 vt) := hclt i _ hptt 0 _ rfl
        have hc1t : w.cell? ⟨bt, offt + i * 3 + 1, none⟩ = some (.int .u32 et) := hclt i _ hptt 1 _ rfl
        have hc2t : w.cell? ⟨bt, offt + i * 3 + 2, none⟩ = some (.int .u32 mt) := hclt i _ hptt 2 _ rfl
        have hblt : bt < w.heap.size := World.block_lt_of_cell? w _ hc0t
        have HKt : Hid (∀ W, Below w.heap.size w W → W.cell? ⟨bt, offt + i * 3, none⟩ = some (.int .i8 vt) ∧ W.cell? ⟨bt, offt + i * 3 + 1, none⟩ = some (.int .u32 et) ∧ W.cell? ⟨bt, offt + i * 3 + 2, none⟩ = some (.int .u32 mt)) := fun W h => ⟨(h.cell hblt).trans hc0t, (h.cell hblt).trans hc1t, (h.cell hblt).trans hc2t⟩
        clear hclt hptt hgdt hc0t hc1t hc2t hblt
        have G32 := HKt.out _ HW.out.be
        have HP32 : Hid (Calls Try.prog 20 #[.pointer (some ⟨d.pb, 0, none⟩), .int .i8 vt, zx et mt] wr.drew fun y w' => y = .returned (.int .i64 (putE (syD ws gs) vt)) ∧ IsAc w' d.pb d.s (B.putV (syD ws gs) vt et mt) ∧ Kept wr.drew w' (fun k => k = d.pb)) := put_gen HD.out HW.out.drew.sy1 HW.out.drew.pB HSo.out.2.1 vt et mt HGdt.out.1 HGdt.out.2
        go_wp2_with fail
        refine wp_region_held_drew (S := (fun W => W.cell? ⟨bt, offt + i * 3, none⟩ = some (.int .i8 vt) ∧ W.cell? ⟨bt, offt + i * 3 + 1, none⟩ = some (.int .u32 et) ∧ W.cell? ⟨bt, offt + i * 3 + 2, none⟩ = some (.int .u32 mt))) (by kernel_rfl) ?_ (fun hHeld => ?_)
        · exact G32
        refine wpAnyH_take (i := 0) (oi := { dst := some 216, op := Op.move (Operand.tmp 16), type := 33, pos := "law.go:170", after := #[], guard := none }) (v := ?_) rfl (by kernel_rfl) (by kernel_rfl) (by kernel_rfl) (fun _ _ _ h => h) (Or.inl ⟨by rfl, ?_⟩) (by assumption) ?_
        rotate_left
        · (intro w hSw; (try dsimp only at hSw); go_simp) <;> with_reducible rfl
        try simp only [Act.put, List.setIfInBounds_toArray, List.set_cons_zero, List.set_cons_succ]
        refine wpAnyH_take (i := 1) (oi := { dst := some 217, op := Op.move (Operand.tmp 6), type := 23, pos := "law.go:170", after := #[], guard := none }) (v := ?_) rfl (by kernel_rfl) (by kernel_rfl) (by kernel_rfl) (fun _ _ _ h => h) (Or.inl ⟨by rfl, ?_⟩) (by assumption) ?_
        rotate_left
        · (intro w hSw; (try dsimp only at hSw); go_simp) <;> with_reducible rfl
        try simp only [Act.put, List.setIfInBounds_toArray, List.set_cons_zero, List.set_cons_succ]
        refine wpAnyH_take (i := 2) (oi := { dst := some 218, op := Op.move (Operand.tmp 27), type := 3, pos := "law.go:170", after := #[], guard := none }) (v := ?_) rfl (by kernel_rfl) (by kernel_rfl) (by kernel_rfl) (fun _ _ _ h => h) (Or.inl ⟨by rfl, ?_⟩) (by assumption) ?_
        rotate_left
        · (intro w hSw; (try dsimp only at hSw); go_simp) <;> with_reducible rfl
        try simp only [Act.put, List.setIfInBounds_toArray, List.set_cons_zero, List.set_cons_succ]
        refine wpAnyH_take (i := 3) (oi := { dst := some 219, op := Op.indexAddr 23 (Operand.tmp 217) (Operand.tmp 218), type := 0, pos := "law.go:170", after := #[{ on := 1, ground := Ground.data }, { on := 2, ground := Ground.data }], guard := none }) (v := ?_) rfl (by kernel_rfl) (by kernel_rfl) (by kernel_rfl) (fun _ _ _ h => h) (Or.inl ⟨by rfl, ?_⟩) (by assumption) ?_
        rotate_left
        · (intro w hSw; (try dsimp only at hSw); go_simp) <;> with_reducible rfl
        try simp only [Act.put, List.setIfInBounds_toArray, List.set_cons_zero, List.set_cons_succ]
        refine wpAnyH_take (i := 4) (oi := { dst := some 220, op := Op.fieldAddr 50 (Operand.tmp 219) 0, type := 0, pos := "law.go:170", after := #[{ on := 3, ground := Ground.data }], guard := none }) (v := ?_) rfl (by kernel_rfl) (by kernel_rfl) (by kernel_rfl) (fun _ _ _ h => h) (Or.inl ⟨by rfl, ?_⟩) (by assumption) ?_
        rotate_left
        · (intro w hSw; (try dsimp only at hSw); go_simp) <;> with_reducible rfl
        try simp only [Act.put, List.setIfInBounds_toArray, List.set_cons_zero, List.set_cons_succ]
        refine wpAnyH_take (i := 5) (oi := { dst := some 221, op := Op.load 48 (Operand.tmp 220), type := 48, pos := "law.go:170", after := #[{ on := 4, ground := Ground.data }], guard := none }) (v := ?_) rfl (by kernel_rfl) (by kernel_rfl) (by kernel_rfl) (fun _ _ _ h => h) (Or.inl ⟨by rfl, ?_⟩) (by assumption) ?_
        rotate_left
        · (intro w hSw; (try dsimp only at hSw); go_simp) <;> with_reducible rfl
        try simp only [Act.put, List.setIfInBounds_toArray, List.set_cons_zero, List.set_cons_succ]
        refine wpAnyH_take (i := 6) (oi := { dst := some 222, op := Op.move (Operand.tmp 6), type := 23, pos := "law.go:170", after := #[], guard := none }) (v := ?_) rfl (by kernel_rfl) (by kernel_rfl) (by kernel_rfl) (fun _ _ _ h => h) (Or.inl ⟨by rfl, ?_⟩) (by assumption) ?_
        rotate_left
        · (intro w hSw; (try dsimp only at hSw); go_simp) <;> with_reducible rfl
        try simp only [Act.put, List.setIfInBounds_toArray, List.set_cons_zero, List.set_cons_succ]
        refine wpAnyH_take (i := 7) (oi := { dst := some 223, op := Op.move (Operand.tmp 27), type := 3, pos := "law.go:170", after := #[], guard := none }) (v := ?_) rfl (by kernel_rfl) (by kernel_rfl) (by kernel_rfl) (fun _ _ _ h => h) (Or.inl ⟨by rfl, ?_⟩) (by assumption) ?_
        rotate_left
        · (intro w hSw; (try dsimp only at hSw); go_simp) <;> with_reducible rfl
        try simp only [Act.put, List.setIfInBounds_toArray, List.set_cons_zero, List.set_cons_succ]
        refine wpAnyH_take (i := 8) (oi := { dst := some 224, op := Op.indexAddr 23 (Operand.tmp 222) (Operand.tmp 223), type := 0, pos := "law.go:170", after := #[{ on := 6, ground := Ground.data }, { on := 7, ground := Ground.data }], guard := none }) (v := ?_) rfl (by kernel_rfl) (by kernel_rfl) (by kernel_rfl) (fun _ _ _ h => h) (Or.inl ⟨by rfl, ?_⟩) (by assumption) ?_
        rotate_left
        · (intro w hSw; (try dsimp only at hSw); go_simp) <;> with_reducible rfl
        try simp only [Act.put, List.setIfInBounds_toArray, List.set_cons_zero, List.set_cons_succ]
        refine wpAnyH_take (i := 9) (oi := { dst := some 225, op := Op.fieldAddr 50 (Operand.tmp 224) 1, type := 0, pos := "law.go:170", after := #[{ on := 8, ground := Ground.data }], guard := none }) (v := ?_) rfl (by kernel_rfl) (by kernel_rfl) (by kernel_rfl) (fun _ _ _ h => h) (Or.inl ⟨by rfl, ?_⟩) (by assumption) ?_
        rotate_left
        · (intro w hSw; (try dsimp only at hSw); go_simp) <;> with_reducible rfl
        try simp only [Act.put, List.setIfInBounds_toArray, List.set_cons_zero, List.set_cons_succ]
        refine wpAnyH_take (i := 10) (oi := { dst := some 226, op := Op.load 38 (Operand.tmp 225), type := 38, pos := "law.go:170", after := #[{ on := 9, ground := Ground.data }], guard := none }) (v := ?_) rfl (by kernel_rfl) (by kernel_rfl) (by kernel_rfl) (fun _ _ _ h => h) (Or.inl ⟨by rfl, ?_⟩) (by assumption) ?_
        rotate_left
        · (intro w hSw; (try dsimp only at hSw); go_simp) <;> with_reducible rfl
        try simp only [Act.put, List.setIfInBounds_toArray, List.set_cons_zero, List.set_cons_succ]
        refine wpAnyH_ready (rs := [11]) (by kernel_rfl) (by simp) ?_
        refine AllReadyH.cons (o := { dst := some 227, op := Op.call { callee := Callee.value (Operand.func 20), args := #[Operand.tmp 216, Operand.tmp 221, Operand.tmp 226], argTypes := #[33, 48, 38] }, type := 26, pos := "law.go:170", after := #[{ on := 0, ground := Ground.data }, { on := 5, ground := Ground.data }, { on := 10, ground := Ground.data }], guard := none }) rfl (fun K hK => ?_) AllReadyH.nil
        go_simp
        refine Calls.mono HP32.out ?_
        rintro y w32 ⟨rfl, hA, hk⟩
        have HT32 : Hid (Wd w w8 w32 d ws gs A A (B.putV (syD ws gs) vt et mt) B C C) := HW.out.drew.putB hA hk
        have G32a := HKt.out _ HT32.out.be
        clear hA hk HP32 HW
        refine hK.out _ _ G32a (fun hHeld => ?_)
        clear hK K
        refine wpAnyH_done (by kernel_rfl) ?_ _
        clear hHeld G32 G32a
        have G33 := HKt.out _ HT32.out.be
        have HP33 : Hid (Calls Try.prog 21 #[.pointer (some ⟨d.Bb, 0, none⟩), .int .i8 vt, zx et mt] w32.drew fun y w' => y = .returned (.int .i64 (putE (syD ws gs) vt)) ∧ Rax w' d.Bb d.Bc d.r ws.length (B.putV (syD ws gs) vt et mt) ∧ Kept w32.drew w' (fun k => d.Bb ≤ k ∧ k < d.Bc)) := put_x HOK.out HT32.out.drew.ds1 HT32.out.drew.rB vt et mt HGdt.out.1 HGdt.out.2
        go_wp2_with fail
        refine wp_region_held_drew (S := (fun W => W.cell? ⟨bt, offt + i * 3, none⟩ = some (.int .i8 vt) ∧ W.cell? ⟨bt, offt + i * 3 + 1, none⟩ = some (.int .u32 et) ∧ W.cell? ⟨bt, offt + i * 3 + 2, none⟩ = some (.int .u32 mt))) (by kernel_rfl) ?_ (fun hHeld => ?_)
        · exact G33
        refine wpAnyH_take (i := 0) (oi := { dst := some 228, op := Op.move (Operand.tmp 25), type := 43, pos := "law.go:171", after := #[], guard := none }) (v := ?_) rfl (by kernel_rfl) (by kernel_rfl) (by kernel_rfl) (fun _ _ _ h => h) (Or.inl ⟨by rfl, ?_⟩) (by assumption) ?_
        rotate_left
        · (intro w hSw; (try dsimp only at hSw); go_simp) <;> with_reducible rfl
        try simp only [Act.put, List.setIfInBounds_toArray, List.set_cons_zero, List.set_cons_succ]
        refine wpAnyH_take (i := 1) (oi := { dst := some 229, op := Op.move (Operand.tmp 6), type := 23, pos := "law.go:171", after := #[], guard := none }) (v := ?_) rfl (by kernel_rfl) (by kernel_rfl) (by kernel_rfl) (fun _ _ _ h => h) (Or.inl ⟨by rfl, ?_⟩) (by assumption) ?_
        rotate_left
        · (intro w hSw; (try dsimp only at hSw); go_simp) <;> with_reducible rfl
        try simp only [Act.put, List.setIfInBounds_toArray, List.set_cons_zero, List.set_cons_succ]
        refine wpAnyH_take (i := 2) (oi := { dst := some 230, op := Op.move (Operand.tmp 27), type := 3, pos := "law.go:171", after := #[], guard := none }) (v := ?_) rfl (by kernel_rfl) (by kernel_rfl) (by kernel_rfl) (fun _ _ _ h => h) (Or.inl ⟨by rfl, ?_⟩) (by assumption) ?_
        rotate_left
        · (intro w hSw; (try dsimp only at hSw); go_simp) <;> with_reducible rfl
        try simp only [Act.put, List.setIfInBounds_toArray, List.set_cons_zero, List.set_cons_succ]
        refine wpAnyH_take (i := 3) (oi := { dst := some 231, op := Op.indexAddr 23 (Operand.tmp 229) (Operand.tmp 230), type := 0, pos := "law.go:171", after := #[{ on := 1, ground := Ground.data }, { on := 2, ground := Ground.data }], guard := none }) (v := ?_) rfl (by kernel_rfl) (by kernel_rfl) (by kernel_rfl) (fun _ _ _ h => h) (Or.inl ⟨by rfl, ?_⟩) (by assumption) ?_
        rotate_left
        · (intro w hSw; (try dsimp only at hSw); go_simp) <;> with_reducible rfl
        try simp only [Act.put, List.setIfInBounds_toArray, List.set_cons_zero, List.set_cons_succ]
        refine wpAnyH_take (i := 4) (oi := { dst := some 232, op := Op.fieldAddr 50 (Operand.tmp 231) 0, type := 0, pos := "law.go:171", after := #[{ on := 3, ground := Ground.data }], guard := none }) (v := ?_) rfl (by kernel_rfl) (by kernel_rfl) (by kernel_rfl) (fun _ _ _ h => h) (Or.inl ⟨by rfl, ?_⟩) (by assumption) ?_
        rotate_left
        · (intro w hSw; (try dsimp only at hSw); go_simp) <;> with_reducible rfl
        try simp only [Act.put, List.setIfInBounds_toArray, List.set_cons_zero, List.set_cons_succ]
        refine wpAnyH_take (i := 5) (oi := { dst := some 233, op := Op.load 48 (Operand.tmp 232), type := 48, pos := "law.go:171", after := #[{ on := 4, ground := Ground.data }], guard := none }) (v := ?_) rfl (by kernel_rfl) (by kernel_rfl) (by kernel_rfl) (fun _ _ _ h => h) (Or.inl ⟨by rfl, ?_⟩) (by assumption) ?_
        rotate_left
        · (intro w hSw; (try dsimp only at hSw); go_simp) <;> with_reducible rfl
        try simp only [Act.put, List.setIfInBounds_toArray, List.set_cons_zero, List.set_cons_succ]
        refine wpAnyH_take (i := 6) (oi := { dst := some 234, op := Op.move (Operand.tmp 6), type := 23, pos := "law.go:171", after := #[], guard := none }) (v := ?_) rfl (by kernel_rfl) (by kernel_rfl) (by kernel_rfl) (fun _ _ _ h => h) (Or.inl ⟨by rfl, ?_⟩) (by assumption) ?_
        rotate_left
        · (intro w hSw; (try dsimp only at hSw); go_simp) <;> with_reducible rfl
        try simp only [Act.put, List.setIfInBounds_toArray, List.set_cons_zero, List.set_cons_succ]
        refine wpAnyH_take (i := 7) (oi := { dst := some 235, op := Op.move (Operand.tmp 27), type := 3, pos := "law.go:171", after := #[], guard := none }) (v := ?_) rfl (by kernel_rfl) (by kernel_rfl) (by kernel_rfl) (fun _ _ _ h => h) (Or.inl ⟨by rfl, ?_⟩) (by assumption) ?_
        rotate_left
        · (intro w hSw; (try dsimp only at hSw); go_simp) <;> with_reducible rfl
        try simp only [Act.put, List.setIfInBounds_toArray, List.set_cons_zero, List.set_cons_succ]
        refine wpAnyH_take (i := 8) (oi := { dst := some 236, op := Op.indexAddr 23 (Operand.tmp 234) (Operand.tmp 235), type := 0, pos := "law.go:171", after := #[{ on := 6, ground := Ground.data }, { on := 7, ground := Ground.data }], guard := none }) (v := ?_) rfl (by kernel_rfl) (by kernel_rfl) (by kernel_rfl) (fun _ _ _ h => h) (Or.inl ⟨by rfl, ?_⟩) (by assumption) ?_
        rotate_left
        · (intro w hSw; (try dsimp only at hSw); go_simp) <;> with_reducible rfl
        try simp only [Act.put, List.setIfInBounds_toArray, List.set_cons_zero, List.set_cons_succ]
        refine wpAnyH_take (i := 9) (oi := { dst := some 237, op := Op.fieldAddr 50 (Operand.tmp 236) 1, type := 0, pos := "law.go:171", after := #[{ on := 8, ground := Ground.data }], guard := none }) (v := ?_) rfl (by kernel_rfl) (by kernel_rfl) (by kernel_rfl) (fun _ _ _ h => h) (Or.inl ⟨by rfl, ?_⟩) (by assumption) ?_
        rotate_left
        · (intro w hSw; (try dsimp only at hSw); go_simp) <;> with_reducible rfl
        try simp only [Act.put, List.setIfInBounds_toArray, List.set_cons_zero, List.set_cons_succ]
        refine wpAnyH_take (i := 10) (oi := { dst := some 238, op := Op.load 38 (Operand.tmp 237), type := 38, pos := "law.go:171", after := #[{ on := 9, ground := Ground.data }], guard := none }) (v := ?_) rfl (by kernel_rfl) (by kernel_rfl) (by kernel_rfl) (fun _ _ _ h => h) (Or.inl ⟨by rfl, ?_⟩) (by assumption) ?_
        rotate_left
        · (intro w hSw; (try dsimp only at hSw); go_simp) <;> with_reducible rfl
        try simp only [Act.put, List.setIfInBounds_toArray, List.set_cons_zero, List.set_cons_succ]
        refine wpAnyH_ready (rs := [11]) (by kernel_rfl) (by simp) ?_
        refine AllReadyH.cons (o := { dst := some 239, op := Op.call { callee := Callee.value (Operand.func 21), args := #[Operand.tmp 228, Operand.tmp 233, Operand.tmp 238], argTypes := #[43, 48, 38] }, type := 26, pos := "law.go:171", after := #[{ on := 0, ground := Ground.data }, { on := 5, ground := Ground.data }, { on := 10, ground := Ground.data }], guard := none }) rfl (fun K hK => ?_) AllReadyH.nil
        go_simp
        refine Calls.mono HP33.out ?_
        rintro y w33 ⟨rfl, hA, hk⟩
        have HT33 : Hid (Wd w w8 w33 d ws gs A A (B.putV (syD ws gs) vt et mt) (B.putV (syD ws gs) vt et mt) C C) := HT32.out.drew.refB hA hk
        have G33a := HKt.out _ HT33.out.be
        clear hA hk HP33 HT32
        refine hK.out _ _ G33a (fun hHeld => ?_)
        clear hK K
        refine wpAnyH_done (by kernel_rfl) ?_ _
        clear hHeld G33 G33a
        go_wp2
        go_roundw
        case rel => exact ⟨i + 1, _, _, _, by omega, by simp, ⟨HSo.out.1, AcD.putV_so HD.out HSo.out.2.1 _ _ _, HSo.out.2.2⟩, HT33⟩
        case measure => simp [intOf]; omega
      · have hno : ¬ (i : Int) < (lo.length : Int) := by omega
        have hnt : ¬ (i : Int) < (lt.length : Int) := by omega
        obtain ⟨fa, za, ya, hcoma⟩ : ∃ f z y, A.com (syD ws gs) (syD ws gs).n = (f, z, y) := ⟨_, _, _, rfl⟩
        have HCma : Hid (A.com (syD ws gs) (syD ws gs).n = (fa, za, ya)) := hcoma
        clear hcoma
        obtain ⟨fb, zb, yb, hcomb⟩ : ∃ f z y, B.com (syD ws gs) (syD ws gs).n = (f, z, y) := ⟨_, _, _, rfl⟩
        have HCmb : Hid (B.com (syD ws gs) (syD ws gs).n = (fb, zb, yb)) := hcomb
        clear hcomb
        obtain ⟨fc, zc, yc, hcomc⟩ : ∃ f z y, C.com syE syE.n = (f, z, y) := ⟨_, _, _, rfl⟩
        have HCmc : Hid (C.com syE syE.n = (fc, zc, yc)) := hcomc
        clear hcomc
        have hcc := com_any HD.out HW.out.sy1 HW.out.pA HSo.out.1
        rw [HCma.out] at hcc
        have HC34 : Hid (Calls Try.prog 16 #[.pointer (some ⟨d.pa, 0, none⟩)] wr fun y w' => y = .returned (.tuple #[zx za ya, .bool fa]) ∧ Below wr.heap.size wr w') := hcc
        clear hcc
        go_wp2_with fail
        refine Calls.mono HC34.out ?_
        rintro e w34 ⟨rfl, hb⟩
        obtain ⟨b34, hbx⟩ : ∃ b, b = w34.heap.size := ⟨_, rfl⟩
        obtain ⟨V34, hV⟩ : ∃ V, V = w34.alloc (.cells #[.int .u32 za, .int .u32 ya] 38) := ⟨_, rfl⟩
        have HT34 : Hid (Wd w w8 V34 d ws gs A A B B C C) := by rw [hV]; exact (HW.out.later hb).later (one_alloc _ _)
        have HX34 : Hid (V34.heap[b34]? = some (.cells #[.int .u32 za, .int .u32 ya] 38 (0, 0))) := by rw [hV, hbx]; exact heap_alloc_new _ _
        have HV34 : Hid (w34.alloc (.cells #[.int .u32 za, .int .u32 ya] 38) = V34) := hV.symm
        have HBx34 : Hid (w34.heap.size = b34) := hbx.symm
        clear hV hbx hb HC34 HW
        go_upto_region 35 with fail
        rw [HV34.out, HBx34.out]
        clear HV34 HBx34
        have hcc := com_any HD.out HT34.out.sy1 HT34.out.pB HSo.out.2.1
        rw [HCmb.out] at hcc
        have HC35 : Hid (Calls Try.prog 16 #[.pointer (some ⟨d.pb, 0, none⟩)] V34 fun y w' => y = .returned (.tuple #[zx zb yb, .bool fb]) ∧ Below V34.heap.size V34 w') := hcc
        clear hcc
        go_wp2_with fail
        refine Calls.mono HC35.out ?_
        rintro e w35 ⟨rfl, hb⟩
        obtain ⟨b35, hbx⟩ : ∃ b, b = w35.heap.size := ⟨_, rfl⟩
        obtain ⟨V35, hV⟩ : ∃ V, V = w35.alloc (.cells #[.int .u32 zb, .int .u32 yb] 38) := ⟨_, rfl⟩
        have HT35 : Hid (Wd w w8 V35 d ws gs A A B B C C) := by rw [hV]; exact (HT34.out.later hb).later (one_alloc _ _)
        have HX35 : Hid (V35.heap[b35]? = some (.cells #[.int .u32 zb, .int .u32 yb] 38 (0, 0))) := by rw [hV, hbx]; exact heap_alloc_new _ _
        have HX34 : Hid (V35.heap[b34]? = some (.cells #[.int .u32 za, .int .u32 ya] 38 (0, 0))) := by rw [hV]; exact keepH (one_alloc _ _) (keepH hb HX34.out)
        have HV35 : Hid (w35.alloc (.cells #[.int .u32 zb, .int .u32 yb] 38) = V35) := hV.symm
        have HBx35 : Hid (w35.heap.size = b35) := hbx.symm
        clear hV hbx hb HC35 HT34
        go_upto_region 36 with fail
        rw [HV35.out, HBx35.out]
        clear HV35 HBx35
        have hcc := com_any HE.out HT35.out.sy2 HT35.out.pC HSo.out.2.2
        rw [HCmc.out] at hcc
        have HC36 : Hid (Calls Try.prog 16 #[.pointer (some ⟨d.pc, 0, none⟩)] V35 fun y w' => y = .returned (.tuple #[zx zc yc, .bool fc]) ∧ Below V35.heap.size V35 w') := hcc
        clear hcc
        go_wp2_with fail
        refine Calls.mono HC36.out ?_
        rintro e w36 ⟨rfl, hb⟩
        obtain ⟨b36, hbx⟩ : ∃ b, b = w36.heap.size := ⟨_, rfl⟩
        obtain ⟨V36, hV⟩ : ∃ V, V = w36.alloc (.cells #[.int .u32 zc, .int .u32 yc] 38) := ⟨_, rfl⟩
        have HT36 : Hid (Wd w w8 V36 d ws gs A A B B C C) := by rw [hV]; exact (HT35.out.later hb).later (one_alloc _ _)
        have HX36 : Hid (V36.heap[b36]? = some (.cells #[.int .u32 zc, .int .u32 yc] 38 (0, 0))) := by rw [hV, hbx]; exact heap_alloc_new _ _
        have HX34 : Hid (V36.heap[b34]? = some (.cells #[.int .u32 za, .int .u32 ya] 38 (0, 0))) := by rw [hV]; exact keepH (one_alloc _ _) (keepH hb HX34.out)
        have HX35 : Hid (V36.heap[b35]? = some (.cells #[.int .u32 zb, .int .u32 yb] 38 (0, 0))) := by rw [hV]; exact keepH (one_alloc _ _) (keepH hb HX35.out)
        have HV36 : Hid (w36.alloc (.cells #[.int .u32 zc, .int .u32 yc] 38) = V36) := hV.symm
        have HBx36 : Hid (w36.heap.size = b36) := hbx.symm
        clear hV hbx hb HC36 HT35
        go_upto_region 37 with fail
        rw [HV36.out, HBx36.out]
        clear HV36 HBx36
        have hcc := com_x HOK.out HT36.out.ds1 HT36.out.rA
        rw [HCma.out] at hcc
        have HC37 : Hid (Calls Try.prog 17 #[.pointer (some ⟨d.Ba, 0, none⟩)] V36 fun y w' => y = .returned (.tuple #[zx za ya, .bool fa]) ∧ Below V36.heap.size V36 w') := hcc
        clear hcc
        go_wp2_with fail
        refine Calls.mono HC37.out ?_
        rintro e w37 ⟨rfl, hb⟩
        obtain ⟨b37, hbx⟩ : ∃ b, b = w37.heap.size := ⟨_, rfl⟩
        obtain ⟨V37, hV⟩ : ∃ V, V = w37.alloc (.cells #[.int .u32 za, .int .u32 ya] 38) := ⟨_, rfl⟩
        have HT37 : Hid (Wd w w8 V37 d ws gs A A B B C C) := by rw [hV]; exact (HT36.out.later hb).later (one_alloc _ _)
        have HX37 : Hid (V37.heap[b37]? = some (.cells #[.int .u32 za, .int .u32 ya] 38 (0, 0))) := by rw [hV, hbx]; exact heap_alloc_new _ _
        have HX34 : Hid (V37.heap[b34]? = some (.cells #[.int .u32 za, .int .u32 ya] 38 (0, 0))) := by rw [hV]; exact keepH (one_alloc _ _) (keepH hb HX34.out)
        have HX35 : Hid (V37.heap[b35]? = some (.cells #[.int .u32 zb, .int .u32 yb] 38 (0, 0))) := by rw [hV]; exact keepH (one_alloc _ _) (keepH hb HX35.out)
        have HX36 : Hid (V37.heap[b36]? = some (.cells #[.int .u32 zc, .int .u32 yc] 38 (0, 0))) := by rw [hV]; exact keepH (one_alloc _ _) (keepH hb HX36.out)
        have HV37 : Hid (w37.alloc (.cells #[.int .u32 za, .int .u32 ya] 38) = V37) := hV.symm
        have HBx37 : Hid (w37.heap.size = b37) := hbx.symm
        clear hV hbx hb HC37 HT36
        go_upto_region 38 with fail
        rw [HV37.out, HBx37.out]
        clear HV37 HBx37
        have hcc := com_x HOK.out HT37.out.ds1 HT37.out.rB
        rw [HCmb.out] at hcc
        have HC38 : Hid (Calls Try.prog 17 #[.pointer (some ⟨d.Bb, 0, none⟩)] V37 fun y w' => y = .returned (.tuple #[zx zb yb, .bool fb]) ∧ Below V37.heap.size V37 w') := hcc
        clear hcc
        go_wp2_with fail
        refine Calls.mono HC38.out ?_
        rintro e w38 ⟨rfl, hb⟩
        obtain ⟨b38, hbx⟩ : ∃ b, b = w38.heap.size := ⟨_, rfl⟩
        obtain ⟨V38, hV⟩ : ∃ V, V = w38.alloc (.cells #[.int .u32 zb, .int .u32 yb] 38) := ⟨_, rfl⟩
        have HT38 : Hid (Wd w w8 V38 d ws gs A A B B C C) := by rw [hV]; exact (HT37.out.later hb).later (one_alloc _ _)
        have HX38 : Hid (V38.heap[b38]? = some (.cells #[.int .u32 zb, .int .u32 yb] 38 (0, 0))) := by rw [hV, hbx]; exact heap_alloc_new _ _
        have HX34 : Hid (V38.heap[b34]? = some (.cells #[.int .u32 za, .int .u32 ya] 38 (0, 0))) := by rw [hV]; exact keepH (one_alloc _ _) (keepH hb HX34.out)
        have HX35 : Hid (V38.heap[b35]? = some (.cells #[.int .u32 zb, .int .u32 yb] 38 (0, 0))) := by rw [hV]; exact keepH (one_alloc _ _) (keepH hb HX35.out)
        have HX36 : Hid (V38.heap[b36]? = some (.cells #[.int .u32 zc, .int .u32 yc] 38 (0, 0))) := by rw [hV]; exact keepH (one_alloc _ _) (keepH hb HX36.out)
        have HX37 : Hid (V38.heap[b37]? = some (.cells #[.int .u32 za, .int .u32 ya] 38 (0, 0))) := by rw [hV]; exact keepH (one_alloc _ _) (keepH hb HX37.out)
        have HV38 : Hid (w38.alloc (.cells #[.int .u32 zb, .int .u32 yb] 38) = V38) := hV.symm
        have HBx38 : Hid (w38.heap.size = b38) := hbx.symm
        clear hV hbx hb HC38 HT37
        go_upto_region 39 with fail
        rw [HV38.out, HBx38.out]
        clear HV38 HBx38
        have hcc := com_x okE HT38.out.ds2 HT38.out.rC
        rw [HCmc.out] at hcc
        have HC39 : Hid (Calls Try.prog 17 #[.pointer (some ⟨d.Bc, 0, none⟩)] V38 fun y w' => y = .returned (.tuple #[zx zc yc, .bool fc]) ∧ Below V38.heap.size V38 w') := hcc
        clear hcc
        go_wp2_with fail
        refine Calls.mono HC39.out ?_
        rintro e w39 ⟨rfl, hb⟩
        obtain ⟨b39, hbx⟩ : ∃ b, b = w39.heap.size := ⟨_, rfl⟩
        obtain ⟨V39, hV⟩ : ∃ V, V = w39.alloc (.cells #[.int .u32 zc, .int .u32 yc] 38) := ⟨_, rfl⟩
        have HT39 : Hid (Wd w w8 V39 d ws gs A A B B C C) := by rw [hV]; exact (HT38.out.later hb).later (one_alloc _ _)
        have HX39 : Hid (V39.heap[b39]? = some (.cells #[.int .u32 zc, .int .u32 yc] 38 (0, 0))) := by rw [hV, hbx]; exact heap_alloc_new _ _
        have HX34 : Hid (V39.heap[b34]? = some (.cells #[.int .u32 za, .int .u32 ya] 38 (0, 0))) := by rw [hV]; exact keepH (one_alloc _ _) (keepH hb HX34.out)
        have HX35 : Hid (V39.heap[b35]? = some (.cells #[.int .u32 zb, .int .u32 yb] 38 (0, 0))) := by rw [hV]; exact keepH (one_alloc _ _) (keepH hb HX35.out)
        have HX36 : Hid (V39.heap[b36]? = some (.cells #[.int .u32 zc, .int .u32 yc] 38 (0, 0))) := by rw [hV]; exact keepH (one_alloc _ _) (keepH hb HX36.out)
        have HX37 : Hid (V39.heap[b37]? = some (.cells #[.int .u32 za, .int .u32 ya] 38 (0, 0))) := by rw [hV]; exact keepH (one_alloc _ _) (keepH hb HX37.out)
        have HX38 : Hid (V39.heap[b38]? = some (.cells #[.int .u32 zb, .int .u32 yb] 38 (0, 0))) := by rw [hV]; exact keepH (one_alloc _ _) (keepH hb HX38.out)
        have HV39 : Hid (w39.alloc (.cells #[.int .u32 zc, .int .u32 yc] 38) = V39) := hV.symm
        have HBx39 : Hid (w39.heap.size = b39) := hbx.symm
        clear hV hbx hb HC39 HT38
        go_upto_region 40 with fail
        rw [HV39.out, HBx39.out]
        clear HV39 HBx39
        have k34a := cell_of_row _ _ 0 _ _ _ HX34.out
        have k34b := cell_of_row _ _ 1 _ _ _ HX34.out
        have k35a := cell_of_row _ _ 0 _ _ _ HX35.out
        have k35b := cell_of_row _ _ 1 _ _ _ HX35.out
        have k36a := cell_of_row _ _ 0 _ _ _ HX36.out
        have k36b := cell_of_row _ _ 1 _ _ _ HX36.out
        have k37a := cell_of_row _ _ 0 _ _ _ HX37.out
        have k37b := cell_of_row _ _ 1 _ _ _ HX37.out
        have k38a := cell_of_row _ _ 0 _ _ _ HX38.out
        have k38b := cell_of_row _ _ 1 _ _ _ HX38.out
        have k39a := cell_of_row _ _ 0 _ _ _ HX39.out
        have k39b := cell_of_row _ _ 1 _ _ _ HX39.out
        have HBe : Hid (Below w.heap.size w V39) := HT39.out.be
        have hza := eqZxQ za ya
        have hfa : (fa == fa) = true := by cases fa <;> rfl
        have hzb := eqZxQ zb yb
        have hfb : (fb == fb) = true := by cases fb <;> rfl
        have hzc := eqZxQ zc yc
        have hfc : (fc == fc) = true := by cases fc <;> rfl
        clear HT39
        go_wp2
        all_goals (go_ret; exact ⟨by first | rfl | simp, HBe.out⟩)

end Go.Proofs.Ytlnoighjdmjdeaa
