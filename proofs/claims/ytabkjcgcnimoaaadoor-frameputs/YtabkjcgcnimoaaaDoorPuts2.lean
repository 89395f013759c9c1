/- The walk of FramePuts. -/
import Derived.Test.YtabkjcgcnimoaaaDoorPuts1
import Derived.Test.YtabkjcgcnimoaaaDoorShell
namespace Go.Proofs.YtabkjcgcnimoaaaDoor
open Go.ChangeShapes Go.WideShapes Go.ChangeAt Go.RowKit
set_option maxRecDepth 8000
namespace framePuts
set_option linter.unusedVariables false

theorem big (v0 v1 : Value) (xs ys : List Int) (w : World) (h0 : Sees w v0 xs) (h1 : Sees w v1 ys) (hbig : 2147483647 < xs.length ∨ 2147483647 < ys.length) :
    Calls Tryd.prog 3 #[v0, v1] w fun e w' => e = .returned (.bool true) ∧ Below w.heap.size w w' := by
  obtain ⟨ao, cap, rfl, g1, g2, g0, g3⟩ := h0
  obtain ⟨bo, cbp, rfl, k1, k2, k0, k3⟩ := h1
  clear g3 g0 k3 k0
  unfold maxLen at g2 k2
  by_cases hx : 2147483647 < xs.length
  · have d0 : decide (2147483647 < (xs.length : Int)) = true := by simp only [decide_eq_true_eq]; omega
    go_enter Tryd.func3, Tryd.ntmps3
    go_wp2
    go_ret
    exact ⟨rfl, Below.refl _ _⟩
  · have d0 : decide (2147483647 < (xs.length : Int)) = false := by simp only [decide_eq_false_iff_not]; omega
    have d1 : decide (2147483647 < (ys.length : Int)) = true := by simp only [decide_eq_true_eq]; omega
    go_enter Tryd.func3, Tryd.ntmps3
    go_wp2
    go_ret
    exact ⟨rfl, Below.refl _ _⟩

theorem oBytes_len (ys : List Int) : (oBytes ys).length ≤ ys.length := by
  unfold oBytes
  split
  · simp; omega
  · simp

theorem bag_laid {X : World} (B : Nat) (hB : B ≤ X.heap.size) (ks : List Pc) (cs : Array Value) (hcs : cs = (ks.map Pc.val).toArray) (hn : ks.length ≤ 600) :
    BagIs ((X.alloc (.cells (bagCells nilS nilS) 53)).alloc (.cells cs 22)) X.heap.size nilS nilS [] [] B ∧ SeesPcs ((X.alloc (.cells (bagCells nilS nilS) 53)).alloc (.cells cs 22)) 22 (.slice (some ⟨X.heap.size + 1, 0, none⟩) ks.length ks.length) ks ∧ B ≤ ((X.alloc (.cells (bagCells nilS nilS) 53)).alloc (.cells cs 22)).heap.size ∧ Kept X ((X.alloc (.cells (bagCells nilS nilS) 53)).alloc (.cells cs 22)) (fun _ => False) ∧ Lies ((X.alloc (.cells (bagCells nilS nilS) 53)).alloc (.cells cs 22)) 22 ⟨some ⟨X.heap.size + 1, 0, none⟩, ks.length, ks.length⟩ := by
  have r1 : ((X.alloc (.cells (bagCells nilS nilS) 53)).alloc (.cells cs 22)).heap[X.heap.size]? = some (.cells (bagCells nilS nilS) 53 (0, 0)) := by
    rw [Below.heap_alloc _ _ _ (by simp)]; exact heap_alloc_new _ _
  have r2 : ((X.alloc (.cells (bagCells nilS nilS) 53)).alloc (.cells cs 22)).heap[X.heap.size + 1]? = some (.cells cs 22 (0, 0)) := by
    have := heap_alloc_new (X.alloc (.cells (bagCells nilS nilS) 53)) (.cells cs 22)
    rwa [World.size_alloc] at this
  have hk : Kept X ((X.alloc (.cells (bagCells nilS nilS) 53)).alloc (.cells cs 22)) (fun _ => False) := ((Kept.refl X _).alloc _).alloc _
  have hz : cs.size = ks.length := by rw [hcs]; simp
  refine ⟨⟨r1, World.ownsRow_nil _ _ _ _, World.ownsRow_nil _ _ _ _⟩, ⟨_, _, rfl, Nat.le_refl _, by unfold maxLen; omega, .inr ⟨_, _, rfl, ⟨_, _, r2⟩, fun i hi => ?_⟩⟩, Nat.le_trans hB hk.size, hk, ⟨Nat.le_refl _, by show ks.length ≤ maxLen; unfold maxLen; omega, fun e => by simp at e, fun _ => ⟨_, _, _, rfl, r2, by show 0 + ks.length ≤ _; omega⟩⟩⟩
  rw [Nat.zero_add, cell_of_row _ _ _ _ _ _ r2, hcs]
  simp [hi]

set_option maxHeartbeats 4000000 in
theorem main (v0 v1 : Value) (xs ys : List Int) (w : World) (h0 : Sees w v0 xs) (h1 : Sees w v1 ys) (hb0 : Byts xs) (hb1 : Byts ys) (hx : xs.length ≤ 2147483647) (hy : ys.length ≤ 2147483647) (ht : Tab w) (hg0 : 0 < w.heap.size) :
    Calls Tryd.prog 3 #[v0, v1] w fun e w' => e = .returned (.bool true) ∧ Below w.heap.size w w' := by
  have H : Hid (Sees w v0 xs ∧ Sees w v1 ys ∧ Byts xs ∧ Byts ys ∧ Tab w) := ⟨h0, h1, hb0, hb1, ht⟩
  obtain ⟨ao, cap, rfl, g1, g2, g0, g3⟩ := h0
  obtain ⟨bo, cbp, rfl, k1, k2, k0, k3⟩ := h1
  clear g3 g0 k3 k0 hb0 hb1 ht
  unfold maxLen at g2 k2
  have d0 : decide (2147483647 < (xs.length : Int)) = false := by simp only [decide_eq_false_iff_not]; omega
  have d1 : decide (2147483647 < (ys.length : Int)) = false := by simp only [decide_eq_false_iff_not]; omega
  go_enter Tryd.func3, Tryd.ntmps3
  go_wp2_with fail
  refine (lives_any _).mono ?_
  rintro e w1 ⟨rfl, hb1⟩
  have HB1 : Hid (Below w.heap.size w w1) := hb1
  clear hb1
  go_wp2_with fail
  refine (wideBytes_any _ xs _ (H.out.1.below HB1.out (Nat.le_refl _)) (by omega)).mono ?_
  rintro e w2 ⟨rfl, hown, hb2⟩
  obtain ⟨g, hg⟩ : ∃ g, g = w1.heap.size := ⟨_, rfl⟩
  have hzl := wide_len xs
  have HW : Hid ((wide xs).length = xs.length + 64 ∧ (wide xs).take xs.length = xs ∧ ∀ j, xs.length ≤ j → j < xs.length + 64 → (wide xs).getD j 0 = 170 + (j : Int) % 5) := ⟨hzl, wide_take xs, fun j h1 h2 => by rw [wide_nth xs j h2, if_neg (by omega)]⟩
  rw [← hg]
  have S2 : Hid (St w1.heap.size g xs.length [] (wide xs) w2 ∧ Below w.heap.size w w2) := by
    rw [← hg] at hown
    exact ⟨⟨fun p hp => by simp at hp, List.Pairwise.nil, by rw [hg] at hown ⊢; exact hown, fun p hp => by simp at hp, hb2.size⟩, HB1.out.trans (hb2.mono HB1.out.size)⟩
  have hgw : g < w2.heap.size := rows_lt S2.out.1.inn rfl
  clear hown hb2 hzl hg
  have HBz : Hid (Byts (wide xs)) := byts_wide H.out.2.2.1
  generalize wide xs = zs at *
  have HIn : Hid (∀ {m : List (Value × List Int)} {wx : World}, St w1.heap.size g xs.length m zs wx → Sees wx (.slice (some ⟨g, 0, none⟩) xs.length (xs.length + 64)) xs) := fun h => by
    have := h.input HW.out.1
    rw [HW.out.2.1] at this
    exact this
  go_wp2_with fail
  refine Calls.mono (refPut_u _ xs _ (H.out.1.below S2.out.2 (Nat.le_refl _)) H.out.2.2.1) ?_
  rintro e w3 ⟨a1, n1, c1, rfl, ho, hb⟩
  have S3 : Hid (St w1.heap.size g xs.length [(.slice a1 n1 c1, pBytes xs)] zs w3 ∧ Below w.heap.size w w3) := ⟨S2.out.1.add hb ho, S2.out.2.trans (hb.mono S2.out.2.size)⟩
  clear ho hb
  go_wp2_with fail
  refine Calls.mono (refPut_u _ ys _ (H.out.2.1.below S3.out.2 (Nat.le_refl _)) H.out.2.2.2.1) ?_
  rintro e w4 ⟨a2, n2, c2, rfl, ho, hb⟩
  have S4 : Hid (St w1.heap.size g xs.length [(.slice a2 n2 c2, pBytes ys), (.slice a1 n1 c1, pBytes xs)] zs w4 ∧ Below w.heap.size w w4) := ⟨S3.out.1.add hb ho, S3.out.2.trans (hb.mono S3.out.2.size)⟩
  clear ho hb
  go_wp2_with fail
  refine Calls.mono (put_u _ xs _ (HIn.out S4.out.1) H.out.2.2.1) ?_
  rintro e w5 ⟨a3, n3, c3, rfl, ho, hb⟩
  have S5 : Hid (St w1.heap.size g xs.length [(.slice a3 n3 c3, pBytes xs), (.slice a2 n2 c2, pBytes ys), (.slice a1 n1 c1, pBytes xs)] zs w5 ∧ Below w.heap.size w w5) := ⟨S4.out.1.add hb ho, S4.out.2.trans (hb.mono S4.out.2.size)⟩
  clear ho hb
  go_wp2_with fail
  refine Calls.mono (put_u _ xs _ (HIn.out S5.out.1) H.out.2.2.1) ?_
  rintro e w6 ⟨a4, n4, c4, rfl, ho, hb⟩
  have S6 : Hid (St w1.heap.size g xs.length [(.slice a4 n4 c4, pBytes xs), (.slice a3 n3 c3, pBytes xs), (.slice a2 n2 c2, pBytes ys), (.slice a1 n1 c1, pBytes xs)] zs w6 ∧ Below w.heap.size w w6) := ⟨S5.out.1.add hb ho, S5.out.2.trans (hb.mono S5.out.2.size)⟩
  clear ho hb
  go_wp2_with fail
  refine Calls.mono (put_u _ ys _ (H.out.2.1.below S6.out.2 (Nat.le_refl _)) H.out.2.2.2.1) ?_
  rintro e w7 ⟨a5, n5, c5, rfl, ho, hb⟩
  have S7 : Hid (St w1.heap.size g xs.length [(.slice a5 n5 c5, pBytes ys), (.slice a4 n4 c4, pBytes xs), (.slice a3 n3 c3, pBytes xs), (.slice a2 n2 c2, pBytes ys), (.slice a1 n1 c1, pBytes xs)] zs w7 ∧ Below w.heap.size w w7) := ⟨S6.out.1.add hb ho, S6.out.2.trans (hb.mono S6.out.2.size)⟩
  clear ho hb
  have HPB : Hid (Byts (pBytes xs) ∧ (pBytes xs).length ≤ 70000000000000) := ⟨pBytes_byts H.out.2.2.1, by have := pBytes_len xs; omega⟩
  go_wp2_with fail
  refine (eqBytes_same _ _ (pBytes xs) _ (S7.out.1.see (p := (.slice a3 n3 c3, pBytes xs)) (by simp)) (S7.out.1.see (p := (.slice a1 n1 c1, pBytes xs)) (by simp))).mono ?_
  rintro e w8 ⟨rfl, q8, hw⟩
  have S8 : Hid (St w1.heap.size g xs.length [(.slice a5 n5 c5, pBytes ys), (.slice a4 n4 c4, pBytes xs), (.slice a3 n3 c3, pBytes xs), (.slice a2 n2 c2, pBytes ys), (.slice a1 n1 c1, pBytes xs)] zs w8 ∧ Below w.heap.size w w8) := by
    have hb := below_drewN (Below.refl w7.heap.size w7) q8
    rw [← hw] at hb
    exact ⟨S7.out.1.later hb, S7.out.2.trans (hb.mono S7.out.2.size)⟩
  clear hw
  go_wp2_with fail
  refine (eqBytes_same _ _ (pBytes xs) _ (S8.out.1.see (p := (.slice a4 n4 c4, pBytes xs)) (by simp)) (S8.out.1.see (p := (.slice a1 n1 c1, pBytes xs)) (by simp))).mono ?_
  rintro e w9 ⟨rfl, q9, hw⟩
  have S9 : Hid (St w1.heap.size g xs.length [(.slice a5 n5 c5, pBytes ys), (.slice a4 n4 c4, pBytes xs), (.slice a3 n3 c3, pBytes xs), (.slice a2 n2 c2, pBytes ys), (.slice a1 n1 c1, pBytes xs)] zs w9 ∧ Below w.heap.size w w9) := by
    have hb := below_drewN (Below.refl w8.heap.size w8) q9
    rw [← hw] at hb
    exact ⟨S8.out.1.later hb, S8.out.2.trans (hb.mono S8.out.2.size)⟩
  clear hw
  go_wp2_with fail
  refine (eqBytes_same _ _ (pBytes ys) _ (S9.out.1.see (p := (.slice a5 n5 c5, pBytes ys)) (by simp)) (S9.out.1.see (p := (.slice a2 n2 c2, pBytes ys)) (by simp))).mono ?_
  rintro e w10 ⟨rfl, q10, hw⟩
  have S10 : Hid (St w1.heap.size g xs.length [(.slice a5 n5 c5, pBytes ys), (.slice a4 n4 c4, pBytes xs), (.slice a3 n3 c3, pBytes xs), (.slice a2 n2 c2, pBytes ys), (.slice a1 n1 c1, pBytes xs)] zs w10 ∧ Below w.heap.size w w10) := by
    have hb := below_drewN (Below.refl w9.heap.size w9) q10
    rw [← hw] at hb
    exact ⟨S9.out.1.later hb, S9.out.2.trans (hb.mono S9.out.2.size)⟩
  clear hw
  go_wp2_with fail
  refine Calls.mono (one_u _ (pBytes xs) _ (S10.out.1.see (p := (.slice a3 n3 c3, pBytes xs)) (by simp)) HPB.out.1 HPB.out.2) ?_
  rintro e w11 ⟨a6, n6, c6, rfl, ho, hb⟩
  have S11 : Hid (St w1.heap.size g xs.length [(.slice a6 n6 c6, oBytes (pBytes xs)), (.slice a5 n5 c5, pBytes ys), (.slice a4 n4 c4, pBytes xs), (.slice a3 n3 c3, pBytes xs), (.slice a2 n2 c2, pBytes ys), (.slice a1 n1 c1, pBytes xs)] zs w11 ∧ Below w.heap.size w w11) := ⟨S10.out.1.add hb ho, S10.out.2.trans (hb.mono S10.out.2.size)⟩
  clear ho hb
  go_wp2_with fail
  refine Calls.mono (one_u _ (pBytes xs) _ (S11.out.1.see (p := (.slice a3 n3 c3, pBytes xs)) (by simp)) HPB.out.1 HPB.out.2) ?_
  rintro e w12 ⟨a7, n7, c7, rfl, ho, hb⟩
  have S12 : Hid (St w1.heap.size g xs.length [(.slice a7 n7 c7, oBytes (pBytes xs)), (.slice a6 n6 c6, oBytes (pBytes xs)), (.slice a5 n5 c5, pBytes ys), (.slice a4 n4 c4, pBytes xs), (.slice a3 n3 c3, pBytes xs), (.slice a2 n2 c2, pBytes ys), (.slice a1 n1 c1, pBytes xs)] zs w12 ∧ Below w.heap.size w w12) := ⟨S11.out.1.add hb ho, S11.out.2.trans (hb.mono S11.out.2.size)⟩
  clear ho hb
  go_wp2_with fail
  refine Calls.mono (refOne_u _ (pBytes xs) _ (S12.out.1.see (p := (.slice a1 n1 c1, pBytes xs)) (by simp)) HPB.out.1 HPB.out.2) ?_
  rintro e w13 ⟨a8, n8, c8, rfl, ho, hb⟩
  have S13 : Hid (St w1.heap.size g xs.length [(.slice a8 n8 c8, oBytes (pBytes xs)), (.slice a7 n7 c7, oBytes (pBytes xs)), (.slice a6 n6 c6, oBytes (pBytes xs)), (.slice a5 n5 c5, pBytes ys), (.slice a4 n4 c4, pBytes xs), (.slice a3 n3 c3, pBytes xs), (.slice a2 n2 c2, pBytes ys), (.slice a1 n1 c1, pBytes xs)] zs w13 ∧ Below w.heap.size w w13) := ⟨S12.out.1.add hb ho, S12.out.2.trans (hb.mono S12.out.2.size)⟩
  clear ho hb
  go_wp2_with fail
  refine (eqBytes_same _ _ (oBytes (pBytes xs)) _ (S13.out.1.see (p := (.slice a6 n6 c6, oBytes (pBytes xs))) (by simp)) (S13.out.1.see (p := (.slice a8 n8 c8, oBytes (pBytes xs))) (by simp))).mono ?_
  rintro e w14 ⟨rfl, q14, hw⟩
  have S14 : Hid (St w1.heap.size g xs.length [(.slice a8 n8 c8, oBytes (pBytes xs)), (.slice a7 n7 c7, oBytes (pBytes xs)), (.slice a6 n6 c6, oBytes (pBytes xs)), (.slice a5 n5 c5, pBytes ys), (.slice a4 n4 c4, pBytes xs), (.slice a3 n3 c3, pBytes xs), (.slice a2 n2 c2, pBytes ys), (.slice a1 n1 c1, pBytes xs)] zs w14 ∧ Below w.heap.size w w14) := by
    have hb := below_drewN (Below.refl w13.heap.size w13) q14
    rw [← hw] at hb
    exact ⟨S13.out.1.later hb, S13.out.2.trans (hb.mono S13.out.2.size)⟩
  clear hw
  go_wp2_with fail
  refine (eqBytes_same _ _ (oBytes (pBytes xs)) _ (S14.out.1.see (p := (.slice a7 n7 c7, oBytes (pBytes xs))) (by simp)) (S14.out.1.see (p := (.slice a8 n8 c8, oBytes (pBytes xs))) (by simp))).mono ?_
  rintro e w15 ⟨rfl, q15, hw⟩
  have S15 : Hid (St w1.heap.size g xs.length [(.slice a8 n8 c8, oBytes (pBytes xs)), (.slice a7 n7 c7, oBytes (pBytes xs)), (.slice a6 n6 c6, oBytes (pBytes xs)), (.slice a5 n5 c5, pBytes ys), (.slice a4 n4 c4, pBytes xs), (.slice a3 n3 c3, pBytes xs), (.slice a2 n2 c2, pBytes ys), (.slice a1 n1 c1, pBytes xs)] zs w15 ∧ Below w.heap.size w w15) := by
    have hb := below_drewN (Below.refl w14.heap.size w14) q15
    rw [← hw] at hb
    exact ⟨S14.out.1.later hb, S14.out.2.trans (hb.mono S14.out.2.size)⟩
  clear hw
  go_wp2_with fail
  refine (eqBytes_same _ _ xs _ (HIn.out S15.out.1) (H.out.1.below S15.out.2 (Nat.le_refl _))).mono ?_
  rintro e w16 ⟨rfl, q16, hw⟩
  have S16 : Hid (St w1.heap.size g xs.length [(.slice a8 n8 c8, oBytes (pBytes xs)), (.slice a7 n7 c7, oBytes (pBytes xs)), (.slice a6 n6 c6, oBytes (pBytes xs)), (.slice a5 n5 c5, pBytes ys), (.slice a4 n4 c4, pBytes xs), (.slice a3 n3 c3, pBytes xs), (.slice a2 n2 c2, pBytes ys), (.slice a1 n1 c1, pBytes xs)] zs w16 ∧ Below w.heap.size w w16) := by
    have hb := below_drewN (Below.refl w15.heap.size w15) q16
    rw [← hw] at hb
    exact ⟨S15.out.1.later hb, S15.out.2.trans (hb.mono S15.out.2.size)⟩
  clear hw
  go_wp2_with fail
  refine (spareBytes_any g xs zs _ (owns_base (owns_mono S16.out.1.inn (Nat.zero_le _)) (fun k e => by simp [Value.ownBlock] at e; omega)) HW.out.1 HW.out.2.2 (by omega)).mono ?_
  rintro e wsp ⟨rfl, rfl⟩
  go_wp2_with fail
  go_loopw [23] (fun i wr => ∃ (k : Nat) (zz : List Int), k ≤ xs.length ∧ i = .int .i64 k ∧ zz.length = xs.length + 64 ∧ Byts zz ∧ St w1.heap.size g xs.length [(.slice a8 n8 c8, oBytes (pBytes xs)), (.slice a7 n7 c7, oBytes (pBytes xs)), (.slice a6 n6 c6, oBytes (pBytes xs)), (.slice a5 n5 c5, pBytes ys), (.slice a4 n4 c4, pBytes xs), (.slice a3 n3 c3, pBytes xs), (.slice a2 n2 c2, pBytes ys), (.slice a1 n1 c1, pBytes xs)] zz wr ∧ Below w.heap.size w wr) (fun i _ => xs.length - (intOf i).toNat)
  case atStart => exact ⟨0, zs, Nat.zero_le _, rfl, HW.out.1, HBz.out, S16.out⟩
  case round =>
    obtain ⟨k, zz, hk, rfl, hzl, hbz, hst, hbw⟩ := hrel
    by_cases hlt : k < xs.length
    · have dk : decide ((k : Int) < xs.length) = true := by simp only [decide_eq_true_eq]; omega
      have hc := owns_cell hst.inn k (by omega)
      have hf := hst.inn.frozenAt k
      have hxb := hbz.nth k
      obtain ⟨x, hx2⟩ : ∃ x, x = zz.getD k 0 := ⟨_, rfl⟩
      rw [← hx2] at hc hxb
      have hyb := xor_byte x 85 hxb.1 hxb.2 (by omega) (by omega)
      have HR : Hid ((zz.set k (bits .xor .u8 x 85)).length = xs.length + 64 ∧ Byts (zz.set k (bits .xor .u8 x 85)) ∧ St w1.heap.size g xs.length [(.slice a8 n8 c8, oBytes (pBytes xs)), (.slice a7 n7 c7, oBytes (pBytes xs)), (.slice a6 n6 c6, oBytes (pBytes xs)), (.slice a5 n5 c5, pBytes ys), (.slice a4 n4 c4, pBytes xs), (.slice a3 n3 c3, pBytes xs), (.slice a2 n2 c2, pBytes ys), (.slice a1 n1 c1, pBytes xs)] (zz.set k (bits .xor .u8 x 85)) (wr.setCell ⟨g, k, none⟩ (.int .u8 (bits .xor .u8 x 85))) ∧ Below w.heap.size w (wr.setCell ⟨g, k, none⟩ (.int .u8 (bits .xor .u8 x 85)))) := by
        have hgB : w.heap.size ≤ g := by
          have h1 := (hst.inn.lt g rfl).1
          have h2 := HB1.out.size
          omega
        exact ⟨by rw [List.length_set]; exact hzl, byts_set hbz k _ hyb.1 hyb.2, hst.set k _, hbw.setCell (p := ⟨g, k, none⟩) hgB _⟩
      clear hst hbw hbz hzl hx2 hyb HIn
      go_wp2
      go_roundw
      case rel => exact ⟨k + 1, _, by omega, by go_num, HR.out⟩
      case measure => simp [intOf]; omega
    · have dk : decide ((k : Int) < xs.length) = false := by simp only [decide_eq_false_iff_not]; omega
      obtain ⟨ts, hts⟩ : ∃ ts, ts = zz.take xs.length := ⟨_, rfl⟩
      have HJn : Hid (∀ {m : List (Value × List Int)} {wx : World}, St w1.heap.size g xs.length m zz wx → Sees wx (.slice (some ⟨g, 0, none⟩) xs.length (xs.length + 64)) ts) := fun h => by
        have := h.input hzl
        rw [← hts] at this
        exact this
      have HTB : Hid (Byts ts ∧ ts.length ≤ 2147483647) := ⟨by rw [hts]; exact hbz.take _, by rw [hts]; simp; omega⟩
      have S20 : Hid (St w1.heap.size g xs.length [(.slice a8 n8 c8, oBytes (pBytes xs)), (.slice a7 n7 c7, oBytes (pBytes xs)), (.slice a6 n6 c6, oBytes (pBytes xs)), (.slice a5 n5 c5, pBytes ys), (.slice a4 n4 c4, pBytes xs), (.slice a3 n3 c3, pBytes xs), (.slice a2 n2 c2, pBytes ys), (.slice a1 n1 c1, pBytes xs)] zz wr ∧ Below w.heap.size w wr) := ⟨hst, hbw⟩
      clear hst hbw hbz hts hzl HIn
      go_wp2_with fail
      refine (copyBytes_any _ ts _ (HJn.out S20.out.1) (by have := HTB.out.2; omega)).mono ?_
      rintro e w21 ⟨u, rfl, ho, hb⟩
      obtain ⟨a9, n9, c9, rfl⟩ := owns_shape ho
      have S21 : Hid (St w1.heap.size g xs.length [(.slice a9 n9 c9, ts), (.slice a8 n8 c8, oBytes (pBytes xs)), (.slice a7 n7 c7, oBytes (pBytes xs)), (.slice a6 n6 c6, oBytes (pBytes xs)), (.slice a5 n5 c5, pBytes ys), (.slice a4 n4 c4, pBytes xs), (.slice a3 n3 c3, pBytes xs), (.slice a2 n2 c2, pBytes ys), (.slice a1 n1 c1, pBytes xs)] zz w21 ∧ Below w.heap.size w w21) := ⟨S20.out.1.add hb ho, S20.out.2.trans (hb.mono S20.out.2.size)⟩
      clear ho hb
      go_wp2_with fail
      refine Calls.mono (put_u _ ts _ (HJn.out S21.out.1) HTB.out.1) ?_
      rintro e w22 ⟨d1, d2, d3, rfl, ho, hb⟩
      have S22 : Hid (St w1.heap.size g xs.length [(.slice d1 d2 d3, pBytes ts), (.slice a9 n9 c9, ts), (.slice a8 n8 c8, oBytes (pBytes xs)), (.slice a7 n7 c7, oBytes (pBytes xs)), (.slice a6 n6 c6, oBytes (pBytes xs)), (.slice a5 n5 c5, pBytes ys), (.slice a4 n4 c4, pBytes xs), (.slice a3 n3 c3, pBytes xs), (.slice a2 n2 c2, pBytes ys), (.slice a1 n1 c1, pBytes xs)] zz w22 ∧ Below w.heap.size w w22) := ⟨S21.out.1.add hb ho, S21.out.2.trans (hb.mono S21.out.2.size)⟩
      clear ho hb
      go_wp2_with fail
      refine Calls.mono (refPut_u _ ts _ (S22.out.1.see (p := (.slice a9 n9 c9, ts)) (by simp)) HTB.out.1) ?_
      rintro e w23 ⟨e1, e2, e3, rfl, ho, hb⟩
      have S23 : Hid (St w1.heap.size g xs.length [(.slice e1 e2 e3, pBytes ts), (.slice d1 d2 d3, pBytes ts), (.slice a9 n9 c9, ts), (.slice a8 n8 c8, oBytes (pBytes xs)), (.slice a7 n7 c7, oBytes (pBytes xs)), (.slice a6 n6 c6, oBytes (pBytes xs)), (.slice a5 n5 c5, pBytes ys), (.slice a4 n4 c4, pBytes xs), (.slice a3 n3 c3, pBytes xs), (.slice a2 n2 c2, pBytes ys), (.slice a1 n1 c1, pBytes xs)] zz w23 ∧ Below w.heap.size w w23) := ⟨S22.out.1.add hb ho, S22.out.2.trans (hb.mono S22.out.2.size)⟩
      clear ho hb
      go_wp2_with fail
      refine (eqBytes_same _ _ (pBytes ts) _ (S23.out.1.see (p := (.slice d1 d2 d3, pBytes ts)) (by simp)) (S23.out.1.see (p := (.slice e1 e2 e3, pBytes ts)) (by simp))).mono ?_
      rintro e w24 ⟨rfl, q24, hw⟩
      have S24 : Hid (St w1.heap.size g xs.length [(.slice e1 e2 e3, pBytes ts), (.slice d1 d2 d3, pBytes ts), (.slice a9 n9 c9, ts), (.slice a8 n8 c8, oBytes (pBytes xs)), (.slice a7 n7 c7, oBytes (pBytes xs)), (.slice a6 n6 c6, oBytes (pBytes xs)), (.slice a5 n5 c5, pBytes ys), (.slice a4 n4 c4, pBytes xs), (.slice a3 n3 c3, pBytes xs), (.slice a2 n2 c2, pBytes ys), (.slice a1 n1 c1, pBytes xs)] zz w24 ∧ Below w.heap.size w w24) := by
        have hb := below_drewN (Below.refl w23.heap.size w23) q24
        rw [← hw] at hb
        exact ⟨S23.out.1.later hb, S23.out.2.trans (hb.mono S23.out.2.size)⟩
      clear hw
      go_wp2_with fail
      refine (eqBytes_same _ _ ts _ (HJn.out S24.out.1) (S24.out.1.see (p := (.slice a9 n9 c9, ts)) (by simp))).mono ?_
      rintro e w25 ⟨rfl, q25, hw⟩
      have S25 : Hid (St w1.heap.size g xs.length [(.slice e1 e2 e3, pBytes ts), (.slice d1 d2 d3, pBytes ts), (.slice a9 n9 c9, ts), (.slice a8 n8 c8, oBytes (pBytes xs)), (.slice a7 n7 c7, oBytes (pBytes xs)), (.slice a6 n6 c6, oBytes (pBytes xs)), (.slice a5 n5 c5, pBytes ys), (.slice a4 n4 c4, pBytes xs), (.slice a3 n3 c3, pBytes xs), (.slice a2 n2 c2, pBytes ys), (.slice a1 n1 c1, pBytes xs)] zz w25 ∧ Below w.heap.size w w25) := by
        have hb := below_drewN (Below.refl w24.heap.size w24) q25
        rw [← hw] at hb
        exact ⟨S24.out.1.later hb, S24.out.2.trans (hb.mono S24.out.2.size)⟩
      clear hw
      go_wp2_with fail
      obtain ⟨ks, hks⟩ : ∃ ks : List Pc, ks = [⟨a3, n3, c3⟩, ⟨a4, n4, c4⟩, ⟨a5, n5, c5⟩, ⟨d1, d2, d3⟩, ⟨a6, n6, c6⟩, ⟨a7, n7, c7⟩, ⟨some ⟨g, 0, none⟩, xs.length, xs.length + 64⟩] := ⟨_, rfl⟩
      have far : ∀ p : Value × List Int, p ∈ [(.slice e1 e2 e3, pBytes ts), (.slice d1 d2 d3, pBytes ts), (.slice a9 n9 c9, ts), (.slice a8 n8 c8, oBytes (pBytes xs)), (.slice a7 n7 c7, oBytes (pBytes xs)), (.slice a6 n6 c6, oBytes (pBytes xs)), (.slice a5 n5 c5, pBytes ys), (.slice a4 n4 c4, pBytes xs), (.slice a3 n3 c3, pBytes xs), (.slice a2 n2 c2, pBytes ys), (.slice a1 n1 c1, pBytes xs)] → ∀ k, p.1.ownBlock = some k → (Value.slice (some ⟨g, 0, none⟩) xs.length (xs.length + 64)).ownBlock ≠ some k := fun p hp k e e' => by
        simp [Value.ownBlock] at e'
        subst e'
        exact S25.out.1.far p hp e
      have HAP : Hid (ks.Pairwise (fun p q => ∀ k, p.val.ownBlock = some k → q.val.ownBlock ≠ some k)) := by
        show ks.Pairwise _
        rw [hks]
        exact List.pairwise_cons.2 ⟨List.forall_mem_cons.2 ⟨S25.out.1.apart 8 7 (by simp) (by simp) (by omega), List.forall_mem_cons.2 ⟨S25.out.1.apart 8 6 (by simp) (by simp) (by omega), List.forall_mem_cons.2 ⟨S25.out.1.apart 8 1 (by simp) (by simp) (by omega), List.forall_mem_cons.2 ⟨S25.out.1.apart 8 5 (by simp) (by simp) (by omega), List.forall_mem_cons.2 ⟨S25.out.1.apart 8 4 (by simp) (by simp) (by omega), List.forall_mem_cons.2 ⟨far (.slice a3 n3 c3, pBytes xs) (by simp), fun _ h => by simp at h⟩⟩⟩⟩⟩⟩, List.pairwise_cons.2 ⟨List.forall_mem_cons.2 ⟨S25.out.1.apart 7 6 (by simp) (by simp) (by omega), List.forall_mem_cons.2 ⟨S25.out.1.apart 7 1 (by simp) (by simp) (by omega), List.forall_mem_cons.2 ⟨S25.out.1.apart 7 5 (by simp) (by simp) (by omega), List.forall_mem_cons.2 ⟨S25.out.1.apart 7 4 (by simp) (by simp) (by omega), List.forall_mem_cons.2 ⟨far (.slice a4 n4 c4, pBytes xs) (by simp), fun _ h => by simp at h⟩⟩⟩⟩⟩, List.pairwise_cons.2 ⟨List.forall_mem_cons.2 ⟨S25.out.1.apart 6 1 (by simp) (by simp) (by omega), List.forall_mem_cons.2 ⟨S25.out.1.apart 6 5 (by simp) (by simp) (by omega), List.forall_mem_cons.2 ⟨S25.out.1.apart 6 4 (by simp) (by simp) (by omega), List.forall_mem_cons.2 ⟨far (.slice a5 n5 c5, pBytes ys) (by simp), fun _ h => by simp at h⟩⟩⟩⟩, List.pairwise_cons.2 ⟨List.forall_mem_cons.2 ⟨S25.out.1.apart 1 5 (by simp) (by simp) (by omega), List.forall_mem_cons.2 ⟨S25.out.1.apart 1 4 (by simp) (by simp) (by omega), List.forall_mem_cons.2 ⟨far (.slice d1 d2 d3, pBytes ts) (by simp), fun _ h => by simp at h⟩⟩⟩, List.pairwise_cons.2 ⟨List.forall_mem_cons.2 ⟨S25.out.1.apart 5 4 (by simp) (by simp) (by omega), List.forall_mem_cons.2 ⟨far (.slice a6 n6 c6, oBytes (pBytes xs)) (by simp), fun _ h => by simp at h⟩⟩, List.pairwise_cons.2 ⟨List.forall_mem_cons.2 ⟨far (.slice a7 n7 c7, oBytes (pBytes xs)) (by simp), fun _ h => by simp at h⟩, List.pairwise_cons.2 ⟨fun _ h => by simp at h, List.Pairwise.nil⟩⟩⟩⟩⟩⟩⟩
      have hk7 : ks.length = 7 := by rw [hks]; rfl
      have HM : Hid (∀ p ∈ ([(.slice e1 e2 e3, pBytes ts), (.slice d1 d2 d3, pBytes ts), (.slice a9 n9 c9, ts), (.slice a8 n8 c8, oBytes (pBytes xs)), (.slice a7 n7 c7, oBytes (pBytes xs)), (.slice a6 n6 c6, oBytes (pBytes xs)), (.slice a5 n5 c5, pBytes ys), (.slice a4 n4 c4, pBytes xs), (.slice a3 n3 c3, pBytes xs), (.slice a2 n2 c2, pBytes ys), (.slice a1 n1 c1, pBytes xs)] : List (Value × List Int)), p.2.length ≤ 70000000000000) := by
        have q1 := pBytes_len xs
        have q2 := pBytes_len ys
        have q3 := pBytes_len ts
        have q4 := oBytes_len (pBytes xs)
        have q5 := HTB.out.2
        intro p hp
        simp only [List.mem_cons, List.not_mem_nil, or_false] at hp
        rcases hp with rfl | rfl | rfl | rfl | rfl | rfl | rfl | rfl | rfl | rfl | rfl <;> simp only <;> omega
      have HK : Hid (∀ q ∈ ks, (∃ bs, (q.val, bs) ∈ [(.slice e1 e2 e3, pBytes ts), (.slice d1 d2 d3, pBytes ts), (.slice a9 n9 c9, ts), (.slice a8 n8 c8, oBytes (pBytes xs)), (.slice a7 n7 c7, oBytes (pBytes xs)), (.slice a6 n6 c6, oBytes (pBytes xs)), (.slice a5 n5 c5, pBytes ys), (.slice a4 n4 c4, pBytes xs), (.slice a3 n3 c3, pBytes xs), (.slice a2 n2 c2, pBytes ys), (.slice a1 n1 c1, pBytes xs)]) ∨ q = ⟨some ⟨g, 0, none⟩, xs.length, xs.length + 64⟩) := by
        intro q hq
        rw [hks] at hq
        simp only [List.mem_cons, List.not_mem_nil, or_false] at hq
        rcases hq with rfl | rfl | rfl | rfl | rfl | rfl | rfl
        · exact .inl ⟨pBytes xs, by simp [Pc.val]⟩
        · exact .inl ⟨pBytes xs, by simp [Pc.val]⟩
        · exact .inl ⟨pBytes ys, by simp [Pc.val]⟩
        · exact .inl ⟨pBytes ts, by simp [Pc.val]⟩
        · exact .inl ⟨oBytes (pBytes xs), by simp [Pc.val]⟩
        · exact .inl ⟨oBytes (pBytes xs), by simp [Pc.val]⟩
        · exact .inr rfl
      have HX := bag_laid (X := w25) w.heap.size S25.out.2.size ks #[.slice a3 n3 c3, .slice a4 n4 c4, .slice a5 n5 c5, .slice d1 d2 d3, .slice a6 n6 c6, .slice a7 n7 c7, .slice (some ⟨g, 0, none⟩) xs.length (xs.length + 64)] (by rw [hks]; rfl) (by omega)
      clear hks far
      have hc := addPieces_one w25.heap.size w.heap.size (some ⟨w25.heap.size + 1, 0, none⟩) ks.length ks _ HX.1 HX.2.1 HX.2.2.1
      rw [hk7] at hc HX
      refine hc.mono ?_
      clear hc
      rintro e w26 ⟨rfl, bv, pv, hbag, hk3⟩
      rw [List.take_of_length_le (by omega)] at hbag
      have hz25 := S25.out.2.size
      have hpb := puts_bag S25.out.1 S25.out.2 HB1.out.size H.out.2.2.2.2 hg0 ks HK.out (by omega) HM.out HAP.out HX.2.2.2.1 (Nat.le_refl _) hk3
      have hlp : Lies w26 22 ⟨some ⟨w25.heap.size + 1, 0, none⟩, 7, 7⟩ := lies_same HX.2.2.2.2 (fun k e hk => hk3.block k hk (fun e' => by simp [Pc.val, Value.ownBlock] at e; omega))
      have HL : Hid (BagIs w26 w25.heap.size bv pv ks [⟨some ⟨w25.heap.size + 1, 0, none⟩, 7, 7⟩] w.heap.size ∧ Lies w26 22 ⟨some ⟨w25.heap.size + 1, 0, none⟩, 7, 7⟩ ∧ (∀ q ∈ ks, Lies w26 5 q) ∧ ApartPcs ks ∧ (∀ q ∈ ks, q.n ≤ 70000000000000) ∧ Tab w26 ∧ (∀ k x, feet ks k x → w.heap.size ≤ k) ∧ Below w.heap.size w w26) := ⟨hbag, hlp, hpb⟩
      clear hbag hlp hpb hk3 HX
      go_wp2_with fail
      refine (bagApart_one w25.heap.size w.heap.size bv pv ks ⟨some ⟨w25.heap.size + 1, 0, none⟩, 7, 7⟩ _ HL.out.1 HL.out.2.2.1 HL.out.2.2.2.1 (by omega) HL.out.2.2.2.2.1 HL.out.2.1 (by show 7 ≤ 1000000000; omega) HL.out.2.2.2.2.2.1 hg0 HL.out.2.2.2.2.2.2.2.size HL.out.2.2.2.2.2.2.1 (fun k x hf => by have e := foot_own hf; simp [Pc.val, Value.ownBlock] at e; omega)).mono ?_
      rintro e w27 ⟨rfl, hb4⟩
      have HE : Hid (Below w.heap.size w w27) := HL.out.2.2.2.2.2.2.2.trans hb4
      clear hb4
      go_wp2
      go_ret
      exact ⟨rfl, HE.out⟩
end framePuts
end Go.Proofs.YtabkjcgcnimoaaaDoor
