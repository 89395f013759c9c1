/- The walk of QuorumAcks. -/
import Derived.Test.YtlnoighjdmjdeaaQwF
import Derived.Test.YtlnoighjdmjdeaaQvD
import Derived.Test.YtlnoighjdmjdeaaQuJ
import Derived.Test.YtlnoighjdmjdeaaQuO
namespace Go.Proofs.Ytlnoighjdmjdeaa
open Go.RowKit Go.Shelf
set_option maxRecDepth 8000

theorem neqZxQ (e n : Int) (w : World) : (binOp .neq 38 (.agg #[.int .u32 e, .int .u32 n]) (.agg #[.int .u32 e, .int .u32 n])).run Try.prog w = .ok (.bool false) w := by
  have hu : Try.prog.underlying 38 = some (.struct (Try.prog.fieldsOf 38)) := by kernel_rfl
  have hp : Try.prog.stoodInHeld 38 = false := by kernel_rfl
  have u3 := Try.underlying36
  have a3 := Try.isAgg36
  have z3 := Try.sizeOf36
  rw [run_neq_struct, show (10000 : Nat) = 9999 + 1 from rfl, run_equalIn_agg w 9999 _ _ _ hu hp]
  simp only [Program.fieldsOf, Try.underlying38]
  go_simp

/-- A system, the document's, an Acks of each, in memory. -/
structure Wt (w W3 W : World) (s p r q B : Nat) (ws gs : List Int) (A A' : AcD) (bh ch bu cu : Nat) : Prop where
  d3 : IsDs W3 r ws gs
  s3 : IsSy W3 s (syD ws gs)
  b0 : Below w.heap.size w W3
  b3 : Below W3.heap.size W3 W
  hp : W3.heap.size ≤ p
  ac : IsAc W p s A
  ra : Ra W B q r ws.length A' bh ch bu cu
  pB : p < B
  BW : B ≤ W.heap.size
section
variable {w W3 W W' : World} {s p r q B : Nat} {ws gs : List Int} {A A' C : AcD} {bh ch bu cu : Nat}
theorem Wt.sy (h : Wt w W3 W s p r q B ws gs A A' bh ch bu cu) : IsSy W s (syD ws gs) := h.s3.below h.b3 h.s3.lt
theorem Wt.ds (h : Wt w W3 W s p r q B ws gs A A' bh ch bu cu) : IsDs W r ws gs := h.d3.below h.b3
theorem Wt.be (h : Wt w W3 W s p r q B ws gs A A' bh ch bu cu) : Below w.heap.size w W := h.b0.trans (h.b3.mono h.b0.size)
theorem Wt.later (h : Wt w W3 W s p r q B ws gs A A' bh ch bu cu) (hb : Below W.heap.size W W') : Wt w W3 W' s p r q B ws gs A A' bh ch bu cu :=
  ⟨h.d3, h.s3, h.b0, h.b3.trans (hb.mono h.b3.size), h.hp, h.ac.below hb h.ac.lt, h.ra.below hb, h.pB, Nat.le_trans h.BW hb.size⟩
theorem Wt.put1 (h : Wt w W3 W s p r q B ws gs A A' bh ch bu cu) (ha : IsAc W' p s C) (hk : Kept W W' (fun k => k = p)) : Wt w W3 W' s p r q B ws gs C A' bh ch bu cu :=
  have hpB := h.pB
  have hp := h.hp
  ⟨h.d3, h.s3, h.b0, h.b3.trans (hk.below h.b3.size (fun k e => by have e2 : k = p := e; omega)), h.hp, ha, h.ra.kept hk (fun k h1 e => by have e2 : k = p := e; omega), h.pB, Nat.le_trans h.BW hk.size⟩
theorem Wt.put2 (h : Wt w W3 W s p r q B ws gs A A' bh ch bu cu) (hr : Ra W' B q r ws.length C bh ch bu cu) (hk : Kept W W' (fun k => B ≤ k)) : Wt w W3 W' s p r q B ws gs A C bh ch bu cu :=
  have hpB := h.pB
  have hp := h.hp
  ⟨h.d3, h.s3, h.b0, h.b3.trans (hk.below h.b3.size (fun k e => by have e2 : B ≤ k := e; omega)), h.hp, h.ac.kept hk (fun e => by have e2 : B ≤ p := e; omega), hr, h.pB, Nat.le_trans h.BW hk.size⟩
end

set_option maxHeartbeats 8000000 in
theorem acks_walk (vv vu vp : Value) (ws gs : List Int) (l : List PuT) (w : World) (hv : SeesQ w vv ws) (hu : SeesQ w vu gs) (hp : SeesPu w vp l) :
    Calls Try.prog 3 #[vv, vu, vp] w fun e w' => e = .returned (.bool true) ∧ Below w.heap.size w w' := by
  have HV : Hid (SeesQ w vv ws ∧ SeesQ w vu gs) := ⟨hv, hu⟩
  obtain ⟨av, cv, ev, l1, l2, x1⟩ := hv
  obtain ⟨au, cu0, eu, l3, l4, x2⟩ := hu
  obtain ⟨ap, cp, ep, l5, hgood, hcells⟩ := hp
  subst ev eu ep
  have HGd : Hid (∀ s ∈ l, s.good) := hgood
  have HCl : Hid (l ≠ [] → ∃ b off, ap = some ⟨b, off, none⟩ ∧ ∀ i s, l[i]? = some s → ∀ j u, s.cells[j]? = some u → w.cell? ⟨b, off + i * 3 + j, none⟩ = some u) := hcells
  clear x1 x2 hgood hcells
  have HL := long20 (ws.length : Int)
  have HG := long20 (gs.length : Int)
  have HP := long20 (l.length : Int)
  by_cases q1 : (2147483647 : Int) ≤ (ws.length : Int)
  · simp only [decide_eq_true q1] at HL
    go_enter Try.func3, Try.ntmps3
    go_wp2_with fail
    refine Calls.mono (HL _) ?_
    rintro e w1 ⟨rfl, rfl⟩
    go_wp2
    all_goals (go_ret; exact ⟨rfl, Below.refl _ _⟩)
  simp only [decide_eq_false q1] at HL
  by_cases q2 : (2147483647 : Int) ≤ (gs.length : Int)
  · simp only [decide_eq_true q2] at HG
    go_enter Try.func3, Try.ntmps3
    go_wp2_with fail
    refine Calls.mono (HL _) ?_
    rintro e w1 ⟨rfl, rfl⟩
    go_wp2_with fail
    refine Calls.mono (HG _) ?_
    rintro e w1 ⟨rfl, rfl⟩
    go_wp2
    all_goals (go_ret; exact ⟨rfl, Below.refl _ _⟩)
  simp only [decide_eq_false q2] at HG
  by_cases q3 : (2147483647 : Int) ≤ (l.length : Int)
  · simp only [decide_eq_true q3] at HP
    go_enter Try.func3, Try.ntmps3
    go_wp2_with fail
    refine Calls.mono (HL _) ?_
    rintro e w1 ⟨rfl, rfl⟩
    go_wp2_with fail
    refine Calls.mono (HG _) ?_
    rintro e w1 ⟨rfl, rfl⟩
    go_wp2_with fail
    refine Calls.mono (HP _) ?_
    rintro e w1 ⟨rfl, rfl⟩
    go_wp2
    all_goals (go_ret; exact ⟨rfl, Below.refl _ _⟩)
  simp only [decide_eq_false q3] at HP
  go_enter Try.func3, Try.ntmps3
  go_wp2_with fail
  refine Calls.mono (HL _) ?_
  rintro e w1 ⟨rfl, hw1⟩
  rw [hw1]
  clear hw1 w1
  go_wp2_with fail
  refine Calls.mono (HG _) ?_
  rintro e w1 ⟨rfl, hw1⟩
  rw [hw1]
  clear hw1 w1
  go_wp2_with fail
  refine Calls.mono (HP _) ?_
  rintro e w1 ⟨rfl, hw1⟩
  rw [hw1]
  clear hw1 w1 HL HG HP
  by_cases nok : ¬ NewOk ws gs
  · have HN : Hid (Calls Try.prog 9 #[.slice av ws.length cv, .slice au gs.length cu0] w fun e w' => e = .returned (.tuple #[.pointer none, .int .i64 200]) ∧ Below w.heap.size w w') := new_bad HV.out.1 HV.out.2 nok
    go_wp2_with fail
    refine Calls.mono HN.out ?_
    rintro e w3 ⟨rfl, hb3⟩
    have HN2 : Hid (Calls Try.prog 10 #[.slice av ws.length cv, .slice au gs.length cu0] w3 fun e w' => e = .returned (.tuple #[.pointer none, .int .i64 200]) ∧ Below w3.heap.size w3 w') := refNew_bad (HV.out.1.below hb3) (HV.out.2.below hb3) nok
    have HB3 : Hid (Below w.heap.size w w3) := hb3
    clear hb3 HN nok HV
    go_wp2_with fail
    refine Calls.mono HN2.out ?_
    rintro e w4 ⟨rfl, hb4⟩
    have HB4 : Hid (Below w.heap.size w w4) := HB3.out.trans (hb4.mono HB3.out.size)
    clear hb4 HN2 HB3
    go_wp2_with fail
    go_at_call 11
    refine (lives20 _).mono ?_
    rintro e w5 ⟨rfl, hb5⟩
    have HB5 : Hid (Below w.heap.size w w5) := HB4.out.trans (hb5.mono HB4.out.size)
    clear hb5 HB4
    go_wp2
    all_goals (go_ret; exact ⟨rfl, HB5.out⟩)
  have ok : NewOk ws gs := Classical.not_not.1 nok
  clear nok
  have HOK : Hid (NewOk ws gs) := ok
  have HD : Hid (syD ws gs).Good := ok.good
  have HN : Hid (Calls Try.prog 9 #[.slice av ws.length cv, .slice au gs.length cu0] w fun e w' => e = .returned (.tuple #[.pointer (some ⟨w.heap.size, 0, none⟩), .int .i64 0]) ∧ IsSy w' w.heap.size (syD ws gs) ∧ Below w.heap.size w w') := new_good HV.out.1 HV.out.2 ok
  have hl31 : l.length < 2147483647 := by omega
  clear q1 q2 q3 l1 l2 l3 l4
  obtain ⟨s, hs⟩ : ∃ s, s = w.heap.size := ⟨_, rfl⟩
  rw [← hs] at HN
  have HSs : Hid (s = w.heap.size) := hs
  clear hs
  go_wp2_with fail
  refine Calls.mono HN.out ?_
  rintro e w2 ⟨rfl, hI, hb2⟩
  rw [HSs.out] at hb2
  have HI2 : Hid (IsSy w2 s (syD ws gs)) := hI
  have HB2 : Hid (Below w.heap.size w w2) := hb2
  have HN2 : Hid (Calls Try.prog 10 #[.slice av ws.length cv, .slice au gs.length cu0] w2 fun e w' => ∃ r, e = .returned (.tuple #[.pointer (some ⟨r, 0, none⟩), .int .i64 0]) ∧ w2.heap.size ≤ r ∧ IsDo w' r w2.heap.size ws gs ∧ Below w2.heap.size w2 w') := refNew_good (HV.out.1.below hb2) (HV.out.2.below hb2) ok
  clear hb2 HN HV hI ok HSs
  go_wp2_with fail
  refine Calls.mono HN2.out ?_
  rintro e w3 ⟨r, rfl, _, hd3, hb3⟩
  have HB3 : Hid (Below w.heap.size w w3) := HB2.out.trans (hb3.mono HB2.out.size)
  have HI3 : Hid (IsSy w3 s (syD ws gs)) := HI2.out.below hb3 HI2.out.lt
  have HD3 : Hid (IsDs w3 r ws gs) := hd3.ds
  clear hd3 hb3 HN2 HI2 HB2
  have HNA : Hid (Calls Try.prog 12 #[.pointer (some ⟨s, 0, none⟩)] w3 fun e w' => e = .returned (.tuple #[.pointer (some ⟨w3.heap.size, 0, none⟩), .int .i64 0]) ∧ IsAc w' w3.heap.size s ac0 ∧ Below w3.heap.size w3 w') := newAcks_yes HD.out HI3.out
  obtain ⟨p, hp⟩ : ∃ p, p = w3.heap.size := ⟨_, rfl⟩
  rw [← hp] at HNA
  have HPp : Hid (p = w3.heap.size) := hp
  clear hp
  go_wp2_with fail
  refine Calls.mono HNA.out ?_
  rintro e w4 ⟨rfl, hA, hb4⟩
  rw [HPp.out] at hb4
  have HA4 : Hid (IsAc w4 p s ac0 ∧ Below w3.heap.size w3 w4) := ⟨hA, hb4⟩
  obtain ⟨n, hn⟩ : ∃ n : Nat, n = ws.length := ⟨_, rfl⟩
  have HNn : Hid (n = ws.length) := hn
  have HS4 : Hid (Calls Try.prog 13 #[.pointer (some ⟨s, 0, none⟩)] w4 fun e w' => e = .returned (.int .i64 n) ∧ w' = w4) := by
    rw [hn]; exact size_sy HD.out (HI3.out.below hb4 HI3.out.lt)
  have HR4 : Hid (Calls Try.prog 14 #[.pointer (some ⟨r, 0, none⟩)] w4 fun e w' => e = .returned (.int .i64 n) ∧ w' = w4) := by
    rw [hn]; exact refSize20 (HD3.out.below hb4) HOK.out
  have HNB : Hid (Calls Try.prog 15 #[.pointer (some ⟨r, 0, none⟩)] w4 fun e w' => e = .returned (.pointer (some ⟨w4.heap.size, 0, none⟩)) ∧ (∃ bh ch bu cu, Ra w' w4.heap.size w4.heap.size r ws.length ac0 bh ch bu cu) ∧ Below w4.heap.size w4 w') := refNewAcks (HD3.out.below hb4) HOK.out
  have c0 := hA.c0
  have zp := hA.lt
  have hnn : ((n : Int) != (n : Int)) = false := by simp
  clear hA hb4 HNA hn
  go_wp2_with fail
  refine Calls.mono HS4.out ?_
  rintro e wx ⟨rfl, hwx⟩
  rw [hwx]
  clear hwx wx HS4
  go_wp2_with fail
  refine Calls.mono HR4.out ?_
  rintro e wx ⟨rfl, hwx⟩
  rw [hwx]
  clear hwx wx HR4
  obtain ⟨B, hB⟩ : ∃ B, B = w4.heap.size := ⟨_, rfl⟩
  rw [← hB] at HNB
  have HBB : Hid (B = w4.heap.size) := hB
  clear hB
  go_wp2_with fail
  refine Calls.mono HNB.out ?_
  rintro e w5 ⟨rfl, ⟨bh, ch, bu, cu, hra⟩, hb5⟩
  rw [HBB.out] at hb5
  have HT0 : Hid (Wt w w3 w5 s p r B B ws gs ac0 ac0 bh ch bu cu) :=
    ⟨HD3.out, HI3.out, HB3.out, HA4.out.2.trans (hb5.mono HA4.out.2.size), by rw [HPp.out]; exact Nat.le_refl _, HA4.out.1.below hb5 HA4.out.1.lt, hra, by rw [HBB.out]; exact HA4.out.1.lt, by rw [HBB.out]; exact hb5.size⟩
  clear hra hb5 HNB HA4 HI3 HD3 HPp HBB HB3 hnn c0 zp
  go_wp2
  go_loopw [14] (fun vi wr => ∃ (i : Nat) (A : AcD), i ≤ l.length + 1 ∧ vi = .int .i64 (i : Int) ∧ Hid (A.so < 256) ∧ Hid (Wt w w3 wr s p r B B ws gs A A bh ch bu cu)) (fun vi _ => l.length + 1 - (intOf vi).toNat)
  case atStart => exact ⟨0, ac0, by omega, rfl, (by decide : (0 : Nat) < 256), HT0.out⟩
  case round =>
    clear HT0
    obtain ⟨i, A, hi, rfl, HSo, HT⟩ := hrel
    by_cases hil : i ≤ l.length
    · have hi0 : (0 : Int) ≤ (i : Int) := by omega
      have hin : (i : Int) ≤ (l.length : Int) := by omega
      have hco := com_any HD.out HT.out.sy HT.out.ac HSo.out
      obtain ⟨fc, z, y, hcom⟩ : ∃ fc z y, A.com (syD ws gs) (syD ws gs).n = (fc, z, y) := ⟨_, _, _, rfl⟩
      rw [hcom] at hco
      have HCo : Hid (A.com (syD ws gs) (syD ws gs).n = (fc, z, y)) := hcom
      have HC1 : Hid (Calls Try.prog 16 #[.pointer (some ⟨p, 0, none⟩)] wr fun r w' => r = .returned (.tuple #[zx z y, .bool fc]) ∧ Below wr.heap.size wr w') := hco
      clear hco hcom
      go_wp2_with fail
      refine Calls.mono HC1.out ?_
      rintro e w6 ⟨rfl, hb6⟩
      have HT6 : Hid (Wt w w3 w6 s p r B B ws gs A A bh ch bu cu) := HT.out.later hb6
      clear HC1 HT hb6
      obtain ⟨b15, hb15⟩ : ∃ b15, b15 = w6.heap.size := ⟨_, rfl⟩
      obtain ⟨W6, hW6⟩ : ∃ W6, W6 = w6.alloc (.cells #[.int .u32 z, .int .u32 y] 38) := ⟨_, rfl⟩
      have HT7 : Hid (Wt w w3 W6 s p r B B ws gs A A bh ch bu cu) := by rw [hW6]; exact HT6.out.later (one_alloc _ _)
      have HX15 : Hid (W6.heap[b15]? = some (.cells #[.int .u32 z, .int .u32 y] 38 (0, 0))) := by rw [hW6, hb15]; exact heap_alloc_new _ _
      have hco2 := refCom_any HOK.out HT7.out.ds HT7.out.ra
      rw [HCo.out] at hco2
      have HC2 : Hid (Calls Try.prog 17 #[.pointer (some ⟨B, 0, none⟩)] W6 fun r w' => r = .returned (.tuple #[zx z y, .bool fc]) ∧ Below W6.heap.size W6 w') := hco2
      have HW6 : Hid (w6.alloc (.cells #[.int .u32 z, .int .u32 y] 38) = W6) := hW6.symm
      have HB15 : Hid (w6.heap.size = b15) := hb15.symm
      clear hco2 hW6 hb15 HCo HT6
      go_upto_region 17 with fail
      rw [HW6.out, HB15.out]
      clear HW6 HB15
      go_wp2_with fail
      refine Calls.mono HC2.out ?_
      rintro e w7 ⟨rfl, hb7⟩
      obtain ⟨b17, hb17⟩ : ∃ b17, b17 = w7.heap.size := ⟨_, rfl⟩
      obtain ⟨W7, hW7⟩ : ∃ W7, W7 = w7.alloc (.cells #[.int .u32 z, .int .u32 y] 38) := ⟨_, rfl⟩
      have HT8 : Hid (Wt w w3 W7 s p r B B ws gs A A bh ch bu cu) := by rw [hW7]; exact (HT7.out.later hb7).later (one_alloc _ _)
      have hX15 : W7.heap[b15]? = some (.cells #[.int .u32 z, .int .u32 y] 38 (0, 0)) := by rw [hW7]; exact keepH (one_alloc _ _) (keepH hb7 HX15.out)
      have hX17 : W7.heap[b17]? = some (.cells #[.int .u32 z, .int .u32 y] 38 (0, 0)) := by rw [hW7, hb17]; exact heap_alloc_new _ _
      have y0 := cell_of_row _ _ 0 _ _ _ hX15
      have y1 := cell_of_row _ _ 1 _ _ _ hX15
      have y2 := cell_of_row _ _ 0 _ _ _ hX17
      have y3 := cell_of_row _ _ 1 _ _ _ hX17
      have HW7 : Hid (w7.alloc (.cells #[.int .u32 z, .int .u32 y] 38) = W7) := hW7.symm
      have HB17 : Hid (w7.heap.size = b17) := hb17.symm
      have hnz := neqZxQ z y
      have hff : (fc != fc) = false := by cases fc <;> rfl
      clear hW7 hb17 hb7 hX15 hX17 HX15 HT7 HC2
      go_upto_region 18 with fail
      rw [HW7.out, HB17.out]
      clear HW7 HB17
      go_wp2
      clear y0 y1 y2 y3 hnz hff
      obtain ⟨wo, hwo⟩ : ∃ wo, wo = wr := ⟨_, rfl⟩
      subst hwo
      go_loopw [19] (fun vk wr => ∃ kk : Int, -2 ≤ kk ∧ kk ≤ 9 ∧ vk = .int .i64 kk ∧ Hid (Wt w w3 wr s p r B B ws gs A A bh ch bu cu)) (fun vk _ => (9 - intOf vk).toNat)
      case atStart => exact ⟨-2, by omega, by omega, rfl, HT8.out⟩
      case round =>
        clear HT8
        obtain ⟨kk, k0, k1, rfl, HK⟩ := hrel
        by_cases hk8 : kk ≤ 8
        · have k2 : -128 ≤ kk := by omega
          have k3 : kk ≤ 127 := by omega
          obtain ⟨oe, hoe⟩ : ∃ oe, oe = A.ofE (syD ws gs) kk := ⟨_, rfl⟩
          obtain ⟨om, hom⟩ : ∃ om, om = A.ofM (syD ws gs) kk := ⟨_, rfl⟩
          obtain ⟨ov, hov⟩ : ∃ ov, ov = A.isV (syD ws gs) kk := ⟨_, rfl⟩
          have HC1 : Hid (Calls Try.prog 18 #[.pointer (some ⟨p, 0, none⟩), .int .i8 kk] wr fun r w' => r = .returned (.tuple #[zx oe om, .bool ov]) ∧ Below wr.heap.size wr w') := by
            rw [hoe, hom, hov]; exact of_gen HD.out HK.out.sy HK.out.ac HSo.out kk k2 k3
          go_wp2_with fail
          refine Calls.mono HC1.out ?_
          rintro e w8 ⟨rfl, hb8⟩
          obtain ⟨b15, hb15⟩ : ∃ b15, b15 = w8.heap.size := ⟨_, rfl⟩
          obtain ⟨W6, hW6⟩ : ∃ W6, W6 = w8.alloc (.cells #[.int .u32 oe, .int .u32 om] 38) := ⟨_, rfl⟩
          have HT7 : Hid (Wt w w3 W6 s p r B B ws gs A A bh ch bu cu) := by rw [hW6]; exact (HK.out.later hb8).later (one_alloc _ _)
          have HX15 : Hid (W6.heap[b15]? = some (.cells #[.int .u32 oe, .int .u32 om] 38 (0, 0))) := by rw [hW6, hb15]; exact heap_alloc_new _ _
          have HC2 : Hid (Calls Try.prog 19 #[.pointer (some ⟨B, 0, none⟩), .int .i8 kk] W6 fun r w' => r = .returned (.tuple #[zx oe om, .bool ov]) ∧ Below W6.heap.size W6 w') := by
            rw [hoe, hom, hov]; exact refOf_gen HOK.out HT7.out.ds HT7.out.ra kk k2 k3
          have HW6 : Hid (w8.alloc (.cells #[.int .u32 oe, .int .u32 om] 38) = W6) := hW6.symm
          have HB15 : Hid (w8.heap.size = b15) := hb15.symm
          clear hW6 hb15 HC1 hb8 HK hoe hom hov
          go_upto_region 24 with fail
          rw [HW6.out, HB15.out]
          clear HW6 HB15
          go_wp2_with fail
          refine Calls.mono HC2.out ?_
          rintro e w9 ⟨rfl, hb9⟩
          obtain ⟨b17, hb17⟩ : ∃ b17, b17 = w9.heap.size := ⟨_, rfl⟩
          obtain ⟨W7, hW7⟩ : ∃ W7, W7 = w9.alloc (.cells #[.int .u32 oe, .int .u32 om] 38) := ⟨_, rfl⟩
          have HT8 : Hid (Wt w w3 W7 s p r B B ws gs A A bh ch bu cu) := by rw [hW7]; exact (HT7.out.later hb9).later (one_alloc _ _)
          have hX15 : W7.heap[b15]? = some (.cells #[.int .u32 oe, .int .u32 om] 38 (0, 0)) := by rw [hW7]; exact keepH (one_alloc _ _) (keepH hb9 HX15.out)
          have hX17 : W7.heap[b17]? = some (.cells #[.int .u32 oe, .int .u32 om] 38 (0, 0)) := by rw [hW7, hb17]; exact heap_alloc_new _ _
          have y0 := cell_of_row _ _ 0 _ _ _ hX15
          have y1 := cell_of_row _ _ 1 _ _ _ hX15
          have y2 := cell_of_row _ _ 0 _ _ _ hX17
          have y3 := cell_of_row _ _ 1 _ _ _ hX17
          have HW7 : Hid (w9.alloc (.cells #[.int .u32 oe, .int .u32 om] 38) = W7) := hW7.symm
          have HB17 : Hid (w9.heap.size = b17) := hb17.symm
          have hnz := neqZxQ oe om
          have hff : (ov != ov) = false := by cases ov <;> rfl
          clear hW7 hb17 hb9 hX15 hX17 HX15 HT7 HC2
          go_upto_region 25 with fail
          rw [HW7.out, HB17.out]
          clear HW7 HB17
          go_wp2
          go_roundw
          case rel => exact ⟨kk + 1, by omega, by omega, by simp, HT8⟩
          case measure => simp [intOf]; omega
        · obtain rfl : kk = 9 := by omega
          clear k0 k1 hk8
          by_cases hlt : i < l.length
          · have hi1 : (i : Int) < (l.length : Int) := by omega
            obtain ⟨b, off, hap, hcl⟩ := HCl.out (fun t => by rw [t] at hlt; simp at hlt)
            subst hap
            obtain ⟨⟨v, pe, pm⟩, hpt⟩ : ∃ s, l[i]? = some s := ⟨l[i], List.getElem?_eq_getElem hlt⟩
            have hgd := HGd.out _ (List.mem_of_getElem? hpt)
            have hcw : w.cell? ⟨b, off + i * 3, none⟩ = some (.int .i8 v) := hcl i _ hpt 0 _ rfl
            have hbl : b < w.heap.size := World.block_lt_of_cell? w _ hcw
            have hce : w.cell? ⟨b, off + i * 3 + 1, none⟩ = some (.int .u32 pe) := hcl i _ hpt 1 _ rfl
            have hcm : w.cell? ⟨b, off + i * 3 + 2, none⟩ = some (.int .u32 pm) := hcl i _ hpt 2 _ rfl
            have g0 := (HK.out.be.cell hbl).trans hcw
            have g1 := (HK.out.be.cell hbl).trans hce
            have g2 := (HK.out.be.cell hbl).trans hcm
            obtain ⟨b24, hb24⟩ : ∃ b24, b24 = wr.heap.size := ⟨_, rfl⟩
            obtain ⟨W4, hW4⟩ : ∃ W4, W4 = wr.alloc (.cells #[.int .i8 v, .int .u32 pe, .int .u32 pm] 50) := ⟨_, rfl⟩
            have HT9 : Hid (Wt w w3 W4 s p r B B ws gs A A bh ch bu cu) := by rw [hW4]; exact HK.out.later (one_alloc _ _)
            have hX24 : W4.heap[b24]? = some (.cells #[.int .i8 v, .int .u32 pe, .int .u32 pm] 50 (0, 0)) := by rw [hW4, hb24]; exact heap_alloc_new _ _
            have hne : b24 ≠ p := by have := HK.out.ac.lt; omega
            have y0 := cell_of_row _ _ 0 _ _ _ hX24
            have y1 := cell_of_row _ _ 1 _ _ _ hX24
            have y2 := cell_of_row _ _ 2 _ _ _ hX24
            have HX24 : Hid (W4.heap[b24]? = some (.cells #[.int .i8 v, .int .u32 pe, .int .u32 pm] 50 (0, 0)) ∧ b24 ≠ p) := ⟨hX24, hne⟩
            have z24 := lt_of_block hX24
            obtain ⟨ee, hee⟩ : ∃ ee, ee = putE (syD ws gs) v := ⟨_, rfl⟩
            have HP1 : Hid (Calls Try.prog 20 #[.pointer (some ⟨p, 0, none⟩), .int .i8 v, zx pe pm] W4 fun r w' => r = .returned (.int .i64 ee) ∧ IsAc w' p s (A.putV (syD ws gs) v pe pm) ∧ Kept W4 w' (fun k => k = p)) := by
              rw [hee]; exact put_gen HD.out HT9.out.sy HT9.out.ac HSo.out v pe pm hgd.1.1 hgd.1.2
            have HEe : Hid (ee = putE (syD ws gs) v) := hee
            have HGv : Hid (-128 ≤ v ∧ v ≤ 127) := hgd.1
            have hso : Hid ((A.putV (syD ws gs) v pe pm).so < 256) := AcD.putV_so HD.out HSo.out v pe pm
            have HW4 : Hid (wr.alloc (.cells #[.int .i8 v, .int .u32 pe, .int .u32 pm] 50) = W4) := hW4.symm
            have HB24 : Hid (wr.heap.size = b24) := hb24.symm
            clear hcl hgd hpt hcw hce hcm hbl hb24 hW4 hX24 hne hee HSo HK
            go_upto_region 29 with fail
            rw [HW4.out, HB24.out]
            clear HW4 HB24 g0 g1 g2
            go_wp2_with fail
            refine Calls.mono HP1.out ?_
            rintro e w10 ⟨rfl, ha10, hk10⟩
            have HT10 : Hid (Wt w w3 w10 s p r B B ws gs (A.putV (syD ws gs) v pe pm) A bh ch bu cu) := HT9.out.put1 ha10 hk10
            have hX24 := hk10.heap HX24.out.1 HX24.out.2
            have u0 := cell_of_row _ _ 0 _ _ _ hX24
            have u1 := cell_of_row _ _ 1 _ _ _ hX24
            have u2 := cell_of_row _ _ 2 _ _ _ hX24
            have z25 := lt_of_block hX24
            have HP2 : Hid (Calls Try.prog 21 #[.pointer (some ⟨B, 0, none⟩), .int .i8 v, zx pe pm] w10 fun x w' => x = .returned (.int .i64 ee) ∧ Ra w' B B r ws.length (A.putV (syD ws gs) v pe pm) bh ch bu cu ∧ Kept w10 w' (fun k => B ≤ k)) := by
              rw [HEe.out]; exact refPut_gen HOK.out HT10.out.ds HT10.out.ra HT10.out.BW v pe pm HGv.out.1 HGv.out.2
            clear hX24 HX24 ha10 hk10 HP1 HT9 y0 y1 y2 HEe z24
            go_wp2_with fail
            refine Calls.mono HP2.out ?_
            rintro e w11 ⟨rfl, ha11, hk11⟩
            have HT11 : Hid (Wt w w3 w11 s p r B B ws gs (A.putV (syD ws gs) v pe pm) (A.putV (syD ws gs) v pe pm) bh ch bu cu) := HT10.out.put2 ha11 hk11
            have hee2 : (ee != ee) = false := by simp
            clear ha11 hk11 HP2 HT10 u0 u1 u2 z25 HGv
            go_wp2
            go_roundw
            case rel => exact ⟨i + 1, _, by omega, by simp, hso, HT11⟩
            case measure => simp [intOf]; omega
          · have hi1 : ¬ (i : Int) < (l.length : Int) := by omega
            go_wp2
            go_roundw
            case rel => exact ⟨i + 1, A, by omega, by simp, HSo, HK⟩
            case measure => simp [intOf]; omega
    · have hin : ¬ (i : Int) ≤ (l.length : Int) := by omega
      clear HSo
      go_wp2
      go_loopw [27] (fun vt wr => ∃ t : Nat, t ≤ 128 ∧ vt = .int .i64 (t : Int) ∧ Hid (Wt w w3 wr s p r B B ws gs A A bh ch bu cu)) (fun vt _ => 128 - (intOf vt).toNat)
      case atStart => exact ⟨0, by omega, rfl, HT.out⟩
      case round =>
        clear HT
        obtain ⟨t, ht, rfl, HT⟩ := hrel
        have c0 := HT.out.ac.c0
        have zp := HT.out.ac.lt
        by_cases ht8 : t < 128
        · have t0 : (0 : Int) ≤ (t : Int) := by omega
          have t1 : (t : Int) ≤ 255 := by omega
          have t2 : (t : Int) < 128 := by omega
          have t3 : t < 256 := by omega
          obtain ⟨hx, hhx⟩ : ∃ hx, hx = (syD ws gs).has t.testBit := ⟨_, rfl⟩
          obtain ⟨lx, hlx⟩ : ∃ lx, lx = (syD ws gs).least t.testBit := ⟨_, rfl⟩
          have HHx : Hid (hx = (syD ws gs).has t.testBit) := hhx
          have HLx : Hid (lx = (syD ws gs).least t.testBit) := hlx
          have HC1 : Hid (Calls Try.prog 22 #[.pointer (some ⟨s, 0, none⟩), .int .u8 (t : Int)] wr fun e w' => e = .returned (.bool hx) ∧ Below wr.heap.size wr w') := by
            rw [hhx]; exact has_sy HD.out HT.out.sy t3
          have hh2 : (hx != hx) = false := by cases hx <;> rfl
          have hl2 : (lx != lx) = false := by cases lx <;> rfl
          clear hhx hlx
          go_wp2_with fail
          refine Calls.mono HC1.out ?_
          rintro e w6 ⟨rfl, hb6⟩
          have HT6 : Hid (Wt w w3 w6 s p r B B ws gs A A bh ch bu cu) := HT.out.later hb6
          have HC2 : Hid (Calls Try.prog 23 #[.pointer (some ⟨r, 0, none⟩), .int .u8 (t : Int)] w6 fun e w' => e = .returned (.bool hx) ∧ w' = w6) := by
            rw [HHx.out]; exact refHas20 HT6.out.ds HOK.out t3
          clear hb6 HC1 HT c0 zp
          have c0 := HT6.out.ac.c0
          have zp := HT6.out.ac.lt
          go_wp2_with fail
          refine Calls.mono HC2.out ?_
          rintro e wx ⟨rfl, hwx⟩
          rw [hwx]
          clear hwx wx HC2 HHx
          have HC3 : Hid (Calls Try.prog 24 #[.pointer (some ⟨s, 0, none⟩), .int .u8 (t : Int)] w6 fun e w' => e = .returned (.bool lx) ∧ Below w6.heap.size w6 w') := by
            rw [HLx.out]; exact least_sy HD.out HT6.out.sy t3
          go_wp2_with fail
          refine Calls.mono HC3.out ?_
          rintro e w7 ⟨rfl, hb7⟩
          have HT7 : Hid (Wt w w3 w7 s p r B B ws gs A A bh ch bu cu) := HT6.out.later hb7
          have HC4 : Hid (Calls Try.prog 25 #[.pointer (some ⟨r, 0, none⟩), .int .u8 (t : Int)] w7 fun e w' => e = .returned (.bool lx) ∧ w' = w7) := by
            rw [HLx.out]; exact refLeast20 HT7.out.ds HOK.out t3
          clear hb7 HC3 HT6 c0 zp HLx
          go_wp2_with fail
          refine Calls.mono HC4.out ?_
          rintro e wx ⟨rfl, hwx⟩
          rw [hwx]
          clear hwx wx HC4
          go_wp2
          go_roundw
          case rel => exact ⟨t + 1, by omega, by simp, HT7⟩
          case measure => simp [intOf]; omega
        · have t2 : ¬ (t : Int) < 128 := by omega
          obtain ⟨z128, hz128⟩ : ∃ z : Int, z = (t : Int) := ⟨_, rfl⟩
          rw [← hz128] at t2 ⊢
          clear hz128
          obtain ⟨w7, hw7⟩ : ∃ w7, w7 = wr := ⟨_, rfl⟩
          subst hw7
          go_wp2
          go_loopw [28] (fun vk wr => ∃ kk : Int, -2 ≤ kk ∧ kk ≤ 9 ∧ vk = .int .i64 kk ∧ Hid (wr = w7)) (fun vk _ => (9 - intOf vk).toNat)
          case atStart => exact ⟨-2, by omega, by omega, rfl, rfl⟩
          case round =>
            obtain ⟨kk, k0, k1, rfl, HE⟩ := hrel
            rw [HE.out]
            clear HE
            by_cases hk8 : kk ≤ 8
            · have k2 : -128 ≤ kk := by omega
              have k3 : kk ≤ 127 := by omega
              have HC1 : Hid (Calls Try.prog 26 #[.pointer (some ⟨s, 0, none⟩), .int .i8 kk] w7 fun e w' => e = .returned (.bool ((syD ws gs).cou kk)) ∧ w' = w7) := counts_sy HD.out HT.out.sy kk k2 k3
              have HC2 : Hid (Calls Try.prog 27 #[.pointer (some ⟨r, 0, none⟩), .int .i8 kk] w7 fun e w' => e = .returned (.bool ((syD ws gs).cou kk)) ∧ w' = w7) := refCounts20 HT.out.ds HOK.out kk k2 k3
              generalize (syD ws gs).cou kk = cb at *
              have hcb : (cb != cb) = false := by cases cb <;> rfl
              go_wp2_with fail
              refine Calls.mono HC1.out ?_
              rintro e wx ⟨rfl, hwx⟩
              rw [hwx]
              clear hwx wx HC1
              go_wp2_with fail
              refine Calls.mono HC2.out ?_
              rintro e wx ⟨rfl, hwx⟩
              rw [hwx]
              clear hwx wx HC2
              go_wp2
              go_roundw
              case rel => exact ⟨kk + 1, by omega, by omega, by simp, trivial⟩
              case measure => simp [intOf]; omega
            · have HS4 : Hid (Calls Try.prog 13 #[.pointer (some ⟨s, 0, none⟩)] w7 fun e w' => e = .returned (.int .i64 n) ∧ w' = w7) := by
                rw [HNn.out]; exact size_sy HD.out HT.out.sy
              have HR4 : Hid (Calls Try.prog 14 #[.pointer (some ⟨r, 0, none⟩)] w7 fun e w' => e = .returned (.int .i64 n) ∧ w' = w7) := by
                rw [HNn.out]; exact refSize20 HT.out.ds HOK.out
              have HBe : Hid (Below w.heap.size w w7) := HT.out.be
              have hnn : ((n : Int) == (n : Int)) = true := by simp
              clear HT k0 k1
              go_wp2_with fail
              refine Calls.mono HS4.out ?_
              rintro e wx ⟨rfl, hwx⟩
              rw [hwx]
              clear hwx wx HS4
              go_wp2_with fail
              refine Calls.mono HR4.out ?_
              rintro e wx ⟨rfl, hwx⟩
              rw [hwx]
              clear hwx wx HR4
              go_wp2
              all_goals (go_ret; exact ⟨by first | rfl | simp, HBe.out⟩)

end Go.Proofs.Ytlnoighjdmjdeaa
