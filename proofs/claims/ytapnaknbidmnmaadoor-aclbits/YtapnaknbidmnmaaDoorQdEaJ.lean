/- The walk of AclBits, one of six cases: may the client's ids be (yes), may the list with one more entry be (yes), is that entry's scheme auth (no). -/
import Derived.Test.YtapnaknbidmnmaaDoorQdCJ
namespace Go.Proofs.YtapnaknbidmnmaaDoor
open Go.RowKit Go.Shelf
set_option maxRecDepth 8000

set_option maxHeartbeats 4000000 in
theorem bits_walk_a (l : List EnT) (mk who : List IdT) (pm : Int) (m : EnT) (o : IdT) (la ma wa : Option Addr) (lc mc wc : Nat) (w : World) (hl : SE w (.slice la l.length lc) l) (hm : SI w (.slice ma mk.length mc) mk) (hw : SI w (.slice wa who.length wc) who) (n1 : l.length ≤ 2 ^ 62) (n2 : mk.length ≤ 2 ^ 62) (n3 : who.length ≤ 2 ^ 62) (hi : idLs who = true) (hwb : ∀ f, fixA l mk = some f → enLs (f ++ [m]) = true) (hau : isAu m = false) :
    Calls Tryd.prog 3 #[.agg #[.slice la l.length lc, .slice ma mk.length mc, .int .i8 pm, .slice wa who.length wc, .int .i8 m.1, .string m.2.1, .string m.2.2, .string o.1, .string o.2]] w fun e w' => e = .returned (.bool true) ∧ Below w.heap.size w w' := by
  have HL : Hid (∀ V, BI w m o V → Calls Tryd.prog 4 #[.slice la l.length lc, .slice wa who.length wc] V fun e w' => ∃ r, e = .returned (.bool r) ∧ Hid ((r = false → bulkE l + bulkI who ≤ 1073741823) ∧ BI w m o w')) := fun V hV =>
    (long6_any _ _ l who V (hl.below hV.2.2.2.2.2) (hw.below hV.2.2.2.2.2) n1 n3).mono (fun e w' hh => by
      obtain ⟨r, rfl, hr, k, rfl⟩ := hh
      exact ⟨r, rfl, hr, hV.below (below_drewN (Below.refl _ _) _)⟩)
  have HM : Hid (∀ V, BI w m o V → Calls Tryd.prog 4 #[.slice (some ⟨V.heap.size, 0, none⟩) 1 1, .slice ma mk.length mc] (V.alloc (.cells (enCs m) 28)) fun e w' => ∃ r, e = .returned (.bool r) ∧ Hid ((r = false → bulkE [m] + bulkI mk ≤ 1073741823) ∧ BI w m o w')) := fun V hV =>
    (long6_any _ _ [m] mk _ (SE_one V m) (hm.below (hV.2.2.2.2.2.alloc hV.2.2.2.2.2.size _)) (by simp) n2).mono (fun e w' hh => by
      obtain ⟨r, rfl, hr, k, rfl⟩ := hh
      exact ⟨r, rfl, hr, (hV.below ((Below.refl _ _).alloc (Nat.le_refl _) _)).below (below_drewN (Below.refl _ _) _)⟩)
  have HO : Hid (∀ V, BI w m o V → Calls Tryd.prog 4 #[.slice none 0 0, .slice (some ⟨V.heap.size, 0, none⟩) 1 1] (V.alloc (.cells (idCs o) 26)) fun e w' => ∃ r, e = .returned (.bool r) ∧ Hid ((r = false → bulkI [o] ≤ 1073741823) ∧ BI w m o w')) := fun V hV =>
    (long6_any _ _ [] [o] _ (SE_nil6 _) (SI_one V o) (by simp) (by simp)).mono (fun e w' hh => by
      obtain ⟨r, rfl, hr, k, rfl⟩ := hh
      exact ⟨r, rfl, (fun h => by have := hr h; simp [bulkE] at this; simpa [bulkI] using this), (hV.below ((Below.refl _ _).alloc (Nat.le_refl _) _)).below (below_drewN (Below.refl _ _) _)⟩)
  have HBI : Hid (BI w m o (biW w #[.slice la l.length lc, .slice ma mk.length mc, .int .i8 pm, .slice wa who.length wc, .int .i8 m.1, .string m.2.1, .string m.2.2, .string o.1, .string o.2] m o)) := biW_new w _ m o
  have HSE : Hid (SE w (.slice la l.length lc) l) := hl
  have HSM : Hid (SI w (.slice ma mk.length mc) mk) := hm
  have HSW : Hid (SI w (.slice wa who.length wc) who) := hw
  clear hl hm hw
  go_enter Tryd.func3, Tryd.ntmps3
  go_wp2_with fail
  go_at_call 4
  refine (HL.out _ HBI.out).mono ?_
  rintro e w1 ⟨r1, rfl, H1⟩
  clear HBI HL
  obtain ⟨q0, q1, q2, q3, q4, _⟩ := H1.out.2
  cases r1
  rotate_left
  · go_wp2
    go_ret
    exact ⟨rfl, H1.out.2.2.2.2.2.2⟩
  have HK1 : Hid (bulkE l + bulkI who ≤ 1073741823) := H1.out.1 rfl
  have HM1 := HM.out w1 H1.out.2
  clear H1
  go_wp2_with fail
  go_at_call 4
  refine HM1.mono ?_
  rintro e w2 ⟨r2, rfl, H2⟩
  clear HM HM1 q0 q1 q2 q3 q4
  obtain ⟨q0, q1, q2, q3, q4, _⟩ := H2.out.2
  cases r2
  rotate_left
  · go_wp2
    go_ret
    exact ⟨rfl, H2.out.2.2.2.2.2.2⟩
  have HK2 : Hid (bulkE [m] + bulkI mk ≤ 1073741823) := H2.out.1 rfl
  have HO1 := HO.out w2 H2.out.2
  clear H2
  go_wp2_with fail
  go_at_call 4
  refine HO1.mono ?_
  rintro e w3 ⟨r3, rfl, H3⟩
  clear HO HO1 q0 q1 q2 q3 q4
  cases r3
  rotate_left
  · go_wp2
    go_ret
    exact ⟨rfl, H3.out.2.2.2.2.2.2⟩
  have HBD : Hid (Bnd l mk who m o) := bnd_of HK1.out HK2.out (H3.out.1 rfl)
  have H3' : Hid (BI w m o w3) := H3.out.2
  clear H3 HK1 HK2 n1 n2 n3
  go_wp2_with fail
  go_at_call 5
  refine (lives6_yes _).mono ?_
  rintro e w4 ⟨rfl, hB⟩
  have H4 : Hid (BI w m o w4) := H3'.out.below hB
  clear hB H3'
  have HFx := fix_gen (.slice la l.length lc) (.slice ma mk.length mc) l mk w4 (HSE.out.below H4.out.2.2.2.2.2) (HSM.out.below H4.out.2.2.2.2.2) HBD.out.1 HBD.out.2.1
  go_wp2_with fail
  go_at_call 6
  refine HFx.mono ?_
  rintro e w5 ⟨⟨fv, rfl, ho, hnone⟩, hB⟩
  have H5 : Hid (BI w m o w5) := H4.out.below hB
  clear hB H4 HFx HSE HSM
  cases hfx : fixA l mk with
  | none =>
    rw [hfx] at hnone ho
    obtain rfl := hnone rfl
    clear hnone ho hfx
    go_wp2
    go_ret
    exact ⟨rfl, H5.out.2.2.2.2.2⟩
  | some f =>
    rw [hfx] at ho
    have HFF : Hid (fxLs f = true) := fixA_fixed hfx
    have HFZ : Hid (∀ x ∈ f, x.2.2.size ≤ 4294967296) := fixA_mem (Q := fun y => y.2.size ≤ 4294967296) HBD.out.1 HBD.out.2.1 (by decide) hfx
    have HWB : Hid (enLs (f ++ [m]) = true) := hwb f hfx
    have HSF : Hid (SE w5 fv f) := SE_owns ho
    obtain ⟨fo, fc, rfl, _⟩ := id HSF.out
    clear hfx hnone ho
    obtain ⟨hf4, hf0⟩ : f.length ≤ 4 ∧ 0 < f.length := by
      obtain ⟨a1, a2, _⟩ := (fxLs_iff f).1 HFF.out
      exact ⟨((enLs_iff f).1 a1).1, a2⟩
    have HFx2 := fix_gen (.slice fo f.length fc) (.slice wa who.length wc) f who w5 HSF.out (HSW.out.below H5.out.2.2.2.2.2) HFZ.out HBD.out.2.2.1
    go_wp2_with fail
    go_at_call 6
    refine HFx2.mono ?_
    rintro e w6 ⟨⟨gv, rfl, ho, _⟩, hB⟩
    have H6 : Hid (BI w m o w6 ∧ SE w6 (.slice fo f.length fc) f) := ⟨H5.out.below hB, HSF.out.below hB⟩
    have HSG : Hid (idLs who = true → SE w6 gv f) := fun hi => by
      rw [fixA_again HFF.out hi] at ho
      exact SE_owns ho
    have HGO : Hid (idLs who = true → (fixA f who).isSome = true) := fun hi => by rw [fixA_again HFF.out hi]; rfl
    obtain ⟨ga, gl, gc, rfl⟩ : ∃ ga gl gc, gv = .slice ga gl gc := by
      obtain ⟨_, ⟨rfl, _⟩ | ⟨g, cap, cur, rfl, _⟩⟩ := ho
      · exact ⟨_, _, _, rfl⟩
      · exact ⟨_, _, _, rfl⟩
    clear hB ho H5 HFx2 HSF
    have HCk : Hid (Calls Tryd.prog 7 #[.slice fo f.length fc] w6 fun e w' => e = .returned (.int .i64 0) ∧ Below w6.heap.size w6 w') := (aclCheck _ f w6 H6.out.2 HFZ.out).mono (fun e w' hh => ⟨by rw [hh.1, ((fxLs_iff f).1 HFF.out).1]; rfl, hh.2⟩)
    have d0 : ((f.length : Int) == 0) = false := by rw [beq_eq_false_iff_ne]; omega
    go_wp2_with fail
    go_at_call 7
    refine HCk.out.mono ?_
    rintro e w7 ⟨rfl, hB⟩
    have H7 : Hid (BI w m o w7 ∧ SE w7 (.slice fo f.length fc) f) := ⟨H6.out.1.below hB, H6.out.2.below hB⟩
    have HSG7 : Hid (idLs who = true → SE w7 (.slice ga gl gc) f) := fun hi => (HSG.out hi).below hB
    clear hB HCk H6 HSG
    have HCi : Hid (∀ V, BI w m o V → Calls Tryd.prog 8 #[.slice wa who.length wc] V fun e w' => e = .returned (erV (idLs who)) ∧ Below V.heap.size V w') := fun V hV => aclCheckIds _ who V (HSW.out.below hV.2.2.2.2.2) HBD.out.2.2.1
    go_wp2_with fail
    go_at_call 8
    refine (HCi.out _ H7.out.1).mono ?_
    rintro e w8 ⟨rfl, hB⟩
    have H8 : Hid (BI w m o w8 ∧ SE w8 (.slice fo f.length fc) f) := ⟨H7.out.1.below hB, H7.out.2.below hB⟩
    have HSG8 : Hid (idLs who = true → SE w8 (.slice ga gl gc) f) := fun hi => (HSG7.out hi).below hB
    clear hB H7 HSG7
    rw [hi] at HCi
    have HG0 := HGO.out hi
    rw [HG0]
    have HEq := eqAcl_se (.slice ga gl gc) (.slice fo f.length fc) f w8 (HSG8.out hi) H8.out.2 (by omega)
    clear HG0
    rw [hi]
    clear HGO HSG8
    go_wp2_with fail
    go_at_call 9
    refine HEq.mono ?_
    rintro e w9 ⟨rfl, hB⟩
    have H9 : Hid (BI w m o w9 ∧ SE w9 (.slice fo f.length fc) f) := by
      obtain ⟨k, rfl⟩ := hB
      exact ⟨H8.out.1.below (below_drewN (Below.refl _ _) _), H8.out.2.below (below_drewN (Below.refl _ _) _)⟩
    clear hB HEq H8
    have HNA : Hid (∀ x ∈ f, isAu x = false) := ((fxLs_iff f).1 HFF.out).2.2
    obtain ⟨fo2, fc2, hfe, _, HCF⟩ := SE_cells H9.out.2
    simp only [Value.slice.injEq, true_and] at hfe
    obtain ⟨rfl, rfl⟩ := hfe
    go_wp2
    go_loopw [13] (fun vi wr => ∃ i : Nat, i ≤ f.length ∧ vi = .int .i64 (i : Int) ∧ wr = w9) (fun vi _ => f.length - (intOf vi).toNat)
    case atStart => exact ⟨0, Nat.zero_le _, rfl, rfl⟩
    case round =>
      obtain ⟨i, hi2, rfl, rfl⟩ := hrel
      by_cases hlt : i < f.length
      · have d1 : decide ((i : Int) < (f.length : Int)) = true := by simp; omega
        obtain ⟨b, off, rfl, k0, k1, k2⟩ := HCF.out i hlt
        have hau : (f[i].2.1.toList == [97, 117, 116, 104]) = false := HNA.out _ (List.getElem_mem hlt)
        clear HCF HNA
        generalize f[i] = x at *
        go_wp2
        go_roundw
        case rel => exact ⟨i + 1, by omega, by go_num, by first | rfl | trivial⟩
        case measure => simp [intOf]; omega
      have d1 : decide ((i : Int) < (f.length : Int)) = false := by simp; omega
      clear HCF HNA
      obtain ⟨q0, q1, q2, q3, q4, _⟩ := H9.out.1
      go_wp2
      refine reg20 wr (w.heap.size + 1) _ f m H9.out.2 (by omega) q0 q1 q2 (fun _ _ _ _ _ h => h) ?_
      intro v1 wv vs1 wa1 ho1 hB1
      have HW1 : Hid (BI w m o wa1 ∧ SE wa1 (.slice fo f.length fc) f ∧ SE wa1 wv (f ++ [m])) := ⟨H9.out.1.below hB1, H9.out.2.below hB1, SE_owns ho1⟩
      obtain ⟨xo, xl, xc, rfl⟩ : ∃ xo xl xc, wv = .slice xo xl xc := by
        obtain ⟨_, ⟨rfl, _⟩ | ⟨g, cap, cur, rfl, _⟩⟩ := ho1
        · exact ⟨_, _, _, rfl⟩
        · exact ⟨_, _, _, rfl⟩
      clear ho1 hB1 H9 q0 q1 q2 q3 q4
      obtain ⟨q0, q1, q2, q3, q4, _⟩ := HW1.out.1
      go_wp2
      refine reg21 wa1 (w.heap.size + 1 + 1) _ who o (HSW.out.below HW1.out.1.2.2.2.2.2) (by have := HBD.out.2.2.2.2.2; omega) q3 q4 (fun _ _ _ _ _ h => h) ?_
      intro v2 iv vs2 wb1 ho2 hB2
      obtain ⟨io, il, ic, rfl⟩ : ∃ io il ic, iv = .slice io il ic := by
        obtain ⟨_, ⟨rfl, _⟩ | ⟨g, cap, cur, rfl, _⟩⟩ := ho2
        · exact ⟨_, _, _, rfl⟩
        · exact ⟨_, _, _, rfl⟩
      obtain ⟨BW, hBW⟩ : ∃ BW : World → Prop, BW = fun V => BI w m o V ∧ SE V (.slice fo f.length fc) f ∧ SE V (.slice xo xl xc) (f ++ [m]) ∧ SI V (.slice io il ic) (who ++ [o]) := ⟨_, rfl⟩
      have HBW : Hid (∀ V V', BW V → Below V.heap.size V V' → BW V') := fun V V' h hB => by
        rw [hBW] at h ⊢
        exact ⟨h.1.below hB, h.2.1.below hB, h.2.2.1.below hB, h.2.2.2.below hB⟩
      have HX0 : Hid (BW wb1) := by
        show BW wb1
        rw [hBW]
        exact ⟨HW1.out.1.below hB2, HW1.out.2.1.below hB2, HW1.out.2.2.below hB2, SI_owns ho2⟩
      have HZ1 : Hid (∀ x ∈ f ++ [m], x.2.2.size ≤ 4294967296) := fun x hx => by
        rcases List.mem_append.1 hx with hx | hx
        · exact HFZ.out x hx
        · rw [List.mem_singleton.1 hx]; exact HBD.out.2.2.2.1
      have HZ2 : Hid (∀ x ∈ who ++ [o], x.2.size ≤ 4294967296) := fun x hx => by
        rcases List.mem_append.1 hx with hx | hx
        · exact HBD.out.2.2.1 x hx
        · rw [List.mem_singleton.1 hx]; exact HBD.out.2.2.2.2.1
      have HAl : Hid (∀ (V : World) (p : Int), BW V → Calls Tryd.prog 12 #[.slice fo f.length fc, .int .i8 p, .slice wa who.length wc] V fun e w' => e = .returned (.bool (alB f p who)) ∧ Hid (BW w')) := fun V p hV => by
        have hV2 := hV
        rw [hBW] at hV2
        exact (allows_gen _ _ f p who V hV2.2.1 (HSW.out.below hV2.1.2.2.2.2.2) (by omega) HFZ.out HBD.out.2.2.1).mono (fun e w' hh => ⟨hh.1, HBW.out V w' hV hh.2⟩)
      have HAi : Hid (∀ (V : World) (p : Int), BW V → Calls Tryd.prog 12 #[.slice fo f.length fc, .int .i8 p, .slice io il ic] V fun e w' => e = .returned (.bool (alB f p (who ++ [o]))) ∧ Hid (BW w')) := fun V p hV => by
        have hV2 := hV
        rw [hBW] at hV2
        exact (allows_gen _ _ f p (who ++ [o]) V hV2.2.1 hV2.2.2.2 (by omega) HFZ.out HZ2.out).mono (fun e w' hh => ⟨hh.1, HBW.out V w' hV hh.2⟩)
      have HAw : Hid (∀ (V : World) (p : Int), BW V → Calls Tryd.prog 12 #[.slice xo xl xc, .int .i8 p, .slice wa who.length wc] V fun e w' => e = .returned (.bool (alB (f ++ [m]) p who)) ∧ Hid (BW w')) := fun V p hV => by
        have hV2 := hV
        rw [hBW] at hV2
        exact (allows_gen _ _ (f ++ [m]) p who V hV2.2.2.1 (HSW.out.below hV2.1.2.2.2.2.2) (by simp; omega) HZ1.out HBD.out.2.2.1).mono (fun e w' hh => ⟨hh.1, HBW.out V w' hV hh.2⟩)
      have HCw : Hid (Calls Tryd.prog 7 #[.slice xo xl xc] wb1 fun e w' => e = .returned (.int .i64 0) ∧ Hid (BW w')) := by
        have hV2 := HX0.out
        rw [hBW] at hV2
        exact (aclCheck _ (f ++ [m]) wb1 hV2.2.2.1 HZ1.out).mono (fun e w' hh => ⟨by rw [hh.1, HWB.out]; rfl, HBW.out _ w' HX0.out hh.2⟩)
      obtain ⟨lg, hlg⟩ : ∃ lg, lg = idLs (who ++ [o]) := ⟨_, rfl⟩
      have HCd : Hid (∀ V, BW V → Calls Tryd.prog 8 #[.slice io il ic] V fun e w' => (∃ c : Int, e = .returned (.int .i64 c) ∧ (c == 0) = lg) ∧ Hid (BW w')) := fun V hV => by
        have hV2 := hV
        rw [hBW] at hV2
        exact (aclCheckIds _ (who ++ [o]) V hV2.2.2.2 HZ2.out).mono (fun e w' hh => ⟨⟨_, hh.1, by rw [hlg]; cases idLs (who ++ [o]) <;> rfl⟩, HBW.out V w' hV hh.2⟩)
      have HCh : Hid (∀ V, BW V → Calls Tryd.prog 8 #[.slice wa who.length wc] V fun e w' => e = .returned (.int .i64 0) ∧ Hid (BW w')) := fun V hV => by
        have hV2 := hV
        rw [hBW] at hV2
        exact (aclCheckIds _ who V (HSW.out.below hV2.1.2.2.2.2.2) HBD.out.2.2.1).mono (fun e w' hh => ⟨by rw [hh.1, hi]; rfl, HBW.out V w' hV hh.2⟩)
      have HEnd : Hid (∀ V, BW V → Below w.heap.size w V) := fun V hV => by
        rw [hBW] at hV
        exact hV.1.2.2.2.2.2
      have HQ1 : Hid (∀ V, BW V → V.cell? ⟨w.heap.size + 1, 1, none⟩ = some (.string m.2.1)) := fun V hV => by
        rw [hBW] at hV
        exact hV.1.2.1
      have HLG : Hid (lg = idLs (who ++ [o])) := hlg
      clear hlg hBW HBW ho2 hB2 HW1 q0 q1 q2 q3 q4 HZ1 HZ2 HCi
      go_wp2_with fail
      go_at_call 7
      refine HCw.out.mono ?_
      rintro e wc1 ⟨rfl, HX1⟩
      clear HCw HX0
      have hq1 := HQ1.out _ HX1.out
      have hau2 : (m.2.1.toList == [97, 117, 116, 104]) = false := hau
      have hau3 : (m.2.1.toList != [97, 117, 116, 104]) = true := by rw [bne, hau2]; rfl
      go_wp2_with fail
      go_at_call 8
      refine (HCd.out _ HX1.out).mono ?_
      rintro e wd1 ⟨⟨c, rfl, hc⟩, HX2⟩
      clear HCd HX1 hq1
      go_wp2_with fail
      go_at_call 8
      refine (HCh.out _ HX2.out).mono ?_
      rintro e we1 ⟨rfl, HX3⟩
      clear HCh HX2 HQ1
      go_wp2
      go_loopw [19] (fun vp wr => ∃ p : Nat, p ≤ 32 ∧ vp = .int .i8 (p : Int) ∧ Hid (BW wr)) (fun vp _ => 32 - (intOf vp).toNat)
      case atStart => exact ⟨0, by omega, rfl, HX3⟩
      case round =>
        obtain ⟨p, hp, rfl, HX4⟩ := hrel
        clear HX3
        by_cases hp32 : p < 32
        · have d2 : decide ((p : Int) < 32) = true := by simp; omega
          have HAp : Hid (alB f (p : Int) who = eachB f p who 5) := eachB_all HFF.out hp32
          go_wp2_with fail
          go_at_call 12
          refine (HAl.out _ _ HX4.out).mono ?_
          rintro e wp ⟨rfl, HX5⟩
          clear HX4
          obtain ⟨A, hA⟩ : ∃ A, A = alB f (p : Int) who := ⟨_, rfl⟩
          rw [← hA] at HAp ⊢
          have HA : Hid (A = alB f (p : Int) who) := hA
          clear hA
          go_wp2
          go_loopw [21, 22] (fun ve vb wr => ∃ k : Nat, k ≤ 5 ∧ vb = .int .i8 ((2 ^ k : Nat) : Int) ∧ ve = .bool (eachB f p who k) ∧ Hid (BW wr)) (fun _ vb _ => 32 - (intOf vb).toNat)
          case atStart => exact ⟨0, by omega, rfl, by rw [show eachB f p who 0 = true by unfold eachB; rw [hi]; rfl], HX5⟩
          case round =>
            obtain ⟨k, hk, rfl, rfl, HX6⟩ := hrel
            clear HX5
            have hk6 : k = 0 ∨ k = 1 ∨ k = 2 ∨ k = 3 ∨ k = 4 ∨ k = 5 := by omega
            rcases hk6 with hk6 | hk6 | hk6 | hk6 | hk6 | hk6
            · have e2 : ((2 ^ k : Nat) : Int) = 1 := by rw [hk6]; rfl
              rw [e2]
              have HS : Hid (eachB f p who (k + 1) = (eachB f p who k && (!p.testBit 0 || alB f 1 who))) := by
                show _ = _
                rw [eachB_step, hk6]
                rfl
              have ht := and_test ⟨p, hp32⟩ ⟨0, by omega⟩
              replace ht : (bits .and .i8 (p : Int) 1 != 0) = p.testBit 0 := ht
              generalize eachB f p who k = eb at *
              cases hb : p.testBit 0
              · rw [hb] at ht HS
                clear hb
                go_wp2
                go_roundw
                case rel => exact ⟨k + 1, by omega, by rw [hk6]; rfl, by rw [HS.out]; simp, HX6⟩
                case measure => simp [intOf]
              · rw [hb] at ht HS
                clear hb
                go_wp2_with fail
                go_at_call 12
                refine (HAl.out _ _ HX6.out).mono ?_
                rintro e wq ⟨rfl, HX7⟩
                clear HX6
                generalize alB f 1 who = ob at *
                cases eb
                · go_wp2
                  go_roundw
                  case rel => exact ⟨k + 1, by omega, by rw [hk6]; rfl, by rw [HS.out]; rfl, HX7⟩
                  case measure => simp [intOf]
                · go_wp2
                  go_roundw
                  case rel => exact ⟨k + 1, by omega, by rw [hk6]; rfl, by rw [HS.out]; simp, HX7⟩
                  case measure => simp [intOf]
            · have e2 : ((2 ^ k : Nat) : Int) = 2 := by rw [hk6]; rfl
              rw [e2]
              have HS : Hid (eachB f p who (k + 1) = (eachB f p who k && (!p.testBit 1 || alB f 2 who))) := by
                show _ = _
                rw [eachB_step, hk6]
                rfl
              have ht := and_test ⟨p, hp32⟩ ⟨1, by omega⟩
              replace ht : (bits .and .i8 (p : Int) 2 != 0) = p.testBit 1 := ht
              generalize eachB f p who k = eb at *
              cases hb : p.testBit 1
              · rw [hb] at ht HS
                clear hb
                go_wp2
                go_roundw
                case rel => exact ⟨k + 1, by omega, by rw [hk6]; rfl, by rw [HS.out]; simp, HX6⟩
                case measure => simp [intOf]
              · rw [hb] at ht HS
                clear hb
                go_wp2_with fail
                go_at_call 12
                refine (HAl.out _ _ HX6.out).mono ?_
                rintro e wq ⟨rfl, HX7⟩
                clear HX6
                generalize alB f 2 who = ob at *
                cases eb
                · go_wp2
                  go_roundw
                  case rel => exact ⟨k + 1, by omega, by rw [hk6]; rfl, by rw [HS.out]; rfl, HX7⟩
                  case measure => simp [intOf]
                · go_wp2
                  go_roundw
                  case rel => exact ⟨k + 1, by omega, by rw [hk6]; rfl, by rw [HS.out]; simp, HX7⟩
                  case measure => simp [intOf]
            · have e2 : ((2 ^ k : Nat) : Int) = 4 := by rw [hk6]; rfl
              rw [e2]
              have HS : Hid (eachB f p who (k + 1) = (eachB f p who k && (!p.testBit 2 || alB f 4 who))) := by
                show _ = _
                rw [eachB_step, hk6]
                rfl
              have ht := and_test ⟨p, hp32⟩ ⟨2, by omega⟩
              replace ht : (bits .and .i8 (p : Int) 4 != 0) = p.testBit 2 := ht
              generalize eachB f p who k = eb at *
              cases hb : p.testBit 2
              · rw [hb] at ht HS
                clear hb
                go_wp2
                go_roundw
                case rel => exact ⟨k + 1, by omega, by rw [hk6]; rfl, by rw [HS.out]; simp, HX6⟩
                case measure => simp [intOf]
              · rw [hb] at ht HS
                clear hb
                go_wp2_with fail
                go_at_call 12
                refine (HAl.out _ _ HX6.out).mono ?_
                rintro e wq ⟨rfl, HX7⟩
                clear HX6
                generalize alB f 4 who = ob at *
                cases eb
                · go_wp2
                  go_roundw
                  case rel => exact ⟨k + 1, by omega, by rw [hk6]; rfl, by rw [HS.out]; rfl, HX7⟩
                  case measure => simp [intOf]
                · go_wp2
                  go_roundw
                  case rel => exact ⟨k + 1, by omega, by rw [hk6]; rfl, by rw [HS.out]; simp, HX7⟩
                  case measure => simp [intOf]
            · have e2 : ((2 ^ k : Nat) : Int) = 8 := by rw [hk6]; rfl
              rw [e2]
              have HS : Hid (eachB f p who (k + 1) = (eachB f p who k && (!p.testBit 3 || alB f 8 who))) := by
                show _ = _
                rw [eachB_step, hk6]
                rfl
              have ht := and_test ⟨p, hp32⟩ ⟨3, by omega⟩
              replace ht : (bits .and .i8 (p : Int) 8 != 0) = p.testBit 3 := ht
              generalize eachB f p who k = eb at *
              cases hb : p.testBit 3
              · rw [hb] at ht HS
                clear hb
                go_wp2
                go_roundw
                case rel => exact ⟨k + 1, by omega, by rw [hk6]; rfl, by rw [HS.out]; simp, HX6⟩
                case measure => simp [intOf]
              · rw [hb] at ht HS
                clear hb
                go_wp2_with fail
                go_at_call 12
                refine (HAl.out _ _ HX6.out).mono ?_
                rintro e wq ⟨rfl, HX7⟩
                clear HX6
                generalize alB f 8 who = ob at *
                cases eb
                · go_wp2
                  go_roundw
                  case rel => exact ⟨k + 1, by omega, by rw [hk6]; rfl, by rw [HS.out]; rfl, HX7⟩
                  case measure => simp [intOf]
                · go_wp2
                  go_roundw
                  case rel => exact ⟨k + 1, by omega, by rw [hk6]; rfl, by rw [HS.out]; simp, HX7⟩
                  case measure => simp [intOf]
            · have e2 : ((2 ^ k : Nat) : Int) = 16 := by rw [hk6]; rfl
              rw [e2]
              have HS : Hid (eachB f p who (k + 1) = (eachB f p who k && (!p.testBit 4 || alB f 16 who))) := by
                show _ = _
                rw [eachB_step, hk6]
                rfl
              have ht := and_test ⟨p, hp32⟩ ⟨4, by omega⟩
              replace ht : (bits .and .i8 (p : Int) 16 != 0) = p.testBit 4 := ht
              generalize eachB f p who k = eb at *
              cases hb : p.testBit 4
              · rw [hb] at ht HS
                clear hb
                go_wp2
                go_roundw
                case rel => exact ⟨k + 1, by omega, by rw [hk6]; rfl, by rw [HS.out]; simp, HX6⟩
                case measure => simp [intOf]
              · rw [hb] at ht HS
                clear hb
                go_wp2_with fail
                go_at_call 12
                refine (HAl.out _ _ HX6.out).mono ?_
                rintro e wq ⟨rfl, HX7⟩
                clear HX6
                generalize alB f 16 who = ob at *
                cases eb
                · go_wp2
                  go_roundw
                  case rel => exact ⟨k + 1, by omega, by rw [hk6]; rfl, by rw [HS.out]; rfl, HX7⟩
                  case measure => simp [intOf]
                · go_wp2
                  go_roundw
                  case rel => exact ⟨k + 1, by omega, by rw [hk6]; rfl, by rw [HS.out]; simp, HX7⟩
                  case measure => simp [intOf]
            · have e2 : ((2 ^ k : Nat) : Int) = 32 := by rw [hk6]; rfl
              rw [e2, hk6, ← HAp.out]
              have hAA : (A != A) = false := by simp
              cases A
              · go_wp2
                go_roundw
                case rel => exact ⟨p + 1, by omega, by go_num, HX6⟩
                case measure => simp [intOf]; omega
              · have HAi2 : Hid (lg = true → alB f (p : Int) (who ++ [o]) = true) := fun h => al_ids HFF.out hp32 HA.out.symm (by rw [← HLG.out]; exact h)
                have HAw2 : Hid (alB (f ++ [m]) (p : Int) who = true) := al_more HFF.out hp32 HA.out.symm hau HWB.out
                cases lg
                · go_wp2_with fail
                  go_at_call 12
                  refine (HAw.out _ _ HX6.out).mono ?_
                  rintro e wz ⟨rfl, HX9⟩
                  rw [HAw2.out]
                  clear HX6
                  go_wp2
                  go_roundw
                  case rel => exact ⟨p + 1, by omega, by go_num, HX9⟩
                  case measure => simp [intOf]; omega
                · have HI3 : Hid (alB f (p : Int) (who ++ [o]) = true) := HAi2.out rfl
                  go_wp2_with fail
                  go_at_call 12
                  refine (HAi.out _ _ HX6.out).mono ?_
                  rintro e wy ⟨rfl, HX8⟩
                  rw [HI3.out]
                  clear HX6 HI3 HAi2
                  go_wp2_with fail
                  go_at_call 12
                  refine (HAw.out _ _ HX8.out).mono ?_
                  rintro e wz ⟨rfl, HX9⟩
                  rw [HAw2.out]
                  clear HX8
                  go_wp2
                  go_roundw
                  case rel => exact ⟨p + 1, by omega, by go_num, HX9⟩
                  case measure => simp [intOf]; omega
        · have d2 : decide ((p : Int) < 32) = false := by simp; omega
          obtain ⟨ha1, ha2⟩ := al_out f who
          go_wp2_with fail
          go_at_call 12
          refine (HAl.out _ _ HX4.out).mono ?_
          rintro e wp ⟨rfl, HX5⟩
          rw [ha1]
          go_wp2_with fail
          go_at_call 12
          refine (HAl.out _ _ HX5.out).mono ?_
          rintro e wq ⟨rfl, HX6⟩
          rw [ha2]
          go_wp2
          go_ret
          exact ⟨rfl, HEnd.out _ HX6.out⟩

end Go.Proofs.YtapnaknbidmnmaaDoor
