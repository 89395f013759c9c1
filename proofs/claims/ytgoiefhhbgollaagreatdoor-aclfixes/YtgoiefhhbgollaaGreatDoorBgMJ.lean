/- The walk of AclFixes: every list of entries, every client's ids. -/
import Derived.Test.YtgoiefhhbgollaaGreatDoorBgLJ
namespace Go.Proofs.YtgoiefhhbgollaaGreatDoor
open Go.RowKit Go.Shelf
set_option maxRecDepth 8000


set_option maxHeartbeats 4000000 in
theorem fixes_walk (l : List EnT) (who : List IdT) (la wa : Option Addr) (lc wc : Nat) (w : World) (hl : SE w (.slice la l.length lc) l) (hw : SI w (.slice wa who.length wc) who) (n1 : l.length ≤ 2 ^ 62) (n3 : who.length ≤ 2 ^ 62) (ht : Tab w) (hg0 : 0 < w.heap.size) :
    Calls Tryz.prog 3 #[.slice la l.length lc, .slice wa who.length wc] w fun e w' => e = .returned (.bool true) ∧ Below w.heap.size w w' := by
  have HLg : Hid (Calls Tryz.prog 4 #[.slice la l.length lc, .slice wa who.length wc] w fun e w' => ∃ r, e = .returned (.bool r) ∧ Hid ((r = false → bulkE l + bulkI who ≤ 1073741823) ∧ Below w.heap.size w w')) :=
    (long6_any _ _ l who w hl hw n1 n3).mono (fun e w' hh => by
      obtain ⟨r, rfl, hr, k, rfl⟩ := hh
      exact ⟨r, rfl, hr, below_drewN (Below.refl _ _) _⟩)
  have HA : Hid (SE w (.slice la l.length lc) l ∧ SI w (.slice wa who.length wc) who ∧ Tab w ∧ 0 < w.heap.size) := ⟨hl, hw, ht, hg0⟩
  have HL1 : Hid (∀ V, Below w.heap.size w V → SE V (.slice la l.length lc) l ∧ SI V (.slice wa who.length wc) who ∧ Tab V ∧ 0 < V.heap.size) := fun V hB => ⟨hl.below hB, hw.below hB, ht.below hB hg0, Nat.lt_of_lt_of_le hg0 hB.size⟩
  obtain ⟨ce, hce⟩ : ∃ ce : Int, ce = if (fixA l who).isSome = true then (0 : Int) else 60 := ⟨_, rfl⟩
  obtain ⟨co, hco⟩ : ∃ co : Int, co = if (fixA [] who).isSome = true then (0 : Int) else 60 := ⟨_, rfl⟩
  have HCE : Hid (ce = if (fixA l who).isSome = true then (0 : Int) else 60) := hce
  have HCO : Hid (co = if (fixA [] who).isSome = true then (0 : Int) else 60) := hco
  have hee : (ce != ce) = false := by simp
  have hoo : (co != co) = false := by simp
  clear hl hw ht hg0 n1 n3 hce hco
  go_enter Tryz.func3, Tryz.ntmps3
  go_wp2_with fail
  go_at_call 4
  refine HLg.out.mono ?_
  rintro e w1 ⟨r, rfl, H1⟩
  clear HLg
  cases r
  rotate_left
  · go_wp2
    go_ret
    exact ⟨rfl, H1.out.2⟩
  have hbk := H1.out.1 rfl
  have HZ1 : Hid (∀ x ∈ l, x.2.2.size ≤ 4294967296) := fun x hx => by
    have := bulkI_mem (List.mem_map_of_mem (f := Prod.snd) hx)
    unfold bulkE at hbk
    omega
  have HZ2 : Hid (∀ x ∈ who, x.2.size ≤ 4294967296) := fun x hx => by
    have := bulkI_mem hx; omega
  have hn1 : l.length ≤ 1073741823 := by
    have := bulkI_len (l.map Prod.snd)
    rw [List.length_map] at this
    unfold bulkE at hbk
    omega
  have hn3 : who.length ≤ 1073741823 := by have := bulkI_len who; omega
  have HB1 : Hid (Below w.heap.size w w1) := H1.out.2
  clear hbk H1
  go_wp2_with fail
  go_at_call 5
  refine (lives6_yes _).mono ?_
  rintro e w2 ⟨rfl, hB⟩
  have HB2 : Hid (Below w.heap.size w w2) := HB1.out.trans (hB.mono HB1.out.size)
  clear hB HB1
  go_wp2_with fail
  go_at_call 6
  refine (wideAcl_any _ l w2 (HL1.out w2 HB2.out).1 (by omega) (HL1.out w2 HB2.out).2.2.1 (HL1.out w2 HB2.out).2.2.2).mono ?_
  rintro e w3 ⟨rfl, hwd, hB⟩
  obtain ⟨g1, hg1⟩ : ∃ g1, g1 = w2.heap.size := ⟨_, rfl⟩
  rw [← hg1] at hwd ⊢
  have HB3 : Hid (Below w.heap.size w w3 ∧ WideE w3 g1 l ∧ w.heap.size ≤ g1 ∧ g1 < w3.heap.size) := ⟨HB2.out.trans (hB.mono HB2.out.size), hwd, by rw [hg1]; exact HB2.out.size, row_lt hwd.choose_spec.1 rfl⟩
  clear hwd hB HB2 hg1
  go_wp2_with fail
  go_at_call 7
  refine (wideIds_any _ who w3 (HL1.out w3 HB3.out.1).2.1 (by omega) (HL1.out w3 HB3.out.1).2.2.1 (HL1.out w3 HB3.out.1).2.2.2).mono ?_
  rintro e w4 ⟨rfl, hwd, hB⟩
  obtain ⟨g2, hg2⟩ : ∃ g2, g2 = w3.heap.size := ⟨_, rfl⟩
  rw [← hg2] at hwd ⊢
  have H4 : Hid (FK w l who g1 g2 [] w4) := ⟨HB3.out.1.trans (hB.mono HB3.out.1.size), HB3.out.2.1.below hB, hwd, row_lt hwd.choose_spec.1 rfl⟩
  have HG : Hid (w.heap.size ≤ g1 ∧ g1 < g2) := ⟨HB3.out.2.2.1, by rw [hg2]; exact HB3.out.2.2.2⟩
  clear hwd hB HB3 hg2
  go_wp2_with fail
  go_at_call 8
  refine (refFix_ans (.slice la l.length lc) (.slice wa who.length wc) l who w4 _ g2 ce HCE.out H4.out.2.2.2 (HL1.out w4 H4.out.1).1 (HL1.out w4 H4.out.1).2.1 HZ1.out HZ2.out).mono ?_
  rintro e w5 ⟨ta, tn, tc, rfl, hA, hB⟩
  have H5 : Hid (FK w l who g1 g2 _ w5) := H4.out.push hB hA
  clear hA hB H4
  go_wp2_with fail
  go_at_call 9
  refine (fix_ans (.slice (some ⟨g1, 0, none⟩) l.length (l.length + 64)) (.slice (some ⟨g2, 0, none⟩) who.length (who.length + 64)) l who w5 _ g2 ce HCE.out H5.out.2.2.2 H5.out.2.1.sees H5.out.2.2.1.sees HZ1.out HZ2.out).mono ?_
  rintro e w6 ⟨aa, an, ac, rfl, hA, hB⟩
  have H6 : Hid (FK w l who g1 g2 _ w6) := H5.out.push hB hA
  clear hA hB H5
  go_wp2_with fail
  go_at_call 9
  refine (fix_ans (.slice (some ⟨g1, 0, none⟩) l.length (l.length + 64)) (.slice (some ⟨g2, 0, none⟩) who.length (who.length + 64)) l who w6 _ g2 ce HCE.out H6.out.2.2.2 H6.out.2.1.sees H6.out.2.2.1.sees HZ1.out HZ2.out).mono ?_
  rintro e w7 ⟨ba, bn, bc, rfl, hA, hB⟩
  have H7 : Hid (FK w l who g1 g2 _ w7) := H6.out.push hB hA
  clear hA hB H6
  go_wp2_with fail
  go_at_call 9
  refine (fix_ans (.slice none 0 0) (.slice (some ⟨g2, 0, none⟩) who.length (who.length + 64)) [] who w7 _ g2 co HCO.out H7.out.2.2.2 (SE_none _) H7.out.2.2.1.sees (fun _ h => by cases h) HZ2.out).mono ?_
  rintro e w8 ⟨oa, on, oc, rfl, hA, hB⟩
  have H8 : Hid (FK w l who g1 g2 _ w8) := H7.out.push hB hA
  clear hA hB H7
  go_wp2_with fail
  go_at_call 9
  refine (fix_ans (.slice (some ⟨g1, 0, none⟩) l.length (l.length + 64)) (.slice (some ⟨g2, 0, none⟩) who.length (who.length + 64)) l who w8 _ g2 ce HCE.out H8.out.2.2.2 H8.out.2.1.sees H8.out.2.2.1.sees HZ1.out HZ2.out).mono ?_
  rintro e w9 ⟨ca, cn, cc, rfl, hA, hB⟩
  have H9 : Hid (FK w l who g1 g2 _ w9) := H8.out.push hB hA
  clear hA hB H8
  go_wp2_with fail
  go_at_call 8
  refine (refFix_ans (.slice none 0 0) (.slice wa who.length wc) [] who w9 _ g2 co HCO.out H9.out.2.2.2 (SE_none _) (HL1.out w9 H9.out.1).2.1 (fun _ h => by cases h) HZ2.out).mono ?_
  rintro e w10 ⟨pa, pn, pc, rfl, hA, hB⟩
  have H10 : Hid (FK w l who g1 g2 _ w10) := H9.out.push hB hA
  clear hA hB H9
  go_wp2_with fail
  go_at_call 10
  refine (eqAcl_fx (.slice aa an ac) (.slice ta tn tc) (fxV l who) w10 (H10.out.2.2.2.mem (by simp)) (H10.out.2.2.2.mem (by simp)) (by first | omega | (have := fxV_len l who; have := fxV_len [] who; omega))).mono ?_
  rintro e w11 ⟨rfl, hB⟩
  have H11 : Hid (FK w l who g1 g2 _ w11) := H10.out.below hB
  clear hB H10
  go_wp2_with fail
  go_at_call 10
  refine (eqAcl_fx (.slice ba bn bc) (.slice ta tn tc) (fxV l who) w11 (H11.out.2.2.2.mem (by simp)) (H11.out.2.2.2.mem (by simp)) (by first | omega | (have := fxV_len l who; have := fxV_len [] who; omega))).mono ?_
  rintro e w12 ⟨rfl, hB⟩
  have H12 : Hid (FK w l who g1 g2 _ w12) := H11.out.below hB
  clear hB H11
  go_wp2_with fail
  go_at_call 10
  refine (eqAcl_fx (.slice ca cn cc) (.slice ta tn tc) (fxV l who) w12 (H12.out.2.2.2.mem (by simp)) (H12.out.2.2.2.mem (by simp)) (by first | omega | (have := fxV_len l who; have := fxV_len [] who; omega))).mono ?_
  rintro e w13 ⟨rfl, hB⟩
  have H13 : Hid (FK w l who g1 g2 _ w13) := H12.out.below hB
  clear hB H12
  go_wp2_with fail
  go_at_call 10
  refine (eqAcl_fx (.slice oa on oc) (.slice pa pn pc) (fxV [] who) w13 (H13.out.2.2.2.mem (by simp)) (H13.out.2.2.2.mem (by simp)) (by first | omega | (have := fxV_len l who; have := fxV_len [] who; omega))).mono ?_
  rintro e w14 ⟨rfl, hB⟩
  have H14 : Hid (FK w l who g1 g2 _ w14) := H13.out.below hB
  clear hB H13
  go_wp2_with fail
  go_at_call 10
  refine (eqAcl_fx (.slice (some ⟨g1, 0, none⟩) l.length (l.length + 64)) (.slice la l.length lc) l w14 H14.out.2.1.sees (HL1.out w14 H14.out.1).1 (by first | omega | (have := fxV_len l who; have := fxV_len [] who; omega))).mono ?_
  rintro e w15 ⟨rfl, hB⟩
  have H15 : Hid (FK w l who g1 g2 _ w15) := H14.out.below hB
  clear hB H14
  go_wp2_with fail
  go_at_call 11
  refine (spareAcl_any g1 l w15 H15.out.2.1 (by omega) (HL1.out w15 H15.out.1).2.2.1 (HL1.out w15 H15.out.1).2.2.2).mono ?_
  rintro e w16 ⟨rfl, hB⟩
  have H16 : Hid (FK w l who g1 g2 _ w16) := H15.out.below hB
  clear hB H15
  go_wp2_with fail
  go_at_call 12
  refine (eqIds_fx _ _ who w16 H16.out.2.2.1.sees (HL1.out w16 H16.out.1).2.1 (by omega)).mono ?_
  rintro e w17 ⟨rfl, hB⟩
  have H17 : Hid (FK w l who g1 g2 _ w17) := H16.out.below hB
  clear hB H16
  go_wp2_with fail
  go_at_call 13
  refine (spareIds_any g2 who w17 H17.out.2.2.1 (by omega) (HL1.out w17 H17.out.1).2.2.1 (HL1.out w17 H17.out.1).2.2.2).mono ?_
  rintro e w18 ⟨rfl, hB⟩
  have H18 : Hid (FK w l who g1 g2 _ w18) := H17.out.below hB
  clear hB H17
  go_wp2
  go_loopw [20] (fun vi wr => ∃ i : Nat, i ≤ l.length ∧ vi = .int .i64 (i : Int) ∧ Hid (FL w l who g1 g2 [(.slice pa pn pc, fxV [] who), (.slice ca cn cc, fxV l who), (.slice oa on oc, fxV [] who), (.slice ba bn bc, fxV l who), (.slice aa an ac, fxV l who), (.slice ta tn tc, fxV l who)] i wr)) (fun vi _ => l.length - (intOf vi).toNat)
  case atStart => exact ⟨0, Nat.zero_le _, rfl, H18.out.1, .start H18.out.2.1, H18.out.2.2⟩
  case round =>
    obtain ⟨i, hil, rfl, HE⟩ := hrel
    clear H18
    by_cases hlt : i < l.length
    · have d0 : decide ((i : Int) < (l.length : Int)) = true := by simp; omega
      obtain ⟨hc0, hf0⟩ := HE.out.2.1.cell hlt
      have HN := HE.out.store HG.out.1 HG.out.2 hlt
      have HN2 : Hid (FL w l who g1 g2 [(.slice pa pn pc, fxV [] who), (.slice ca cn cc, fxV l who), (.slice oa on oc, fxV [] who), (.slice ba bn bc, fxV l who), (.slice aa an ac, fxV l who), (.slice ta tn tc, fxV l who)] (i + 1) (wr.setCell ⟨g1, i * 3, none⟩ (.int .i8 (xr l[i].1)))) := HN
      clear HN HE
      generalize l[i] = x at *
      go_wp2
      go_roundw
      case rel => exact ⟨i + 1, by omega, by go_num, HN2⟩
      case measure => simp [intOf]; omega
    · have d0 : decide ((i : Int) < (l.length : Int)) = false := by simp; omega
      obtain rfl : i = l.length := by omega
      obtain ⟨cd, hcd⟩ : ∃ cd : Int, cd = if (fixA (tl l) who).isSome = true then (0 : Int) else 60 := ⟨_, rfl⟩
      have HCD : Hid (cd = if (fixA (tl l) who).isSome = true then (0 : Int) else 60) := hcd
      have hdd : (cd != cd) = false := by simp
      clear hcd
      have htl : (tl l).length = l.length := by simp [tl]
      have HZ3 : Hid (∀ x ∈ tl l, x.2.2.size ≤ 4294967296) := fun x hx => by
        unfold tl at hx
        obtain ⟨y, hy, rfl⟩ := List.mem_map.1 hx
        exact HZ1.out y hy
      go_wp2_with fail
      go_at_call 14
      refine (copyAcl_long _ (tl l) wr HE.out.2.1.sees (by omega)).mono ?_
      rintro e v1 ⟨ua, un, uc, rfl, hS, hB⟩
      have K1 : Hid (FL w l who g1 g2 [(.slice pa pn pc, fxV [] who), (.slice ca cn cc, fxV l who), (.slice oa on oc, fxV [] who), (.slice ba bn bc, fxV l who), (.slice aa an ac, fxV l who), (.slice ta tn tc, fxV l who)] l.length v1 ∧ SE v1 (.slice ua un uc) (tl l)) := ⟨HE.out.below hB, hS⟩
      clear hS hB HE
      go_wp2_with fail
      go_at_call 9
      refine (fix_ans (.slice (some ⟨g1, 0, none⟩) l.length (l.length + 64)) (.slice (some ⟨g2, 0, none⟩) who.length (who.length + 64)) (tl l) who v1 _ g2 cd HCD.out K1.out.1.2.2.2 K1.out.1.2.1.sees K1.out.1.2.2.1.sees HZ3.out HZ2.out).mono ?_
      rintro e v2 ⟨da, dn, dc, rfl, hA, hB⟩
      have K2 : Hid (FL w l who g1 g2 ((.slice da dn dc, fxV (tl l) who) :: [(.slice pa pn pc, fxV [] who), (.slice ca cn cc, fxV l who), (.slice oa on oc, fxV [] who), (.slice ba bn bc, fxV l who), (.slice aa an ac, fxV l who), (.slice ta tn tc, fxV l who)]) l.length v2 ∧ SE v2 (.slice ua un uc) (tl l)) := ⟨K1.out.1.push hB hA, K1.out.2.below hB⟩
      clear hA hB K1
      go_wp2_with fail
      go_at_call 8
      refine (refFix_ans (.slice ua un uc) (.slice wa who.length wc) (tl l) who v2 _ g2 cd HCD.out K2.out.1.2.2.2 K2.out.2 (HL1.out v2 K2.out.1.1).2.1 HZ3.out HZ2.out).mono ?_
      rintro e v3 ⟨qa, qn, qc, rfl, hA, hB⟩
      have K3 : Hid (FL w l who g1 g2 ((.slice qa qn qc, fxV (tl l) who) :: (.slice da dn dc, fxV (tl l) who) :: [(.slice pa pn pc, fxV [] who), (.slice ca cn cc, fxV l who), (.slice oa on oc, fxV [] who), (.slice ba bn bc, fxV l who), (.slice aa an ac, fxV l who), (.slice ta tn tc, fxV l who)]) l.length v3 ∧ SE v3 (.slice ua un uc) (tl l)) := ⟨K2.out.1.push hB hA, K2.out.2.below hB⟩
      clear hA hB K2
      go_wp2_with fail
      go_at_call 10
      refine (eqAcl_fx (.slice da dn dc) (.slice qa qn qc) (fxV (tl l) who) v3 (K3.out.1.2.2.2.mem (by simp)) (K3.out.1.2.2.2.mem (by simp)) (by have := fxV_len (tl l) who; omega)).mono ?_
      rintro e v4 ⟨rfl, hB⟩
      have K4 : Hid (FL w l who g1 g2 ((.slice qa qn qc, fxV (tl l) who) :: (.slice da dn dc, fxV (tl l) who) :: [(.slice pa pn pc, fxV [] who), (.slice ca cn cc, fxV l who), (.slice oa on oc, fxV [] who), (.slice ba bn bc, fxV l who), (.slice aa an ac, fxV l who), (.slice ta tn tc, fxV l who)]) l.length v4 ∧ SE v4 (.slice ua un uc) (tl l)) := ⟨K3.out.1.below hB, K3.out.2.below hB⟩
      clear hB K3
      go_wp2_with fail
      go_at_call 10
      refine (eqAcl_fx (.slice (some ⟨g1, 0, none⟩) l.length (l.length + 64)) (.slice ua un uc) (tl l) v4 K4.out.1.2.1.sees K4.out.2 (by omega)).mono ?_
      rintro e v5 ⟨rfl, hB⟩
      have K5 : Hid (FL w l who g1 g2 ((.slice qa qn qc, fxV (tl l) who) :: (.slice da dn dc, fxV (tl l) who) :: [(.slice pa pn pc, fxV [] who), (.slice ca cn cc, fxV l who), (.slice oa on oc, fxV [] who), (.slice ba bn bc, fxV l who), (.slice aa an ac, fxV l who), (.slice ta tn tc, fxV l who)]) l.length v5) := K4.out.1.below hB
      clear hB K4
      go_wp2_with fail
      have L0 : Hid (FL w l who g1 g2 ((.slice qa qn qc, fxV (tl l) who) :: (.slice da dn dc, fxV (tl l) who) :: [(.slice pa pn pc, fxV [] who), (.slice ca cn cc, fxV l who), (.slice oa on oc, fxV [] who), (.slice ba bn bc, fxV l who), (.slice aa an ac, fxV l who), (.slice ta tn tc, fxV l who)]) l.length (v5.alloc (.cells (bagIA nilB nilB) 63)) ∧ BagIA (v5.alloc (.cells (bagIA nilB nilB) 63)) v5.heap.size nilB nilB [] [] w.heap.size ∧ w.heap.size ≤ v5.heap.size) :=
        ⟨K5.out.below ((Below.refl _ _).alloc (Nat.le_refl _) _), ⟨heap_alloc_new _ _, World.ownsRow_nil _ _ _ _, World.ownsRow_nil _ _ _ _⟩, K5.out.1.size⟩
      clear K5
      go_at_call 15
      refine (addAcl_any v5.heap.size nilB nilB [] [] w.heap.size aa an ac (v5.alloc (.cells (bagIA nilB nilB) 63)) L0.out.2.1 (by simp) L0.out.1.1.size).mono ?_
      rintro e x1 ⟨rfl, av1, hBg, hk, _⟩
      have L1 : Hid (FL w l who g1 g2 ((.slice qa qn qc, fxV (tl l) who) :: (.slice da dn dc, fxV (tl l) who) :: [(.slice pa pn pc, fxV [] who), (.slice ca cn cc, fxV l who), (.slice oa on oc, fxV [] who), (.slice ba bn bc, fxV l who), (.slice aa an ac, fxV l who), (.slice ta tn tc, fxV l who)]) l.length x1 ∧ BagIA x1 v5.heap.size nilB av1 [] ([] ++ [.slice aa an ac]) w.heap.size ∧ w.heap.size ≤ v5.heap.size) := ⟨L0.out.1.kept hk (bag_S L0.out.2.1 L0.out.2.2), hBg, L0.out.2.2⟩
      clear hBg hk L0
      go_wp2_with fail
      go_at_call 15
      refine (addAcl_any v5.heap.size nilB av1 [] ([] ++ [.slice aa an ac]) w.heap.size ba bn bc x1 L1.out.2.1 (by simp) L1.out.1.1.size).mono ?_
      rintro e x2 ⟨rfl, av2, hBg, hk, _⟩
      have L2 : Hid (FL w l who g1 g2 ((.slice qa qn qc, fxV (tl l) who) :: (.slice da dn dc, fxV (tl l) who) :: [(.slice pa pn pc, fxV [] who), (.slice ca cn cc, fxV l who), (.slice oa on oc, fxV [] who), (.slice ba bn bc, fxV l who), (.slice aa an ac, fxV l who), (.slice ta tn tc, fxV l who)]) l.length x2 ∧ BagIA x2 v5.heap.size nilB av2 [] (([] ++ [.slice aa an ac]) ++ [.slice ba bn bc]) w.heap.size ∧ w.heap.size ≤ v5.heap.size) := ⟨L1.out.1.kept hk (bag_S L1.out.2.1 L1.out.2.2), hBg, L1.out.2.2⟩
      clear hBg hk L1
      go_wp2_with fail
      go_at_call 15
      refine (addAcl_any v5.heap.size nilB av2 [] (([] ++ [.slice aa an ac]) ++ [.slice ba bn bc]) w.heap.size ca cn cc x2 L2.out.2.1 (by simp) L2.out.1.1.size).mono ?_
      rintro e x3 ⟨rfl, av3, hBg, hk, _⟩
      have L3 : Hid (FL w l who g1 g2 ((.slice qa qn qc, fxV (tl l) who) :: (.slice da dn dc, fxV (tl l) who) :: [(.slice pa pn pc, fxV [] who), (.slice ca cn cc, fxV l who), (.slice oa on oc, fxV [] who), (.slice ba bn bc, fxV l who), (.slice aa an ac, fxV l who), (.slice ta tn tc, fxV l who)]) l.length x3 ∧ BagIA x3 v5.heap.size nilB av3 [] ((([] ++ [.slice aa an ac]) ++ [.slice ba bn bc]) ++ [.slice ca cn cc]) w.heap.size ∧ w.heap.size ≤ v5.heap.size) := ⟨L2.out.1.kept hk (bag_S L2.out.2.1 L2.out.2.2), hBg, L2.out.2.2⟩
      clear hBg hk L2
      go_wp2_with fail
      go_at_call 15
      refine (addAcl_any v5.heap.size nilB av3 [] ((([] ++ [.slice aa an ac]) ++ [.slice ba bn bc]) ++ [.slice ca cn cc]) w.heap.size da dn dc x3 L3.out.2.1 (by simp) L3.out.1.1.size).mono ?_
      rintro e x4 ⟨rfl, av4, hBg, hk, _⟩
      have L4 : Hid (FL w l who g1 g2 ((.slice qa qn qc, fxV (tl l) who) :: (.slice da dn dc, fxV (tl l) who) :: [(.slice pa pn pc, fxV [] who), (.slice ca cn cc, fxV l who), (.slice oa on oc, fxV [] who), (.slice ba bn bc, fxV l who), (.slice aa an ac, fxV l who), (.slice ta tn tc, fxV l who)]) l.length x4 ∧ BagIA x4 v5.heap.size nilB av4 [] (((([] ++ [.slice aa an ac]) ++ [.slice ba bn bc]) ++ [.slice ca cn cc]) ++ [.slice da dn dc]) w.heap.size ∧ w.heap.size ≤ v5.heap.size) := ⟨L3.out.1.kept hk (bag_S L3.out.2.1 L3.out.2.2), hBg, L3.out.2.2⟩
      clear hBg hk L3
      go_wp2_with fail
      go_at_call 15
      refine (addAcl_any v5.heap.size nilB av4 [] (((([] ++ [.slice aa an ac]) ++ [.slice ba bn bc]) ++ [.slice ca cn cc]) ++ [.slice da dn dc]) w.heap.size oa on oc x4 L4.out.2.1 (by simp) L4.out.1.1.size).mono ?_
      rintro e x5 ⟨rfl, av5, hBg, hk, _⟩
      have L5 : Hid (FL w l who g1 g2 ((.slice qa qn qc, fxV (tl l) who) :: (.slice da dn dc, fxV (tl l) who) :: [(.slice pa pn pc, fxV [] who), (.slice ca cn cc, fxV l who), (.slice oa on oc, fxV [] who), (.slice ba bn bc, fxV l who), (.slice aa an ac, fxV l who), (.slice ta tn tc, fxV l who)]) l.length x5 ∧ BagIA x5 v5.heap.size nilB av5 [] ((((([] ++ [.slice aa an ac]) ++ [.slice ba bn bc]) ++ [.slice ca cn cc]) ++ [.slice da dn dc]) ++ [.slice oa on oc]) w.heap.size ∧ w.heap.size ≤ v5.heap.size) := ⟨L4.out.1.kept hk (bag_S L4.out.2.1 L4.out.2.2), hBg, L4.out.2.2⟩
      clear hBg hk L4
      go_wp2_with fail
      go_at_call 15
      refine (addAcl_any v5.heap.size nilB av5 [] ((((([] ++ [.slice aa an ac]) ++ [.slice ba bn bc]) ++ [.slice ca cn cc]) ++ [.slice da dn dc]) ++ [.slice oa on oc]) w.heap.size (some ⟨g1, 0, none⟩) l.length (l.length + 64) x5 L5.out.2.1 (by simp) L5.out.1.1.size).mono ?_
      rintro e x6 ⟨rfl, av6, hBg, hk, _⟩
      have L6 : Hid (FL w l who g1 g2 ((.slice qa qn qc, fxV (tl l) who) :: (.slice da dn dc, fxV (tl l) who) :: [(.slice pa pn pc, fxV [] who), (.slice ca cn cc, fxV l who), (.slice oa on oc, fxV [] who), (.slice ba bn bc, fxV l who), (.slice aa an ac, fxV l who), (.slice ta tn tc, fxV l who)]) l.length x6 ∧ BagIA x6 v5.heap.size nilB av6 [] (((((([] ++ [.slice aa an ac]) ++ [.slice ba bn bc]) ++ [.slice ca cn cc]) ++ [.slice da dn dc]) ++ [.slice oa on oc]) ++ [.slice (some ⟨g1, 0, none⟩) l.length (l.length + 64)]) w.heap.size ∧ w.heap.size ≤ v5.heap.size) := ⟨L5.out.1.kept hk (bag_S L5.out.2.1 L5.out.2.2), hBg, L5.out.2.2⟩
      clear hBg hk L5
      go_wp2_with fail
      go_at_call 16
      refine (addIds_any v5.heap.size nilB av6 [] (((((([] ++ [.slice aa an ac]) ++ [.slice ba bn bc]) ++ [.slice ca cn cc]) ++ [.slice da dn dc]) ++ [.slice oa on oc]) ++ [.slice (some ⟨g1, 0, none⟩) l.length (l.length + 64)]) w.heap.size (some ⟨g2, 0, none⟩) who.length (who.length + 64) x6 L6.out.2.1 (by simp) L6.out.1.1.size).mono ?_
      rintro e x7 ⟨rfl, iv7, hBg, hk, _⟩
      have L7 : Hid (FL w l who g1 g2 ((.slice qa qn qc, fxV (tl l) who) :: (.slice da dn dc, fxV (tl l) who) :: [(.slice pa pn pc, fxV [] who), (.slice ca cn cc, fxV l who), (.slice oa on oc, fxV [] who), (.slice ba bn bc, fxV l who), (.slice aa an ac, fxV l who), (.slice ta tn tc, fxV l who)]) l.length x7 ∧ BagIA x7 v5.heap.size iv7 av6 ([] ++ [.slice (some ⟨g2, 0, none⟩) who.length (who.length + 64)]) (((((([] ++ [.slice aa an ac]) ++ [.slice ba bn bc]) ++ [.slice ca cn cc]) ++ [.slice da dn dc]) ++ [.slice oa on oc]) ++ [.slice (some ⟨g1, 0, none⟩) l.length (l.length + 64)]) w.heap.size ∧ w.heap.size ≤ v5.heap.size) := ⟨L6.out.1.kept hk (bag_Si L6.out.2.1 L6.out.2.2), hBg, L6.out.2.2⟩
      clear hBg hk L6
      have HX := fixes_rows HG.out.2 L7.out.1
      obtain ⟨⟨Xq, hXq⟩, haq, hgq⟩ := HX
      obtain ⟨xi, hxi⟩ := L7.out.1.2.2.1.row
      have hgi : ∀ k, BlkR [⟨(.slice (some ⟨g2, 0, none⟩) who.length (who.length + 64)), who.length⟩] k → k = g2 := fun k hk => by
        obtain ⟨j, hj, e⟩ := hk
        obtain rfl : j = 0 := by simp at hj; exact hj
        simp [Value.ownBlock] at e
        exact e.symm
      have htb := HL1.out x7 L7.out.1.1
      have htw := HA.out.2.2.2
      have HBB := bagApart_ia v5.heap.size w.heap.size iv7 av6 [⟨(.slice (some ⟨g2, 0, none⟩) who.length (who.length + 64)), who.length⟩] [⟨.slice aa an ac, (fxV l who).length⟩, ⟨.slice ba bn bc, (fxV l who).length⟩, ⟨.slice ca cn cc, (fxV l who).length⟩, ⟨.slice da dn dc, (fxV (tl l) who).length⟩, ⟨.slice oa on oc, (fxV [] who).length⟩, ⟨(.slice (some ⟨g1, 0, none⟩) l.length (l.length + 64)), l.length⟩] (fun _ => xi) Xq x7 L7.out.2.1
        (fun j hj => by
          obtain rfl : j = 0 := by simp at hj; exact hj
          exact row_zero hxi) hXq
        (fun i j hi hj hne => by simp at hi hj; omega) haq (by simp) (by simp)
        (fun j hj => by
          obtain rfl : j = 0 := by simp at hj; exact hj
          show who.length ≤ 1100000000
          omega)
        (fun j hj => by
          have z1 := fxV_len l who
          have z2 := fxV_len [] who
          have z3 := fxV_len (tl l) who
          have hj0 : j = 0 ∨ j = 1 ∨ j = 2 ∨ j = 3 ∨ j = 4 ∨ j = 5 := by simp at hj; omega
          rcases hj0 with rfl | rfl | rfl | rfl | rfl | rfl
          · show (fxV l who).length ≤ _; omega
          · show (fxV l who).length ≤ _; omega
          · show (fxV l who).length ≤ _; omega
          · show (fxV (tl l) who).length ≤ _; omega
          · show (fxV [] who).length ≤ _; omega
          · show l.length ≤ _; omega)
        htb.2.2.1 htb.2.2.2 (fun hb => by have := hgi _ hb; have := HG.out; omega) (fun hb => by have := hgq _ hb; have := HG.out; omega)
      have HF : Hid (∀ V, Kept x7 V (fun k => BlkR [⟨(.slice (some ⟨g2, 0, none⟩) who.length (who.length + 64)), who.length⟩] k ∨ BlkR [⟨.slice aa an ac, (fxV l who).length⟩, ⟨.slice ba bn bc, (fxV l who).length⟩, ⟨.slice ca cn cc, (fxV l who).length⟩, ⟨.slice da dn dc, (fxV (tl l) who).length⟩, ⟨.slice oa on oc, (fxV [] who).length⟩, ⟨(.slice (some ⟨g1, 0, none⟩) l.length (l.length + 64)), l.length⟩] k) → Below w.heap.size w V) := fun V hk =>
        L7.out.1.1.trans ⟨hk.os, hk.tape, hk.output, hk.size, fun k hkB => hk.block k (Nat.lt_of_lt_of_le hkB L7.out.1.1.size) (fun hs => by
          rcases hs with hs | hs
          · have := hgi k hs; have := HG.out; omega
          · have := hgq k hs; have := HG.out; omega)⟩
      clear hXq haq hgq hxi hgi htb htw L7
      go_wp2_with fail
      go_at_call 17
      refine HBB.mono ?_
      rintro e x8 ⟨rfl, hk⟩
      have HE := HF.out x8 hk
      clear hk HF HBB
      go_wp2
      go_ret
      exact ⟨rfl, HE⟩

end Go.Proofs.YtgoiefhhbgollaaGreatDoor
