/- The document's clock: Add. -/
import Derived.Test.YtmniefmjdfdedaaGreatDoorSgB
namespace Go.Proofs.YtmniefmjdfdedaaGreatDoor
open Go.RowKit Go.Shelf
set_option maxRecDepth 8000
set_option linter.unusedSimpArgs false

set_option maxHeartbeats 4000000 in
theorem refAdd_new {w : World} {d : Nat} {sv bv : Value} {now span : Int} {dl : List DcT} (h : Dc w d sv bv now span dl) (id tm : Int) (hup : dl.Pairwise (fun a b => a.1 < b.1)) (hl : dl.length ≤ 900) (h1 : 1 ≤ id) (h5 : 1 ≤ tm) (h6 : tm ≤ 1000) (hy : id ∉ idD dl) (h64 : dl.length < 64) :
    Calls Tryz.prog 13 #[.pointer (some ⟨d, 0, none⟩), .int .i64 id, .int .i32 tm] w fun e w' => e = .returned (.int .i64 0) ∧ DcTo w w' d sv bv now span (insD (remD dl id) (id, tm, now)) := by
  have HA := refAt h id (by omega)
  have c2 := h.c2
  have hz := lt_of_block h.row
  have H : Hid (Dc w d sv bv now span dl) := h
  obtain ⟨sa, sc, hsv⟩ := h.sv
  rw [hsv] at c2
  have HS : Hid (sv = .slice sa dl.length sc) := hsv
  have n1 : ¬ id < 1 := by omega
  have n2 : ¬ tm < 1 := by omega
  have n3 : ¬ 1000 < tm := by omega
  obtain ⟨dl1, hdl1⟩ : ∃ dl1, dl1 = remD dl id := ⟨_, rfl⟩
  have HDl : Hid (dl1 = remD dl id) := hdl1
  have hl1 : dl1.length ≤ 900 := by rw [hdl1]; exact Nat.le_trans (List.length_filter_le _ _) hl
  rw [← hdl1]
  clear h hsv hdl1
  have HK : Hid (∀ k, AtD dl id k → k = -1) := fun k hk => by
    rcases hk with ⟨e, _⟩ | ⟨a, y, b, rfl, _, e⟩
    · exact e
    · exact absurd (List.mem_map.2 ⟨y, by simp, e⟩) hy
  have hd : decide ((64 : Int) ≤ (dl.length : Int)) = false := by simp; omega
  have HRm : Hid (remD dl id = dl) := remD_none hy
  clear hy hup
  go_enter Tryz.func13, Tryz.ntmps13
  go_wp2_with fail
  refine Calls.mono HA ?_
  rintro e w1 ⟨k, rfl, hk, hw1⟩
  rw [hw1]
  have hk1 := HK.out k hk
  subst hk1
  clear hk hw1 HA HK
  obtain ⟨W1, sv1, bv1, hW1, HD1⟩ : ∃ (W1 : World) (sv1 bv1 : Value), W1 = w ∧ Hid (Dc W1 d sv1 bv1 now span dl1 ∧ Kept w W1 (FtD d sv bv) ∧ (∀ k, FtD d sv1 bv1 k → FtD d sv bv k ∨ w.heap.size ≤ k)) := ⟨w, sv, bv, rfl, by rw [HDl.out, HRm.out]; exact H.out, Kept.refl _ _, fun _ e => .inl e⟩
  go_upto_region 8 with fail
  rw [← hW1]
  clear hW1 H HS HRm HDl c2 hz hd
  have hz := lt_of_block HD1.out.1.row
  have C2 : Hid (∀ wr, Below W1.heap.size W1 wr → Dc wr d sv1 bv1 now span dl1) := fun wr hb => HD1.out.1.kept (Below.kept hb) (fun k hk => by have := HD1.out.1.lt hk; omega)
  obtain ⟨sa, sc, hsv⟩ := HD1.out.1.sv
  obtain ⟨ba, bc, hbv⟩ := HD1.out.1.bv
  have HSv : Hid (sv1 = .slice sa dl1.length sc) := hsv
  have HBv : Hid (bv1 = .slice ba dl1.length bc) := hbv
  clear hsv hbv
  go_wp2
  go_loopw [8, 9, 10, 11] (fun vs vb vf vi wr => ∃ i : Nat, i ≤ dl1.length ∧ vf = .bool (abvD (dl1.take i) id) ∧ vi = .int .i64 (i : Int) ∧ Hid (Tw W1 wr vs vb (accD dl1 (id, tm, now) i))) (fun _ _ _ vi _ => 1000 - (intOf vi).toNat)
  case atStart => exact ⟨0, by omega, by simp [abvD], rfl, by rw [show accD dl1 (id, tm, now) 0 = [] by simp [accD, abvD]]; exact Tw.start (Below.refl _ _)⟩
  case round =>
    obtain ⟨i, hi, rfl, rfl, HT⟩ := hrel
    have HC : Hid _ := C2.out wr HT.out.kp
    have c2 := HC.out.c2
    have hz : d < wr.heap.size := lt_of_block HC.out.row
    rw [HSv.out] at c2
    obtain ⟨xa, xn, xc, rfl⟩ : ∃ a n c, u8 = .slice a n c := by
      obtain ⟨a, c, e⟩ := rowS HT.out.so
      exact ⟨a, _, c, e⟩
    obtain ⟨ya, yn, yc, rfl⟩ : ∃ a n c, u9 = .slice a n c := by
      obtain ⟨a, c, e⟩ := rowS HT.out.bo
      exact ⟨a, _, c, e⟩
    by_cases hlt : i < dl1.length
    · have hd : decide ((i : Int) < (dl1.length : Int)) = true := by simp; omega
      obtain ⟨y, hy⟩ : ∃ y, dl1[i]? = some y := ⟨_, List.getElem?_eq_getElem hlt⟩
      obtain ⟨g, cap, e, hcap, k1, k2⟩ := HC.out.at hy
      rw [HSv.out] at e
      simp only [Value.slice.injEq, true_and] at e
      obtain ⟨rfl, rfl⟩ := e
      have hte := accD_step (x := (id, tm, now)) hy
      have hab : abvD (dl1.take (i + 1)) id = (abvD (dl1.take i) id || decide (id < y.1)) := by rw [take_snoc hy, abvD_snoc]
      have HAb : Hid (abvD (dl1.take (i + 1)) id = (abvD (dl1.take i) id || decide (id < y.1))) := hab
      have hlen : (accD dl1 (id, tm, now) i).length ≤ 2000000000 := by have := accD_len dl1 (id, tm, now) i; omega
      have ige : (0 : Int) ≤ (i : Int) := by omega
      have ilt : (i : Int) < (dl1.length : Int) := by omega
      clear hab
      cases hfl : abvD (dl1.take i) id with
      | true =>
        rw [hfl] at HAb
        simp only [hfl, if_true] at hte
        obtain ⟨v1, w1, hap1, ⟨aa, an, ac, rfl⟩, HB1, v2, w2, hap2, ⟨ca, cn, cc, rfl⟩, HT2⟩ := HT.out.step y hlen
        have HN : Hid (Tw W1 w2 (.slice aa an ac) (.slice ca cn cc) (accD dl1 (id, tm, now) (i + 1))) := by rw [hte]; exact HT2
        have HC1 : Hid _ := C2.out w1 HB1.out
        have c31 := HC1.out.c3
        have hz1 : d < w1.heap.size := lt_of_block HC1.out.row
        obtain ⟨g', cap', e', hcap', k3, _⟩ := HC1.out.bt hy
        rw [HBv.out] at e' c31
        simp only [Value.slice.injEq, true_and] at e'
        obtain ⟨rfl, rfl⟩ := e'
        have hg : g < wr.heap.size := World.block_lt_of_cell? wr _ k1
        have hg' : g' < w1.heap.size := World.block_lt_of_cell? w1 _ k3
        have HF : Hid (true = abvD (dl1.take (i + 1)) id) := by show _ = _; rw [HAb.out]; rfl
        clear HT HC hte hy HT2 HB1 HC1 HAb hfl
        go_wp2_with (at_builtin; first | refine Lib.wpList_append_run_sl _ rfl _ _ 49 rfl _ _ rfl rfl (hap1 _) ?_ | refine Lib.wpList_append_run_sl _ rfl _ _ 50 rfl _ _ rfl rfl (hap2 _) ?_)
        go_roundw
        case rel => exact ⟨i + 1, by omega, by rw [← HF.out], by simp <;> omega, HN⟩
        case measure => simp [intOf] <;> omega
      | false =>
        rw [hfl] at HAb
        by_cases hlt2 : id < y.1
        · simp only [hfl, if_pos hlt2, Bool.false_eq_true, if_false] at hte
          rw [decide_eq_true hlt2] at HAb
          have hgt : decide (y.1 > id) = true := by simp; omega
          obtain ⟨v1, w1, hap1, ⟨aa, an, ac, rfl⟩, HB1, v2, w2, hap2, ⟨ca, cn, cc, rfl⟩, HT2⟩ := HT.out.step (id, tm, now) hlen
          have hlen2 : (accD dl1 (id, tm, now) i ++ [(id, tm, now)]).length ≤ 2000000000 := by have := accD_len dl1 (id, tm, now) i; simp; omega
          obtain ⟨v3, w3, hap3, ⟨ea, en, ec, rfl⟩, HB3, v4, w4, hap4, ⟨fa, fn, fc, rfl⟩, HT4⟩ := HT2.out.step y hlen2
          have HN : Hid (Tw W1 w4 (.slice ea en ec) (.slice fa fn fc) (accD dl1 (id, tm, now) (i + 1))) := by rw [hte]; exact HT4
          have HC1 : Hid _ := C2.out w1 HB1.out
          have c01 := HC1.out.c0
          have hz1 : d < w1.heap.size := lt_of_block HC1.out.row
          have HC2 : Hid _ := C2.out w2 HT2.out.kp
          have c22 := HC2.out.c2
          rw [HSv.out] at c22
          have hz2 : d < w2.heap.size := lt_of_block HC2.out.row
          obtain ⟨g2, cap2, e2, hcap2, m1, m2⟩ := HC2.out.at hy
          rw [HSv.out] at e2
          simp only [Value.slice.injEq, Option.some.injEq, Addr.mk.injEq, and_true, true_and] at e2
          obtain ⟨rfl, rfl⟩ := e2
          have HC3 : Hid _ := C2.out w3 HB3.out
          have c33 := HC3.out.c3
          rw [HBv.out] at c33
          have hz3 : d < w3.heap.size := lt_of_block HC3.out.row
          obtain ⟨g', cap', e', hcap', k3, _⟩ := HC3.out.bt hy
          rw [HBv.out] at e'
          simp only [Value.slice.injEq, true_and] at e'
          obtain ⟨rfl, rfl⟩ := e'
          have hg : g < wr.heap.size := World.block_lt_of_cell? wr _ k1
          have hgw2 : g < w2.heap.size := World.block_lt_of_cell? w2 _ m1
          have hg' : g' < w3.heap.size := World.block_lt_of_cell? w3 _ k3
          have HF : Hid (true = abvD (dl1.take (i + 1)) id) := by show _ = _; rw [HAb.out]; rfl
          clear HT HC hte hy HT2 HB1 HC1 HC2 HC3 HB3 HT4 HAb hfl
          go_upto_region 16 with (at_builtin; refine Lib.wpList_append_run_sl _ rfl _ _ 49 rfl _ _ rfl rfl (hap1 _) ?_)
          go_upto_region 17 with (at_builtin; refine Lib.wpList_append_run_sl _ rfl _ _ 50 rfl _ _ rfl rfl (hap2 _) ?_)
          go_upto_region 19 with (at_builtin; refine Lib.wpList_append_run_sl _ rfl _ _ 49 rfl _ _ rfl rfl (hap3 _) ?_)
          go_wp2_with (at_builtin; refine Lib.wpList_append_run_sl _ rfl _ _ 50 rfl _ _ rfl rfl (hap4 _) ?_)
          go_roundw
          case rel => exact ⟨i + 1, by omega, by rw [← HF.out], by simp <;> omega, HN⟩
          case measure => simp [intOf] <;> omega
        · simp only [hfl, if_neg hlt2, Bool.false_eq_true, if_false] at hte
          rw [decide_eq_false hlt2] at HAb
          have hgt : decide (y.1 > id) = false := by simp; omega
          obtain ⟨v1, w1, hap1, ⟨aa, an, ac, rfl⟩, HB1, v2, w2, hap2, ⟨ca, cn, cc, rfl⟩, HT2⟩ := HT.out.step y hlen
          have HN : Hid (Tw W1 w2 (.slice aa an ac) (.slice ca cn cc) (accD dl1 (id, tm, now) (i + 1))) := by rw [hte]; exact HT2
          have HC1 : Hid _ := C2.out w1 HB1.out
          have c31 := HC1.out.c3
          have hz1 : d < w1.heap.size := lt_of_block HC1.out.row
          obtain ⟨g', cap', e', hcap', k3, _⟩ := HC1.out.bt hy
          rw [HBv.out] at e' c31
          simp only [Value.slice.injEq, true_and] at e'
          obtain ⟨rfl, rfl⟩ := e'
          have hg : g < wr.heap.size := World.block_lt_of_cell? wr _ k1
          have hg' : g' < w1.heap.size := World.block_lt_of_cell? w1 _ k3
          have HF : Hid (false = abvD (dl1.take (i + 1)) id) := by show _ = _; rw [HAb.out]; rfl
          clear HT HC hte hy HT2 HB1 HC1 HAb hfl
          go_wp2_with (at_builtin; first | refine Lib.wpList_append_run_sl _ rfl _ _ 49 rfl _ _ rfl rfl (hap1 _) ?_ | refine Lib.wpList_append_run_sl _ rfl _ _ 50 rfl _ _ rfl rfl (hap2 _) ?_)
          go_roundw
          case rel => exact ⟨i + 1, by omega, by rw [← HF.out], by simp <;> omega, HN⟩
          case measure => simp [intOf] <;> omega
    · have hd : decide ((i : Int) < (dl1.length : Int)) = false := by simp; omega
      have hend := accD_end dl1 (id, tm, now) (show dl1.length ≤ i by omega)
      have HD0 : Hid (∀ wx vs vb l, Tw W1 wx vs vb l → DcTo w ((wx.setCell ⟨d, 2, none⟩ vs).setCell ⟨d, 3, none⟩ vb) d sv bv now span l) := fun wx vs vb l hT => by
        obtain ⟨q1, q2, q3⟩ := hT.laid HD1.out.1
        refine ⟨vs, vb, q1, HD1.out.2.1.trans q2 (fun k _ e => by have e2 : k = d := e; rw [e2]; exact .inl rfl), fun k hk => ?_⟩
        rcases q3 k hk with e | e
        · rw [e]; exact .inl (.inl rfl)
        · have := HD1.out.2.1.size; exact .inr (by omega)
      cases hfl : abvD (dl1.take i) id with
      | true =>
        simp only [hfl, if_true] at hend
        have HE : Hid _ := HD0.out wr _ _ _ HT.out
        rw [← hend] at HE
        have c3 := HC.out.c3
        rw [HBv.out] at c3
        have fz2 : wr.frozen? ⟨d, 2, none⟩ = false := by simp [World.frozen?, HC.out.row]
        have fz3 : (wr.setCell ⟨d, 2, none⟩ (.slice xa xn xc)).frozen? ⟨d, 3, none⟩ = false := by
          have r0 := HC.out.row
          rw [setCell_eq_setRow wr d 2 _ _ _ _ r0]
          simp [World.frozen?, setRow_heap wr d _ _ _ _ r0]
        clear HT HC hend hfl HD0
        go_wp2
        all_goals (go_ret; exact ⟨rfl, HE.out⟩)
      | false =>
        simp only [hfl, Bool.false_eq_true, if_false] at hend
        have hlen : (accD dl1 (id, tm, now) i).length ≤ 2000000000 := by have := accD_len dl1 (id, tm, now) i; omega
        obtain ⟨v1, w1, hap1, ⟨aa, an, ac, rfl⟩, HB1, v2, w2, hap2, ⟨ca, cn, cc, rfl⟩, HT2⟩ := HT.out.step (id, tm, now) hlen
        have HE : Hid _ := HD0.out w2 _ _ _ HT2.out
        rw [← hend] at HE
        have HC1 : Hid _ := C2.out w1 HB1.out
        have c01 := HC1.out.c0
        have hz1 : d < w1.heap.size := lt_of_block HC1.out.row
        have HC2 : Hid _ := C2.out w2 HT2.out.kp
        have c22 := HC2.out.c2
        have c23 := HC2.out.c3
        have hz2 : d < w2.heap.size := lt_of_block HC2.out.row
        rw [HSv.out] at c22
        rw [HBv.out] at c23
        have fz2 : w2.frozen? ⟨d, 2, none⟩ = false := by simp [World.frozen?, HC2.out.row]
        have fz3 : (w2.setCell ⟨d, 2, none⟩ (.slice aa an ac)).frozen? ⟨d, 3, none⟩ = false := by
          have r0 := HC2.out.row
          rw [setCell_eq_setRow w2 d 2 _ _ _ _ r0]
          simp [World.frozen?, setRow_heap w2 d _ _ _ _ r0]
        clear HT HC hend hfl HD0 HT2 HB1 HC1 HC2
        go_wp2_with (at_builtin; first | refine Lib.wpList_append_run_sl _ rfl _ _ 49 rfl _ _ rfl rfl (hap1 _) ?_ | refine Lib.wpList_append_run_sl _ rfl _ _ 50 rfl _ _ rfl rfl (hap2 _) ?_)
        all_goals (go_ret; exact ⟨rfl, HE.out⟩)

set_option maxHeartbeats 4000000 in
theorem refAdd_old {w : World} {d : Nat} {sv bv : Value} {now span : Int} {dl : List DcT} (h : Dc w d sv bv now span dl) (id tm : Int) (hup : dl.Pairwise (fun a b => a.1 < b.1)) (hl : dl.length ≤ 900) (h1 : 1 ≤ id) (h5 : 1 ≤ tm) (h6 : tm ≤ 1000) (hy : id ∈ idD dl) :
    Calls Tryz.prog 13 #[.pointer (some ⟨d, 0, none⟩), .int .i64 id, .int .i32 tm] w fun e w' => e = .returned (.int .i64 0) ∧ DcTo w w' d sv bv now span (insD (remD dl id) (id, tm, now)) := by
  have HA := refAt h id (by omega)
  have c2 := h.c2
  have hz := lt_of_block h.row
  have H : Hid (Dc w d sv bv now span dl) := h
  obtain ⟨sa, sc, hsv⟩ := h.sv
  rw [hsv] at c2
  have HS : Hid (sv = .slice sa dl.length sc) := hsv
  have n1 : ¬ id < 1 := by omega
  have n2 : ¬ tm < 1 := by omega
  have n3 : ¬ 1000 < tm := by omega
  obtain ⟨dl1, hdl1⟩ : ∃ dl1, dl1 = remD dl id := ⟨_, rfl⟩
  have HDl : Hid (dl1 = remD dl id) := hdl1
  have hl1 : dl1.length ≤ 900 := by rw [hdl1]; exact Nat.le_trans (List.length_filter_le _ _) hl
  rw [← hdl1]
  clear h hsv hdl1
  have HK : Hid (∀ k, AtD dl id k → ∃ j : Nat, k = (j : Int) ∧ dl.eraseIdx j = remD dl id) := fun k hk => by
    rcases hk with ⟨_, hn⟩ | ⟨a, y, b, e, rfl, rfl⟩
    · exact absurd hy hn
    · exact ⟨a.length, rfl, erase_rem hup e⟩
  clear hy hup
  go_enter Tryz.func13, Tryz.ntmps13
  go_wp2_with fail
  refine Calls.mono HA ?_
  rintro e w1 ⟨k, rfl, hk, hw1⟩
  rw [hw1]
  obtain ⟨j, rfl, hj⟩ := HK.out k hk
  have HJ : Hid (dl.eraseIdx j = remD dl id) := hj
  clear hk hw1 HA HK hj
  have hd : decide ((j : Int) < 0) = false := by simp
  have hd2 : decide ((0 : Int) ≤ (j : Int)) = true := by simp
  have HO := refOut H.out j (by omega)
  go_wp2_with fail
  refine Calls.mono HO ?_
  rintro e W1 ⟨rfl, sv1, bv1, HR⟩
  rw [HJ.out, ← HDl.out] at HR
  have HD1 : Hid (Dc W1 d sv1 bv1 now span dl1 ∧ Kept w W1 (FtD d sv bv) ∧ (∀ k, FtD d sv1 bv1 k → FtD d sv bv k ∨ w.heap.size ≤ k)) := ⟨HR.out.1, HR.out.2.1.mono (fun k _ e => .inl e), fun k e => (HR.out.2.2 k e).imp (fun e => .inl e) (fun e => e)⟩
  clear HO HR HJ HDl H HS c2 hz hd hd2
  have hz := lt_of_block HD1.out.1.row
  have C2 : Hid (∀ wr, Below W1.heap.size W1 wr → Dc wr d sv1 bv1 now span dl1) := fun wr hb => HD1.out.1.kept (Below.kept hb) (fun k hk => by have := HD1.out.1.lt hk; omega)
  obtain ⟨sa, sc, hsv⟩ := HD1.out.1.sv
  obtain ⟨ba, bc, hbv⟩ := HD1.out.1.bv
  have HSv : Hid (sv1 = .slice sa dl1.length sc) := hsv
  have HBv : Hid (bv1 = .slice ba dl1.length bc) := hbv
  clear hsv hbv
  go_wp2
  go_loopw [8, 9, 10, 11] (fun vs vb vf vi wr => ∃ i : Nat, i ≤ dl1.length ∧ vf = .bool (abvD (dl1.take i) id) ∧ vi = .int .i64 (i : Int) ∧ Hid (Tw W1 wr vs vb (accD dl1 (id, tm, now) i))) (fun _ _ _ vi _ => 1000 - (intOf vi).toNat)
  case atStart => exact ⟨0, by omega, by simp [abvD], rfl, by rw [show accD dl1 (id, tm, now) 0 = [] by simp [accD, abvD]]; exact Tw.start (Below.refl _ _)⟩
  case round =>
    obtain ⟨i, hi, rfl, rfl, HT⟩ := hrel
    have HC : Hid _ := C2.out wr HT.out.kp
    have c2 := HC.out.c2
    have hz : d < wr.heap.size := lt_of_block HC.out.row
    rw [HSv.out] at c2
    obtain ⟨xa, xn, xc, rfl⟩ : ∃ a n c, u8 = .slice a n c := by
      obtain ⟨a, c, e⟩ := rowS HT.out.so
      exact ⟨a, _, c, e⟩
    obtain ⟨ya, yn, yc, rfl⟩ : ∃ a n c, u9 = .slice a n c := by
      obtain ⟨a, c, e⟩ := rowS HT.out.bo
      exact ⟨a, _, c, e⟩
    by_cases hlt : i < dl1.length
    · have hd : decide ((i : Int) < (dl1.length : Int)) = true := by simp; omega
      obtain ⟨y, hy⟩ : ∃ y, dl1[i]? = some y := ⟨_, List.getElem?_eq_getElem hlt⟩
      obtain ⟨g, cap, e, hcap, k1, k2⟩ := HC.out.at hy
      rw [HSv.out] at e
      simp only [Value.slice.injEq, true_and] at e
      obtain ⟨rfl, rfl⟩ := e
      have hte := accD_step (x := (id, tm, now)) hy
      have hab : abvD (dl1.take (i + 1)) id = (abvD (dl1.take i) id || decide (id < y.1)) := by rw [take_snoc hy, abvD_snoc]
      have HAb : Hid (abvD (dl1.take (i + 1)) id = (abvD (dl1.take i) id || decide (id < y.1))) := hab
      have hlen : (accD dl1 (id, tm, now) i).length ≤ 2000000000 := by have := accD_len dl1 (id, tm, now) i; omega
      have ige : (0 : Int) ≤ (i : Int) := by omega
      have ilt : (i : Int) < (dl1.length : Int) := by omega
      clear hab
      cases hfl : abvD (dl1.take i) id with
      | true =>
        rw [hfl] at HAb
        simp only [hfl, if_true] at hte
        obtain ⟨v1, w1, hap1, ⟨aa, an, ac, rfl⟩, HB1, v2, w2, hap2, ⟨ca, cn, cc, rfl⟩, HT2⟩ := HT.out.step y hlen
        have HN : Hid (Tw W1 w2 (.slice aa an ac) (.slice ca cn cc) (accD dl1 (id, tm, now) (i + 1))) := by rw [hte]; exact HT2
        have HC1 : Hid _ := C2.out w1 HB1.out
        have c31 := HC1.out.c3
        have hz1 : d < w1.heap.size := lt_of_block HC1.out.row
        obtain ⟨g', cap', e', hcap', k3, _⟩ := HC1.out.bt hy
        rw [HBv.out] at e' c31
        simp only [Value.slice.injEq, true_and] at e'
        obtain ⟨rfl, rfl⟩ := e'
        have hg : g < wr.heap.size := World.block_lt_of_cell? wr _ k1
        have hg' : g' < w1.heap.size := World.block_lt_of_cell? w1 _ k3
        have HF : Hid (true = abvD (dl1.take (i + 1)) id) := by show _ = _; rw [HAb.out]; rfl
        clear HT HC hte hy HT2 HB1 HC1 HAb hfl
        go_wp2_with (at_builtin; first | refine Lib.wpList_append_run_sl _ rfl _ _ 49 rfl _ _ rfl rfl (hap1 _) ?_ | refine Lib.wpList_append_run_sl _ rfl _ _ 50 rfl _ _ rfl rfl (hap2 _) ?_)
        go_roundw
        case rel => exact ⟨i + 1, by omega, by rw [← HF.out], by simp <;> omega, HN⟩
        case measure => simp [intOf] <;> omega
      | false =>
        rw [hfl] at HAb
        by_cases hlt2 : id < y.1
        · simp only [hfl, if_pos hlt2, Bool.false_eq_true, if_false] at hte
          rw [decide_eq_true hlt2] at HAb
          have hgt : decide (y.1 > id) = true := by simp; omega
          obtain ⟨v1, w1, hap1, ⟨aa, an, ac, rfl⟩, HB1, v2, w2, hap2, ⟨ca, cn, cc, rfl⟩, HT2⟩ := HT.out.step (id, tm, now) hlen
          have hlen2 : (accD dl1 (id, tm, now) i ++ [(id, tm, now)]).length ≤ 2000000000 := by have := accD_len dl1 (id, tm, now) i; simp; omega
          obtain ⟨v3, w3, hap3, ⟨ea, en, ec, rfl⟩, HB3, v4, w4, hap4, ⟨fa, fn, fc, rfl⟩, HT4⟩ := HT2.out.step y hlen2
          have HN : Hid (Tw W1 w4 (.slice ea en ec) (.slice fa fn fc) (accD dl1 (id, tm, now) (i + 1))) := by rw [hte]; exact HT4
          have HC1 : Hid _ := C2.out w1 HB1.out
          have c01 := HC1.out.c0
          have hz1 : d < w1.heap.size := lt_of_block HC1.out.row
          have HC2 : Hid _ := C2.out w2 HT2.out.kp
          have c22 := HC2.out.c2
          rw [HSv.out] at c22
          have hz2 : d < w2.heap.size := lt_of_block HC2.out.row
          obtain ⟨g2, cap2, e2, hcap2, m1, m2⟩ := HC2.out.at hy
          rw [HSv.out] at e2
          simp only [Value.slice.injEq, Option.some.injEq, Addr.mk.injEq, and_true, true_and] at e2
          obtain ⟨rfl, rfl⟩ := e2
          have HC3 : Hid _ := C2.out w3 HB3.out
          have c33 := HC3.out.c3
          rw [HBv.out] at c33
          have hz3 : d < w3.heap.size := lt_of_block HC3.out.row
          obtain ⟨g', cap', e', hcap', k3, _⟩ := HC3.out.bt hy
          rw [HBv.out] at e'
          simp only [Value.slice.injEq, true_and] at e'
          obtain ⟨rfl, rfl⟩ := e'
          have hg : g < wr.heap.size := World.block_lt_of_cell? wr _ k1
          have hgw2 : g < w2.heap.size := World.block_lt_of_cell? w2 _ m1
          have hg' : g' < w3.heap.size := World.block_lt_of_cell? w3 _ k3
          have HF : Hid (true = abvD (dl1.take (i + 1)) id) := by show _ = _; rw [HAb.out]; rfl
          clear HT HC hte hy HT2 HB1 HC1 HC2 HC3 HB3 HT4 HAb hfl
          go_upto_region 16 with (at_builtin; refine Lib.wpList_append_run_sl _ rfl _ _ 49 rfl _ _ rfl rfl (hap1 _) ?_)
          go_upto_region 17 with (at_builtin; refine Lib.wpList_append_run_sl _ rfl _ _ 50 rfl _ _ rfl rfl (hap2 _) ?_)
          go_upto_region 19 with (at_builtin; refine Lib.wpList_append_run_sl _ rfl _ _ 49 rfl _ _ rfl rfl (hap3 _) ?_)
          go_wp2_with (at_builtin; refine Lib.wpList_append_run_sl _ rfl _ _ 50 rfl _ _ rfl rfl (hap4 _) ?_)
          go_roundw
          case rel => exact ⟨i + 1, by omega, by rw [← HF.out], by simp <;> omega, HN⟩
          case measure => simp [intOf] <;> omega
        · simp only [hfl, if_neg hlt2, Bool.false_eq_true, if_false] at hte
          rw [decide_eq_false hlt2] at HAb
          have hgt : decide (y.1 > id) = false := by simp; omega
          obtain ⟨v1, w1, hap1, ⟨aa, an, ac, rfl⟩, HB1, v2, w2, hap2, ⟨ca, cn, cc, rfl⟩, HT2⟩ := HT.out.step y hlen
          have HN : Hid (Tw W1 w2 (.slice aa an ac) (.slice ca cn cc) (accD dl1 (id, tm, now) (i + 1))) := by rw [hte]; exact HT2
          have HC1 : Hid _ := C2.out w1 HB1.out
          have c31 := HC1.out.c3
          have hz1 : d < w1.heap.size := lt_of_block HC1.out.row
          obtain ⟨g', cap', e', hcap', k3, _⟩ := HC1.out.bt hy
          rw [HBv.out] at e' c31
          simp only [Value.slice.injEq, true_and] at e'
          obtain ⟨rfl, rfl⟩ := e'
          have hg : g < wr.heap.size := World.block_lt_of_cell? wr _ k1
          have hg' : g' < w1.heap.size := World.block_lt_of_cell? w1 _ k3
          have HF : Hid (false = abvD (dl1.take (i + 1)) id) := by show _ = _; rw [HAb.out]; rfl
          clear HT HC hte hy HT2 HB1 HC1 HAb hfl
          go_wp2_with (at_builtin; first | refine Lib.wpList_append_run_sl _ rfl _ _ 49 rfl _ _ rfl rfl (hap1 _) ?_ | refine Lib.wpList_append_run_sl _ rfl _ _ 50 rfl _ _ rfl rfl (hap2 _) ?_)
          go_roundw
          case rel => exact ⟨i + 1, by omega, by rw [← HF.out], by simp <;> omega, HN⟩
          case measure => simp [intOf] <;> omega
    · have hd : decide ((i : Int) < (dl1.length : Int)) = false := by simp; omega
      have hend := accD_end dl1 (id, tm, now) (show dl1.length ≤ i by omega)
      have HD0 : Hid (∀ wx vs vb l, Tw W1 wx vs vb l → DcTo w ((wx.setCell ⟨d, 2, none⟩ vs).setCell ⟨d, 3, none⟩ vb) d sv bv now span l) := fun wx vs vb l hT => by
        obtain ⟨q1, q2, q3⟩ := hT.laid HD1.out.1
        refine ⟨vs, vb, q1, HD1.out.2.1.trans q2 (fun k _ e => by have e2 : k = d := e; rw [e2]; exact .inl rfl), fun k hk => ?_⟩
        rcases q3 k hk with e | e
        · rw [e]; exact .inl (.inl rfl)
        · have := HD1.out.2.1.size; exact .inr (by omega)
      cases hfl : abvD (dl1.take i) id with
      | true =>
        simp only [hfl, if_true] at hend
        have HE : Hid _ := HD0.out wr _ _ _ HT.out
        rw [← hend] at HE
        have c3 := HC.out.c3
        rw [HBv.out] at c3
        have fz2 : wr.frozen? ⟨d, 2, none⟩ = false := by simp [World.frozen?, HC.out.row]
        have fz3 : (wr.setCell ⟨d, 2, none⟩ (.slice xa xn xc)).frozen? ⟨d, 3, none⟩ = false := by
          have r0 := HC.out.row
          rw [setCell_eq_setRow wr d 2 _ _ _ _ r0]
          simp [World.frozen?, setRow_heap wr d _ _ _ _ r0]
        clear HT HC hend hfl HD0
        go_wp2
        all_goals (go_ret; exact ⟨rfl, HE.out⟩)
      | false =>
        simp only [hfl, Bool.false_eq_true, if_false] at hend
        have hlen : (accD dl1 (id, tm, now) i).length ≤ 2000000000 := by have := accD_len dl1 (id, tm, now) i; omega
        obtain ⟨v1, w1, hap1, ⟨aa, an, ac, rfl⟩, HB1, v2, w2, hap2, ⟨ca, cn, cc, rfl⟩, HT2⟩ := HT.out.step (id, tm, now) hlen
        have HE : Hid _ := HD0.out w2 _ _ _ HT2.out
        rw [← hend] at HE
        have HC1 : Hid _ := C2.out w1 HB1.out
        have c01 := HC1.out.c0
        have hz1 : d < w1.heap.size := lt_of_block HC1.out.row
        have HC2 : Hid _ := C2.out w2 HT2.out.kp
        have c22 := HC2.out.c2
        have c23 := HC2.out.c3
        have hz2 : d < w2.heap.size := lt_of_block HC2.out.row
        rw [HSv.out] at c22
        rw [HBv.out] at c23
        have fz2 : w2.frozen? ⟨d, 2, none⟩ = false := by simp [World.frozen?, HC2.out.row]
        have fz3 : (w2.setCell ⟨d, 2, none⟩ (.slice aa an ac)).frozen? ⟨d, 3, none⟩ = false := by
          have r0 := HC2.out.row
          rw [setCell_eq_setRow w2 d 2 _ _ _ _ r0]
          simp [World.frozen?, setRow_heap w2 d _ _ _ _ r0]
        clear HT HC hend hfl HD0 HT2 HB1 HC1 HC2
        go_wp2_with (at_builtin; first | refine Lib.wpList_append_run_sl _ rfl _ _ 49 rfl _ _ rfl rfl (hap1 _) ?_ | refine Lib.wpList_append_run_sl _ rfl _ _ 50 rfl _ _ rfl rfl (hap2 _) ?_)
        all_goals (go_ret; exact ⟨rfl, HE.out⟩)

end Go.Proofs.YtmniefmjdfdedaaGreatDoor
