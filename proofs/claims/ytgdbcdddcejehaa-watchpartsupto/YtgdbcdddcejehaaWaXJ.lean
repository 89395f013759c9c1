/- WatchParts' walk. -/
import Derived.Test.YtgdbcdddcejehaaWaWJ
import Derived.Test.YtgdbcdddcejehaaWaVJ
namespace Go.Proofs.Ytgdbcdddcejehaa
open Go.RowKit Go.Shelf
set_option maxRecDepth 8000
set_option linter.unusedSimpArgs false

/-- Behind the loop over what was there: its numbers. -/
structure PaE2 (V3 wr : World) (l : List WaT) (cl : Bool) (c : Int) (i n m : Nat) : Prop where
  hn : n = ((l.take i).filter (gB cl c)).length
  hm : m = ((l.take i).filter (fun x => !gB cl c x)).length
  bel : Below V3.heap.size V3 wr

set_option maxHeartbeats 8000000 in
theorem parts_walk {w : World} {av : Value} {ax : List WaT} (c : Int) (cl : Bool) (hax : SW w av ax) (haxl : ax.length ≤ 1000000000) (hsz : ∀ x ∈ ax, x.2.2.size ≤ 4294967295) : Calls Try.prog 4 #[av, .int .i64 c, .bool cl] w fun e w' => e = .returned (.bool true) ∧ Below w.heap.size w w' := by
  have HX : Hid (SW w av ax ∧ ∀ x ∈ ax, x.2.2.size ≤ 4294967295) := ⟨hax, hsz⟩
  obtain ⟨ao, acap, rfl, hacap, _⟩ := hax
  have hd0 : decide ((1073741823 : Int) < (ax.length : Int)) = false := by simp; omega
  clear hsz
  go_enter Try.func4, Try.ntmps4
  go_wp2_with fail
  go_at_call 7
  refine Calls.mono (lives18 w) ?_
  rintro e w2 ⟨rfl, hB2⟩
  have HB2 : Hid (Below w.heap.size w w2) := hB2
  clear hB2
  go_wp2_with fail
  go_at_call 8
  refine Calls.mono (newB_any w2) ?_
  rintro e w3 ⟨rfl, h3, hB3⟩
  have H0 : Hid (PaI w w3 (w2.heap.size + 1) w2.heap.size (.slice none 0 0) [] ax 0) := by
    refine ⟨h3, Wats.nil, fun k hf => ?_, HB2.out.trans (hB3.mono HB2.out.size), fun _ x hx => by simp at hx⟩
    have := HB2.out.size
    rcases hf with rfl | rfl | hf
    · omega
    · omega
    · cases hf
  clear h3 hB3 HB2
  obtain ⟨b, hb⟩ : ∃ b, b = w2.heap.size + 1 := ⟨_, rfl⟩
  obtain ⟨m, hm⟩ : ∃ m, m = w2.heap.size := ⟨_, rfl⟩
  rw [← hb, ← hm] at H0
  rw [← hb]
  clear hb hm
  go_wp2
  go_loopw [9] (fun vi wr => ∃ i : Nat, i ≤ ax.length ∧ vi = .int .i64 (i : Int) ∧ Hid (∃ v l, PaI w wr b m v l ax i)) (fun vi _ => ax.length - (intOf vi).toNat)
  case atStart => exact ⟨0, by omega, rfl, _, _, H0.out⟩
  case round =>
    obtain ⟨i, hi, rfl, HD⟩ := hrel
    clear H0
    by_cases hlt : i < ax.length
    · have hd : decide ((i : Int) < (ax.length : Int)) = true := by simp; omega
      obtain ⟨x, hx⟩ : ∃ x, ax[i]? = some x := ⟨_, List.getElem?_eq_getElem hlt⟩
      obtain ⟨v, l, hP⟩ := HD.out
      obtain ⟨tb, toff, tcap, hte, htl, k0, k1, k2⟩ := (HX.out.1.belowW hP.bel).at hx
      simp only [Value.slice.injEq, true_and] at hte
      obtain ⟨rfl, rfl⟩ := hte
      have hxs := HX.out.2 x (List.mem_of_getElem? hx)
      have HA : Hid _ := hP.addAny hx hxs
      by_cases h64 : x.2.2.size ≤ 64
      · have hd1 : decide ((x.2.2.size : Int) ≤ 64) = true := by simp; omega
        clear hx hP HD
        go_wp2_with fail
        go_at_call 9
        refine Calls.mono HA.out ?_
        rintro e w5 ⟨e0, rfl, v', l', hP'⟩
        have HN : Hid (∃ v l, PaI w w5 b m v l ax (i + 1)) := ⟨v', l', hP'⟩
        clear HA hP' k0 k1 k2 htl
        go_wp2
        go_roundw
        case rel => exact ⟨i + 1, by omega, by simp, HN⟩
        case measure => simp [intOf]; omega
      · have hd1 : decide ((x.2.2.size : Int) ≤ 64) = false := by simp; omega
        have HN : Hid (∃ v l, PaI w wr b m v l ax (i + 1)) := ⟨v, l, hP.skip hx (fun _ ho => absurd (waOk_small ho hxs) h64)⟩
        clear hx hP HD HA
        go_wp2
        go_roundw
        case rel => exact ⟨i + 1, by omega, by simp, HN⟩
        case measure => simp [intOf]; omega
    · have hd : decide ((i : Int) < (ax.length : Int)) = false := by simp; omega
      obtain ⟨v, l, hP⟩ := HD.out
      have hle := hP.ws.le
      have HP : Hid (PaI w wr b m v l ax i ∧ ax.length ≤ i) := ⟨hP, by omega⟩
      clear hP HD
      go_wp2_with fail
      go_at_call 16
      refine Calls.mono (all_any HP.out.1.bo (by omega)) ?_
      rintro e w5 ⟨ub, rfl, hob, hB5⟩
      have HP5 : Hid (PaI w w5 b m v l ax i ∧ w5.ownsRow w.heap.size 30 3 ub l.length (waFlat l) ∧ ∀ k, ub.ownBlock = some k → ¬ Ft b m v k) := ⟨HP.out.1.below hB5, row_base hob HP.out.1.bel.size, own_apart HP.out.1.bo hob⟩
      obtain ⟨bo1, bc1, rfl⟩ := rowS hob
      clear hob hB5
      cases cl
      · go_wp2_with fail
        go_at_call 19
        refine Calls.mono (drop_any c HP5.out.1.bo (by omega) HP5.out.1.ws.nd) ?_
        rintro e w6 ⟨ug, rfl, hog, v', hbo6, hk6, hv6⟩
        have hap6 : ∀ k, ug.ownBlock = some k → k ≥ w5.heap.size := fun k hk => (hog.lt k hk).1
        have hb6 : w6.ownsRow w.heap.size 30 3 (.slice bo1 l.length bc1) l.length (waFlat l) := rowK HP5.out.2.1 hk6 HP5.out.2.2
        have hbel6 : Below w.heap.size w w6 := by
          refine ⟨hk6.os.trans HP5.out.1.bel.os, hk6.tape.trans HP5.out.1.bel.tape, hk6.output.trans HP5.out.1.bel.output, Nat.le_trans HP5.out.1.bel.size hk6.size, fun k hk' => ?_⟩
          rw [hk6.block k (Nat.lt_of_lt_of_le hk' HP5.out.1.bel.size) (fun hf => by have := HP5.out.1.low k hf; omega), HP5.out.1.bel.block k hk']
        obtain ⟨go1, gn1, gc1, hgg⟩ : ∃ a n c, ug = .slice a n c := by
          obtain ⟨a, c, e⟩ := rowS hog
          exact ⟨a, _, c, e⟩
        subst hgg
        have HA6 : Hid _ := all_any hbo6 (Nat.le_trans (List.length_filter_le _ _) (by omega))
        have HQ6 : Hid (SW w6 (.slice bo1 l.length bc1) l ∧ SW w6 (.slice go1 gn1 gc1) (l.filter (gB false c)) ∧ Below w.heap.size w w6 ∧ Wats l ∧ (l.length < 64 → ∀ x ∈ ax, waOk x = true → x ∈ l)) := by
          refine ⟨SW_owns hb6, ?_, hbel6, HP5.out.1.ws, fun h x hx ho => HP5.out.1.all h x (by rw [List.take_of_length_le HP.out.2]; exact hx) ho⟩
          rw [gB_drop.1]
          exact SW_owns hog
        clear hog hbo6 hk6 hv6 hap6 hb6 hbel6 HP5 HP
        go_wp2_with fail
        go_at_call 16
        refine Calls.mono HA6.out ?_
        rintro e w7 ⟨ua, rfl, hoa, hB7⟩
        obtain ⟨ao1, an1, ac1, haa⟩ : ∃ a n c, ua = .slice a n c := by
          obtain ⟨a, c, e⟩ := rowS hoa
          exact ⟨a, _, c, e⟩
        subst haa
        have HM : Hid (PaM w w7 l false c (.slice bo1 l.length bc1) (.slice go1 gn1 gc1) (.slice ao1 an1 ac1) ∧ Wats l ∧ (l.length < 64 → ∀ x ∈ ax, waOk x = true → x ∈ l) ∧ gn1 = (l.filter (gB false c)).length ∧ an1 = (l.filter (fun x => !gB false c x)).length) := by
          have h1 : SW w7 (.slice ao1 an1 ac1) (l.filter (fun x => !gB false c x)) := by rw [gB_drop.2]; exact SW_owns hoa
          refine ⟨⟨HQ6.out.1.below hB7, HQ6.out.2.1.below hB7, h1, HQ6.out.2.2.1.trans (hB7.mono HQ6.out.2.2.1.size)⟩, HQ6.out.2.2.2.1, HQ6.out.2.2.2.2, ?_, ?_⟩
          · obtain ⟨_, _, e, _⟩ := HQ6.out.2.1; simp at e; exact e.2.1
          · obtain ⟨_, _, e, _⟩ := h1; simp at e; exact e.2.1
        clear hoa hB7 HA6 HQ6
        obtain ⟨wo, hwo⟩ : ∃ wo, wo = wr := ⟨_, rfl⟩
        subst hwo
        go_wp2
        go_loopw [13, 14, 15] (fun vn vm vi wr => ∃ j n k : Nat, j ≤ l.length ∧ vi = .int .i64 (j : Int) ∧ vn = .int .i64 (n : Int) ∧ vm = .int .i64 (k : Int) ∧ Hid (PaE2 w7 wr l false c j n k)) (fun _ _ vi _ => l.length - (intOf vi).toNat)
        case atStart => exact ⟨0, 0, 0, by omega, rfl, rfl, rfl, by simp, by simp, Below.refl _ _⟩
        case round =>
          obtain ⟨j, n, k, hj, rfl, rfl, rfl, HE⟩ := hrel
          by_cases hlt2 : j < l.length
          · have hd2 : decide ((j : Int) < (l.length : Int)) = true := by simp; omega
            obtain ⟨x, hx⟩ : ∃ x, l[j]? = some x := ⟨_, List.getElem?_eq_getElem hlt2⟩
            have hPM := HM.out.1.below HE.out.bel
            obtain ⟨tb, toff, tcap, hte, htl, k0, k1, k2⟩ := hPM.be.at hx
            simp only [Value.slice.injEq, true_and] at hte
            obtain ⟨rfl, rfl⟩ := hte
            have hnW : ∀ W, (binOp .neq 30 (.agg #[.int .i64 x.1, .int .i8 x.2.1, .string x.2.2]) (.agg #[.int .i64 x.1, .int .i8 x.2.1, .string x.2.2])).run Try.prog W = .ok (.bool false) W := fun W => by
              have := neqWaV x x W
              rw [waEq_self] at this
              exact this
            cases hof : ofC c x
            · have hg : gB false c x = false := by simp [gB, hof]
              have HEX : Hid (n = ((l.take (j + 1)).filter (gB false c)).length ∧ k + 1 = ((l.take (j + 1)).filter (fun x => !gB false c x)).length) := by
                refine ⟨?_, ?_⟩
                · rw [filt_no hx hg, ← HE.out.hn]
                · rw [filt_yes (p := fun x => !gB false c x) hx (by simp [hg]), List.length_append, ← HE.out.hm]; rfl
              have hat : (l.filter (fun x => !gB false c x))[k]? = some x := by rw [HE.out.hm]; exact filt_at (p := fun x => !gB false c x) hx (by simp [hg])
              obtain ⟨gb, goff, gcap, hge, hgl, f0, f1, f2⟩ := hPM.af.at hat
              have hng : k < an1 := by
                have := (List.getElem?_eq_some_iff.1 hat).1
                have := HM.out.2.2.2.2
                omega
              simp only [Value.slice.injEq] at hge
              have hgo := hge.1
              clear hge hat
              subst hgo
              have dn : decide ((an1 : Int) ≤ (k : Int)) = false := by simp; omega
              have dn2 : decide ((k : Int) < (an1 : Int)) = true := by simp; omega
              have hn64 : k ≤ 64 := by
                have h1 := HE.out.hm
                have := Nat.le_trans (List.length_filter_le (fun x => !gB false c x) (l.take j)) (by rw [List.length_take]; exact Nat.min_le_right _ _)
                have := HM.out.2.1.le
                omega
              clear hx hg hPM
              have hcc : (x.1 == c) = false := hof
              clear hof
              go_upto_region 27 with fail
              go_quiet (fail)
              have HN : Hid (PaE2 w7 (wr.drewN nq) l false c (j + 1) n (k + 1)) := ⟨HEX.out.1, HEX.out.2, below_drewN HE.out.bel nq⟩
              clear HEX HE f0 f1 f2 k0 k1 k2 htl hgl
              generalize wr.drewN nq = wr2 at *
              go_wp2
              go_roundw
              case rel => exact ⟨j + 1, n, k + 1, by omega, by simp, rfl, by simp, HN⟩
              case measure => simp [intOf]; omega
            · have hg : gB false c x = true := by simp [gB, hof]
              have HEX : Hid (n + 1 = ((l.take (j + 1)).filter (gB false c)).length ∧ k = ((l.take (j + 1)).filter (fun x => !gB false c x)).length) := by
                refine ⟨?_, ?_⟩
                · rw [filt_yes hx hg, List.length_append, ← HE.out.hn]; rfl
                · rw [filt_no (p := fun x => !gB false c x) hx (by simp [hg]), ← HE.out.hm]
              have hat : (l.filter (gB false c))[n]? = some x := by rw [HE.out.hn]; exact filt_at hx hg
              obtain ⟨gb, goff, gcap, hge, hgl, f0, f1, f2⟩ := hPM.go.at hat
              have hng : n < gn1 := by
                have := (List.getElem?_eq_some_iff.1 hat).1
                have := HM.out.2.2.2.1
                omega
              simp only [Value.slice.injEq] at hge
              have hgo := hge.1
              clear hge hat
              subst hgo
              have dn : decide ((gn1 : Int) ≤ (n : Int)) = false := by simp; omega
              have dn2 : decide ((n : Int) < (gn1 : Int)) = true := by simp; omega
              have hn64 : n ≤ 64 := by
                have h1 := HE.out.hn
                have := Nat.le_trans (List.length_filter_le (gB false c) (l.take j)) (by rw [List.length_take]; exact Nat.min_le_right _ _)
                have := HM.out.2.1.le
                omega
              clear hx hg hPM
              have hcc : (x.1 == c) = true := hof
              clear hof
              go_upto_region 24 with fail
              go_quiet (fail)
              have HN : Hid (PaE2 w7 (wr.drewN nq) l false c (j + 1) (n + 1) k) := ⟨HEX.out.1, HEX.out.2, below_drewN HE.out.bel nq⟩
              clear HEX HE f0 f1 f2 k0 k1 k2 htl hgl
              generalize wr.drewN nq = wr2 at *
              go_wp2
              go_roundw
              case rel => exact ⟨j + 1, n + 1, k, by omega, by simp, by simp, rfl, HN⟩
              case measure => simp [intOf]; omega
          · have hd2 : decide ((j : Int) < (l.length : Int)) = false := by simp; omega
            have e1 : n = gn1 := by have := HE.out.hn; rw [List.take_of_length_le (by omega)] at this; have := HM.out.2.2.2.1; omega
            have e2 : k = an1 := by have := HE.out.hm; rw [List.take_of_length_le (by omega)] at this; have := HM.out.2.2.2.2; omega
            have hq1 : ((n : Int) == (gn1 : Int)) = true := by rw [e1]; simp
            have hq2 : ((k : Int) == (an1 : Int)) = true := by rw [e2]; simp
            have HW : Hid (Below w.heap.size w wr ∧ SW wr (.slice bo1 l.length bc1) l) := ⟨(HM.out.1.below HE.out.bel).bel, (HM.out.1.below HE.out.bel).be⟩
            clear e1 e2 HE
            obtain ⟨wo2, hwo2⟩ : ∃ wo2, wo2 = wr := ⟨_, rfl⟩
            subst hwo2
            go_wp2
            go_loopw [16] (fun vi wr => ∃ j : Nat, j ≤ ax.length ∧ vi = .int .i64 (j : Int) ∧ Hid (Below wo2.heap.size wo2 wr)) (fun vi _ => ax.length - (intOf vi).toNat)
            case atStart => exact ⟨0, by omega, rfl, Below.refl _ _⟩
            case round =>
              obtain ⟨i3, hi3, rfl, HB⟩ := hrel
              by_cases hlt3 : i3 < ax.length
              · have hd3 : decide ((i3 : Int) < (ax.length : Int)) = true := by simp; omega
                obtain ⟨x, hx⟩ : ∃ x, ax[i3]? = some x := ⟨_, List.getElem?_eq_getElem hlt3⟩
                have hbw := HW.out.1.trans (HB.out.mono HW.out.1.size)
                obtain ⟨tb, toff, tcap, hte, htl, k0, k1, k2⟩ := (HX.out.1.belowW hbw).at hx
                simp only [Value.slice.injEq, true_and] at hte
                obtain ⟨rfl, rfl⟩ := hte
                have HXX : Hid (ax[i3]? = some x ∧ x.2.2.size ≤ 4294967295 ∧ x ∈ ax) := ⟨hx, HX.out.2 x (List.mem_of_getElem? hx), List.mem_of_getElem? hx⟩
                clear hx hbw
                go_wp2_with fail
                go_at_call 10
                refine Calls.mono (refIs18 x wr HXX.out.2.1) ?_
                rintro e w9 ⟨rfl, b9⟩
                have HB9 : Hid (Below wo2.heap.size wo2 w9) := HB.out.trans (b9.mono HB.out.size)
                clear b9 k0 k1 k2 htl
                cases hok : waOk x
                · go_wp2
                  go_roundw
                  case rel => exact ⟨i3 + 1, by omega, by simp, HB9⟩
                  case measure => simp [intOf]; omega
                · by_cases h64 : l.length < 64
                  · have hd4 : decide ((l.length : Int) < 64) = true := by simp; omega
                    have hmem := HM.out.2.2.1 h64 x HXX.out.2.2 hok
                    have hc1 := count_one HM.out.2.1.nd hmem
                    have hbw := HW.out.1.trans (HB9.out.mono HW.out.1.size)
                    obtain ⟨tb2, toff2, tcap2, hte, htl, k0, k1, k2⟩ := (HX.out.1.belowW hbw).at HXX.out.1
                    simp only [Value.slice.injEq, Option.some.injEq, Addr.mk.injEq, and_true, true_and] at hte
                    obtain ⟨⟨rfl, rfl⟩, rfl⟩ := hte
                    have HHs : Hid (Calls Try.prog 11 #[.slice bo1 l.length bc1, .agg (waCs x)] w9 fun e w' => e = .returned (.int .i64 1) ∧ Hid (Below wo2.heap.size wo2 w')) := by
                      refine (has_any x (HW.out.2.below HB9.out) (by have := HM.out.2.1.le; omega)).mono (fun e w' hh => ⟨?_, HB9.out.trans (hh.2.mono HB9.out.size)⟩)
                      have := hh.1
                      rw [hc1] at this
                      exact this
                    clear hmem hc1 hbw
                    go_wp2_with fail
                    go_at_call 11
                    refine Calls.mono HHs.out ?_
                    rintro e w10 ⟨rfl, HB10⟩
                    clear k0 k1 k2 htl HHs HB9
                    go_wp2
                    go_roundw
                    case rel => exact ⟨i3 + 1, by omega, by simp, HB10⟩
                    case measure => simp [intOf]; omega
                  · have hd4 : decide ((l.length : Int) < 64) = false := by simp; omega
                    go_wp2
                    go_roundw
                    case rel => exact ⟨i3 + 1, by omega, by simp, HB9⟩
                    case measure => simp [intOf]; omega
              · have hd3 : decide ((i3 : Int) < (ax.length : Int)) = false := by simp; omega
                have HE9 : Hid (Below w.heap.size w wr) := HW.out.1.trans (HB.out.mono HW.out.1.size)
                clear HB HW
                go_wp2
                all_goals (go_ret; exact ⟨rfl, HE9.out⟩)
      · go_wp2_with fail
        go_at_call 18
        refine Calls.mono (clear_any HP5.out.1.bo (by omega)) ?_
        rintro e w6 ⟨ug, rfl, hog, v', hbo6, hk6, hv6⟩
        have hap6 : ∀ k, ug.ownBlock = some k → k ≥ w5.heap.size := fun k hk => (hog.lt k hk).1
        have hb6 : w6.ownsRow w.heap.size 30 3 (.slice bo1 l.length bc1) l.length (waFlat l) := rowK HP5.out.2.1 hk6 HP5.out.2.2
        have hbel6 : Below w.heap.size w w6 := by
          refine ⟨hk6.os.trans HP5.out.1.bel.os, hk6.tape.trans HP5.out.1.bel.tape, hk6.output.trans HP5.out.1.bel.output, Nat.le_trans HP5.out.1.bel.size hk6.size, fun k hk' => ?_⟩
          rw [hk6.block k (Nat.lt_of_lt_of_le hk' HP5.out.1.bel.size) (fun hf => by have := HP5.out.1.low k hf; omega), HP5.out.1.bel.block k hk']
        obtain ⟨go1, gn1, gc1, hgg⟩ : ∃ a n c, ug = .slice a n c := by
          obtain ⟨a, c, e⟩ := rowS hog
          exact ⟨a, _, c, e⟩
        subst hgg
        have HA6 : Hid _ := all_any hbo6 (by simp)
        have HQ6 : Hid (SW w6 (.slice bo1 l.length bc1) l ∧ SW w6 (.slice go1 gn1 gc1) (l.filter (gB true c)) ∧ Below w.heap.size w w6 ∧ Wats l ∧ (l.length < 64 → ∀ x ∈ ax, waOk x = true → x ∈ l)) := by
          refine ⟨SW_owns hb6, ?_, hbel6, HP5.out.1.ws, fun h x hx ho => HP5.out.1.all h x (by rw [List.take_of_length_le HP.out.2]; exact hx) ho⟩
          rw [gB_clear.1]
          exact SW_owns hog
        clear hog hbo6 hk6 hv6 hap6 hb6 hbel6 HP5 HP
        go_wp2_with fail
        go_at_call 16
        refine Calls.mono HA6.out ?_
        rintro e w7 ⟨ua, rfl, hoa, hB7⟩
        obtain ⟨ao1, an1, ac1, haa⟩ : ∃ a n c, ua = .slice a n c := by
          obtain ⟨a, c, e⟩ := rowS hoa
          exact ⟨a, _, c, e⟩
        subst haa
        have HM : Hid (PaM w w7 l true c (.slice bo1 l.length bc1) (.slice go1 gn1 gc1) (.slice ao1 an1 ac1) ∧ Wats l ∧ (l.length < 64 → ∀ x ∈ ax, waOk x = true → x ∈ l) ∧ gn1 = (l.filter (gB true c)).length ∧ an1 = (l.filter (fun x => !gB true c x)).length) := by
          have h1 : SW w7 (.slice ao1 an1 ac1) (l.filter (fun x => !gB true c x)) := by rw [gB_clear.2]; exact SW_owns hoa
          refine ⟨⟨HQ6.out.1.below hB7, HQ6.out.2.1.below hB7, h1, HQ6.out.2.2.1.trans (hB7.mono HQ6.out.2.2.1.size)⟩, HQ6.out.2.2.2.1, HQ6.out.2.2.2.2, ?_, ?_⟩
          · obtain ⟨_, _, e, _⟩ := HQ6.out.2.1; simp at e; exact e.2.1
          · obtain ⟨_, _, e, _⟩ := h1; simp at e; exact e.2.1
        clear hoa hB7 HA6 HQ6
        obtain ⟨wo, hwo⟩ : ∃ wo, wo = wr := ⟨_, rfl⟩
        subst hwo
        go_wp2
        go_loopw [13, 14, 15] (fun vn vm vi wr => ∃ j n k : Nat, j ≤ l.length ∧ vi = .int .i64 (j : Int) ∧ vn = .int .i64 (n : Int) ∧ vm = .int .i64 (k : Int) ∧ Hid (PaE2 w7 wr l true c j n k)) (fun _ _ vi _ => l.length - (intOf vi).toNat)
        case atStart => exact ⟨0, 0, 0, by omega, rfl, rfl, rfl, by simp, by simp, Below.refl _ _⟩
        case round =>
          obtain ⟨j, n, k, hj, rfl, rfl, rfl, HE⟩ := hrel
          by_cases hlt2 : j < l.length
          · have hd2 : decide ((j : Int) < (l.length : Int)) = true := by simp; omega
            obtain ⟨x, hx⟩ : ∃ x, l[j]? = some x := ⟨_, List.getElem?_eq_getElem hlt2⟩
            have hPM := HM.out.1.below HE.out.bel
            obtain ⟨tb, toff, tcap, hte, htl, k0, k1, k2⟩ := hPM.be.at hx
            simp only [Value.slice.injEq, true_and] at hte
            obtain ⟨rfl, rfl⟩ := hte
            have hnW : ∀ W, (binOp .neq 30 (.agg #[.int .i64 x.1, .int .i8 x.2.1, .string x.2.2]) (.agg #[.int .i64 x.1, .int .i8 x.2.1, .string x.2.2])).run Try.prog W = .ok (.bool false) W := fun W => by
              have := neqWaV x x W
              rw [waEq_self] at this
              exact this
            have hg : gB true c x = true := by simp [gB]
            have HEX : Hid (n + 1 = ((l.take (j + 1)).filter (gB true c)).length ∧ k = ((l.take (j + 1)).filter (fun x => !gB true c x)).length) := by
              refine ⟨?_, ?_⟩
              · rw [filt_yes hx hg, List.length_append, ← HE.out.hn]; rfl
              · rw [filt_no (p := fun x => !gB true c x) hx (by simp [hg]), ← HE.out.hm]
            have hat : (l.filter (gB true c))[n]? = some x := by rw [HE.out.hn]; exact filt_at hx hg
            obtain ⟨gb, goff, gcap, hge, hgl, f0, f1, f2⟩ := hPM.go.at hat
            have hng : n < gn1 := by
              have := (List.getElem?_eq_some_iff.1 hat).1
              have := HM.out.2.2.2.1
              omega
            simp only [Value.slice.injEq] at hge
            have hgo := hge.1
            clear hge hat
            subst hgo
            have dn : decide ((gn1 : Int) ≤ (n : Int)) = false := by simp; omega
            have dn2 : decide ((n : Int) < (gn1 : Int)) = true := by simp; omega
            have hn64 : n ≤ 64 := by
              have h1 := HE.out.hn
              have := Nat.le_trans (List.length_filter_le (gB true c) (l.take j)) (by rw [List.length_take]; exact Nat.min_le_right _ _)
              have := HM.out.2.1.le
              omega
            clear hx hg hPM
            go_upto_region 24 with fail
            go_quiet (fail)
            have HN : Hid (PaE2 w7 (wr.drewN nq) l true c (j + 1) (n + 1) k) := ⟨HEX.out.1, HEX.out.2, below_drewN HE.out.bel nq⟩
            clear HEX HE f0 f1 f2 k0 k1 k2 htl hgl
            generalize wr.drewN nq = wr2 at *
            go_wp2
            go_roundw
            case rel => exact ⟨j + 1, n + 1, k, by omega, by simp, by simp, rfl, HN⟩
            case measure => simp [intOf]; omega
          · have hd2 : decide ((j : Int) < (l.length : Int)) = false := by simp; omega
            have e1 : n = gn1 := by have := HE.out.hn; rw [List.take_of_length_le (by omega)] at this; have := HM.out.2.2.2.1; omega
            have e2 : k = an1 := by have := HE.out.hm; rw [List.take_of_length_le (by omega)] at this; have := HM.out.2.2.2.2; omega
            have hq1 : ((n : Int) == (gn1 : Int)) = true := by rw [e1]; simp
            have hq2 : ((k : Int) == (an1 : Int)) = true := by rw [e2]; simp
            have HW : Hid (Below w.heap.size w wr ∧ SW wr (.slice bo1 l.length bc1) l) := ⟨(HM.out.1.below HE.out.bel).bel, (HM.out.1.below HE.out.bel).be⟩
            clear e1 e2 HE
            obtain ⟨wo2, hwo2⟩ : ∃ wo2, wo2 = wr := ⟨_, rfl⟩
            subst hwo2
            go_wp2
            go_loopw [16] (fun vi wr => ∃ j : Nat, j ≤ ax.length ∧ vi = .int .i64 (j : Int) ∧ Hid (Below wo2.heap.size wo2 wr)) (fun vi _ => ax.length - (intOf vi).toNat)
            case atStart => exact ⟨0, by omega, rfl, Below.refl _ _⟩
            case round =>
              obtain ⟨i3, hi3, rfl, HB⟩ := hrel
              by_cases hlt3 : i3 < ax.length
              · have hd3 : decide ((i3 : Int) < (ax.length : Int)) = true := by simp; omega
                obtain ⟨x, hx⟩ : ∃ x, ax[i3]? = some x := ⟨_, List.getElem?_eq_getElem hlt3⟩
                have hbw := HW.out.1.trans (HB.out.mono HW.out.1.size)
                obtain ⟨tb, toff, tcap, hte, htl, k0, k1, k2⟩ := (HX.out.1.belowW hbw).at hx
                simp only [Value.slice.injEq, true_and] at hte
                obtain ⟨rfl, rfl⟩ := hte
                have HXX : Hid (ax[i3]? = some x ∧ x.2.2.size ≤ 4294967295 ∧ x ∈ ax) := ⟨hx, HX.out.2 x (List.mem_of_getElem? hx), List.mem_of_getElem? hx⟩
                clear hx hbw
                go_wp2_with fail
                go_at_call 10
                refine Calls.mono (refIs18 x wr HXX.out.2.1) ?_
                rintro e w9 ⟨rfl, b9⟩
                have HB9 : Hid (Below wo2.heap.size wo2 w9) := HB.out.trans (b9.mono HB.out.size)
                clear b9 k0 k1 k2 htl
                cases hok : waOk x
                · go_wp2
                  go_roundw
                  case rel => exact ⟨i3 + 1, by omega, by simp, HB9⟩
                  case measure => simp [intOf]; omega
                · by_cases h64 : l.length < 64
                  · have hd4 : decide ((l.length : Int) < 64) = true := by simp; omega
                    have hmem := HM.out.2.2.1 h64 x HXX.out.2.2 hok
                    have hc1 := count_one HM.out.2.1.nd hmem
                    have hbw := HW.out.1.trans (HB9.out.mono HW.out.1.size)
                    obtain ⟨tb2, toff2, tcap2, hte, htl, k0, k1, k2⟩ := (HX.out.1.belowW hbw).at HXX.out.1
                    simp only [Value.slice.injEq, Option.some.injEq, Addr.mk.injEq, and_true, true_and] at hte
                    obtain ⟨⟨rfl, rfl⟩, rfl⟩ := hte
                    have HHs : Hid (Calls Try.prog 11 #[.slice bo1 l.length bc1, .agg (waCs x)] w9 fun e w' => e = .returned (.int .i64 1) ∧ Hid (Below wo2.heap.size wo2 w')) := by
                      refine (has_any x (HW.out.2.below HB9.out) (by have := HM.out.2.1.le; omega)).mono (fun e w' hh => ⟨?_, HB9.out.trans (hh.2.mono HB9.out.size)⟩)
                      have := hh.1
                      rw [hc1] at this
                      exact this
                    clear hmem hc1 hbw
                    go_wp2_with fail
                    go_at_call 11
                    refine Calls.mono HHs.out ?_
                    rintro e w10 ⟨rfl, HB10⟩
                    clear k0 k1 k2 htl HHs HB9
                    go_wp2
                    go_roundw
                    case rel => exact ⟨i3 + 1, by omega, by simp, HB10⟩
                    case measure => simp [intOf]; omega
                  · have hd4 : decide ((l.length : Int) < 64) = false := by simp; omega
                    go_wp2
                    go_roundw
                    case rel => exact ⟨i3 + 1, by omega, by simp, HB9⟩
                    case measure => simp [intOf]; omega
              · have hd3 : decide ((i3 : Int) < (ax.length : Int)) = false := by simp; omega
                have HE9 : Hid (Below w.heap.size w wr) := HW.out.1.trans (HB.out.mono HW.out.1.size)
                clear HB HW
                go_wp2
                all_goals (go_ret; exact ⟨rfl, HE9.out⟩)

end Go.Proofs.Ytgdbcdddcejehaa
