/- WatchOnce's walk. -/
import Derived.Test.YtgdbcdddcejehaaWaVJ
import Derived.Test.YtgdbcdddcejehaaWaOJ
namespace Go.Proofs.Ytgdbcdddcejehaa
open Go.RowKit Go.Shelf
set_option maxRecDepth 8000
set_option linter.unusedSimpArgs false

/-- A step's box. -/
abbrev stBox (s : StT) : Obj := .cells #[.int .i64 s.place, .int .i64 s.what, .int .i64 s.wa.1, .int .i8 s.wa.2.1, .string s.wa.2.2, .int .i8 s.ch.1, .string s.ch.2] 34 (0, 0)

theorem neqChV (x : ChT) (w : World) : (binOp .neq 32 (.agg (chCs x)) (.agg (chCs x))).run Try.prog w = .ok (.bool false) w := by
  obtain ⟨a, b⟩ := x
  have hu : Try.prog.underlying 32 = some (.struct (Try.prog.fieldsOf 32)) := by kernel_rfl
  have hp : Try.prog.stoodInHeld 32 = false := by kernel_rfl
  have u3 := Try.underlying9
  have a3 := Try.isAgg9
  have z3 := Try.sizeOf9
  have u4 := Try.underlying28
  have a4 := Try.isAgg28
  have z4 := Try.sizeOf28
  rw [run_neq_struct, show (10000 : Nat) = 9999 + 1 from rfl, run_equalIn_agg w 9999 _ _ _ hu hp]
  simp only [Program.fieldsOf, Try.underlying32]
  go_simp

set_option maxHeartbeats 8000000 in
theorem once_walk {w : World} {sv : Value} {sc : List StT} (hsc : SeesSt w sv sc) (hscl : sc.length ≤ 140737488355328) : Calls Try.prog 3 #[sv] w fun e w' => e = .returned (.bool true) ∧ Below w.heap.size w w' := by
  have HL : Hid _ := long18 hsc hscl
  have HS : Hid (SeesSt w sv sc) := hsc
  obtain ⟨so, sp, rfl, hsp, hsx⟩ := hsc
  have HX : Hid (sc ≠ [] → ∃ b off, so = some ⟨b, off, none⟩ ∧ ∀ i s, sc[i]? = some s → ∀ j u, s.cells[j]? = some u → w.cell? ⟨b, off + i * 7 + j, none⟩ = some u) := hsx
  clear hsx
  go_enter Try.func3, Try.ntmps3
  go_wp2_with fail
  refine Calls.mono HL.out ?_
  rintro e w1 ⟨bl, rfl, hbl, hB1⟩
  have HB1 : Hid (Below w.heap.size w w1) := hB1
  clear HL hB1
  cases bl
  · have hfew := hbl rfl
    clear hbl
    have HF : Hid (∀ s ∈ sc, s.few) := hfew.2
    replace hscl := hfew.1
    clear hfew
    go_wp2_with fail
    go_at_call 7
    refine Calls.mono (lives18 w1) ?_
    rintro e w2 ⟨rfl, hB2⟩
    have HB2 : Hid (Below w.heap.size w w2) := HB1.out.trans (hB2.mono HB1.out.size)
    clear HB1 hB2
    go_wp2_with fail
    go_at_call 8
    refine Calls.mono (newB_any w2) ?_
    rintro e w3 ⟨rfl, h3, hB3⟩
    have H0 : Hid (OnI w w3 (w2.heap.size + 1) w2.heap.size (.slice none 0 0) (.slice none 0 0) []) := by
      refine ⟨h3, Wats.nil, fun k hf => ?_, World.ownsRow_nil _ _ _ _, (fun k hk => by cases hk), HB2.out.trans (hB3.mono HB2.out.size)⟩
      have := HB2.out.size
      rcases hf with rfl | rfl | hf
      · omega
      · omega
      · cases hf
    clear h3 hB3 HB2
    obtain ⟨b, hb⟩ : ∃ b, b = w2.heap.size + 1 := ⟨_, rfl⟩
    obtain ⟨m, hm⟩ : ∃ m, m = w2.heap.size := ⟨_, rfl⟩
    rw [← hb, ← hm] at H0
    rw [← hb]
    clear hb hm
    go_wp2
    go_loopw [5, 6] (fun vs vi wr => ∃ i : Nat, i ≤ sc.length ∧ vi = .int .i64 (i : Int) ∧ Hid (∃ v l, OnI w wr b m v vs l)) (fun _ vi _ => sc.length - (intOf vi).toNat)
    case atStart => exact ⟨0, by omega, rfl, _, _, H0.out⟩
    case round =>
      obtain ⟨i, hi, rfl, HD⟩ := hrel
      clear H0
      by_cases hlt : i < sc.length
      · have hd : decide ((i : Int) < (sc.length : Int)) = true := by simp; omega
        obtain ⟨s, hs⟩ : ∃ s, sc[i]? = some s := ⟨_, List.getElem?_eq_getElem hlt⟩
        obtain ⟨sb, off, hso, hcx⟩ := HX.out (fun e => by rw [e] at hlt; simp at hlt)
        obtain ⟨v, l, hO⟩ := HD.out
        have k0 : wr.cell? ⟨sb, off + i * 7, none⟩ = some (.int .i64 s.place) := cellB hO.bel (hcx i s hs 0 _ rfl)
        have k1 := cellB hO.bel (hcx i s hs 1 _ rfl)
        have k2 := cellB hO.bel (hcx i s hs 2 _ rfl)
        have k3 := cellB hO.bel (hcx i s hs 3 _ rfl)
        have k4 := cellB hO.bel (hcx i s hs 4 _ rfl)
        have k5 := cellB hO.bel (hcx i s hs 5 _ rfl)
        have k6 := cellB hO.bel (hcx i s hs 6 _ rfl)
        have hz0 : sb < wr.heap.size := World.block_lt_of_cell? wr _ k0
        have B1 : Below wr.heap.size wr (wr.alloc (stBox s)) := (Below.refl _ _).alloc (Nat.le_refl _) _
        have hbx : (wr.alloc (stBox s)).heap[wr.heap.size]? = some (stBox s) := heap_alloc_new wr _
        have HV : Hid (OnI w (wr.alloc (stBox s)) b m v u5 l ∧ (wr.alloc (stBox s)).heap[wr.heap.size]? = some (stBox s) ∧ s.few ∧ wr.heap.size < (wr.alloc (stBox s)).heap.size) := ⟨hO.below B1, hbx, HF.out s (List.mem_of_getElem? hs), by simp⟩
        have hkeep : ∀ V, Below (wr.alloc (stBox s)).heap.size (wr.alloc (stBox s)) V → V.heap[wr.heap.size]? = some (stBox s) := fun V hV => box_later hbx hV
        have d0 := cell_of_row _ wr.heap.size 0 _ _ _ hbx
        have d1 := cell_of_row _ wr.heap.size 1 _ _ _ hbx
        have d2 := cell_of_row _ wr.heap.size 2 _ _ _ hbx
        have d3 := cell_of_row _ wr.heap.size 3 _ _ _ hbx
        have d4 := cell_of_row _ wr.heap.size 4 _ _ _ hbx
        have d5 := cell_of_row _ wr.heap.size 5 _ _ _ hbx
        have d6 := cell_of_row _ wr.heap.size 6 _ _ _ hbx
        have hz1 : wr.heap.size < (wr.alloc (stBox s)).heap.size := by simp
        obtain ⟨uo, un, uc, huu⟩ : ∃ a n c, u5 = .slice a n c := by
          obtain ⟨a, c, e⟩ := rowS hO.th
          exact ⟨a, _, c, e⟩
        have hun : un = l.length := by
          obtain ⟨a, c, e⟩ := rowS hO.th
          rw [huu] at e
          simp at e
          exact e.2.1
        subst huu hun hso
        clear hcx hs hO HD B1 hbx hkeep
        by_cases hw0 : s.what = 0
        · have e0 : (s.what == 0) = true := by simp [hw0]
          have e1 : (s.what == 1) = false := by simp [hw0]
          clear hw0
          go_upto_region 13 with fail
          generalize wr.alloc (stBox s) = V at *
          cases hok : waOk s.wa
          · -- no watch
            go_wp2_with fail
            go_at_call 9
            refine Calls.mono (add_no s.wa HV.out.1.bo (by have := HV.out.2.2.1.1; omega) hok) ?_
            rintro e V2 ⟨rfl, b2⟩
            have HV2 : Hid (OnI w V2 b m v (.slice uo l.length uc) l ∧ V2.heap[wr.heap.size]? = some (stBox s)) := ⟨HV.out.1.below b2, box_later HV.out.2.1 b2⟩
            have HSW : Hid (∀ V, Below V2.heap.size V2 V → SW V (.slice uo l.length uc) l) := fun V hV => (HV2.out.1.below hV).seesV
            clear b2 d0 d1 d2 d3 d4 d5 d6 hz1
            have hz1 := lt_of_block HV2.out.2
            have d2 := cell_of_row _ wr.heap.size 2 _ _ _ HV2.out.2
            have d3 := cell_of_row _ wr.heap.size 3 _ _ _ HV2.out.2
            have d4 := cell_of_row _ wr.heap.size 4 _ _ _ HV2.out.2
            go_wp2_with fail
            go_at_call 10
            refine Calls.mono (refIs18 s.wa V2 (by have := HV.out.2.2.1.1; omega)) ?_
            rintro e V3 ⟨rfl, b3⟩
            rw [hok]
            have HB3 : Hid (Below V2.heap.size V2 V3 ∧ V3.heap[wr.heap.size]? = some (stBox s)) := ⟨b3, box_later HV2.out.2 b3⟩
            clear b3 d2 d3 d4 hz1
            have hz1 := lt_of_block HB3.out.2
            have d2 := cell_of_row _ wr.heap.size 2 _ _ _ HB3.out.2
            have d3 := cell_of_row _ wr.heap.size 3 _ _ _ HB3.out.2
            have d4 := cell_of_row _ wr.heap.size 4 _ _ _ HB3.out.2
            go_wp2_with fail
            go_at_call 11
            refine Calls.mono (has_any s.wa (HSW.out V3 HB3.out.1) (by have := HV.out.1.ws.le; omega)) ?_
            rintro e V4 ⟨rfl, b4⟩
            have HB4 : Hid (Below V2.heap.size V2 V4 ∧ V4.heap[wr.heap.size]? = some (stBox s)) := ⟨HB3.out.1.trans (b4.mono HB3.out.1.size), box_later HB3.out.2 b4⟩
            clear b4 d2 d3 d4 hz1 HB3
            have hz1 := lt_of_block HB4.out.2
            have d1 := cell_of_row _ wr.heap.size 1 _ _ _ HB4.out.2
            have d2 := cell_of_row _ wr.heap.size 2 _ _ _ HB4.out.2
            have d3 := cell_of_row _ wr.heap.size 3 _ _ _ HB4.out.2
            have d4 := cell_of_row _ wr.heap.size 4 _ _ _ HB4.out.2
            generalize (l.filter (fun y => waEq y s.wa)).length = cnt at *
            have HN : Hid (OnI w V4 b m v (.slice uo l.length uc) l) := HV2.out.1.below HB4.out.1
            clear HV HV2 HB4
            go_wp2
            go_roundw
            case rel => exact ⟨i + 1, by omega, by simp, _, _, HN.out⟩
            case measure => simp [intOf]; omega
          · by_cases hmm : s.wa ∈ l
            · have hcnt := count_old hmm
              have dc : decide (0 < ((l.filter (fun y => waEq y s.wa)).length : Int)) = true := decide_eq_true (Int.natCast_pos.2 hcnt)
              go_wp2_with fail
              go_at_call 9
              refine Calls.mono (add_old s.wa HV.out.1.bo (by have := HV.out.2.2.1.1; omega) hok hmm) ?_
              rintro e V2 ⟨rfl, b2⟩
              have HV2 : Hid (OnI w V2 b m v (.slice uo l.length uc) l ∧ V2.heap[wr.heap.size]? = some (stBox s)) := ⟨HV.out.1.below b2, box_later HV.out.2.1 b2⟩
              have HSW : Hid (∀ V, Below V2.heap.size V2 V → SW V (.slice uo l.length uc) l) := fun V hV => (HV2.out.1.below hV).seesV
              clear b2 d0 d1 d2 d3 d4 d5 d6 hz1
              have hz1 := lt_of_block HV2.out.2
              have d2 := cell_of_row _ wr.heap.size 2 _ _ _ HV2.out.2
              have d3 := cell_of_row _ wr.heap.size 3 _ _ _ HV2.out.2
              have d4 := cell_of_row _ wr.heap.size 4 _ _ _ HV2.out.2
              go_wp2_with fail
              go_at_call 10
              refine Calls.mono (refIs18 s.wa V2 (by have := HV.out.2.2.1.1; omega)) ?_
              rintro e V3 ⟨rfl, b3⟩
              rw [hok]
              have HB3 : Hid (Below V2.heap.size V2 V3 ∧ V3.heap[wr.heap.size]? = some (stBox s)) := ⟨b3, box_later HV2.out.2 b3⟩
              clear b3 d2 d3 d4 hz1
              have hz1 := lt_of_block HB3.out.2
              have d2 := cell_of_row _ wr.heap.size 2 _ _ _ HB3.out.2
              have d3 := cell_of_row _ wr.heap.size 3 _ _ _ HB3.out.2
              have d4 := cell_of_row _ wr.heap.size 4 _ _ _ HB3.out.2
              go_wp2_with fail
              go_at_call 11
              refine Calls.mono (has_any s.wa (HSW.out V3 HB3.out.1) (by have := HV.out.1.ws.le; omega)) ?_
              rintro e V4 ⟨rfl, b4⟩
              have HB4 : Hid (Below V2.heap.size V2 V4 ∧ V4.heap[wr.heap.size]? = some (stBox s)) := ⟨HB3.out.1.trans (b4.mono HB3.out.1.size), box_later HB3.out.2 b4⟩
              clear b4 d2 d3 d4 hz1 HB3
              have hz1 := lt_of_block HB4.out.2
              have d1 := cell_of_row _ wr.heap.size 1 _ _ _ HB4.out.2
              have d2 := cell_of_row _ wr.heap.size 2 _ _ _ HB4.out.2
              have d3 := cell_of_row _ wr.heap.size 3 _ _ _ HB4.out.2
              have d4 := cell_of_row _ wr.heap.size 4 _ _ _ HB4.out.2
              generalize (l.filter (fun y => waEq y s.wa)).length = cnt at *
              have HN : Hid (OnI w V4 b m v (.slice uo l.length uc) l) := HV2.out.1.below HB4.out.1
              clear HV HV2 HB4
              go_wp2
              go_roundw
              case rel => exact ⟨i + 1, by omega, by simp, _, _, HN.out⟩
              case measure => simp [intOf]; omega
            · have hnm : s.wa ∉ l := hmm
              have hcnt := count_new hmm
              have dc : decide (0 < ((l.filter (fun y => waEq y s.wa)).length : Int)) = false := by rw [hcnt]; rfl
              by_cases h64 : l.length < 64
              · have dl : decide ((l.length : Int) < 64) = true := by simp; omega
                go_wp2_with fail
                go_at_call 9
                refine Calls.mono (add_new s.wa HV.out.1.bo (by have := HV.out.2.2.1.1; omega) hok hmm h64) ?_
                rintro e V2 ⟨rfl, v', hbo, hkp, hnr⟩
                have HV2 : Hid ((Bo V2 b m v' (l ++ [s.wa]) (l ++ [s.wa]) ∧ Kept V V2 (Ft b m v) ∧ NewRow V v v') ∧ V2.heap[wr.heap.size]? = some (stBox s)) := by
                  refine ⟨⟨hbo, hkp, hnr⟩, hkp.heap HV.out.2.1 (fun hf => ?_)⟩
                  exact HV.out.1.bo.notBox HV.out.2.1 (by decide) (by decide) hf
                have HSW : Hid (∀ W, Below V2.heap.size V2 W → SW W (.slice uo l.length uc) l) := fun W hW => SW_owns (rowK (HV.out.1.call hkp hnr).1 (Below.kept hW) (fun k hk => by have := ((HV.out.1.call hkp hnr).1.lt k hk).2; omega))
                clear hbo hkp hnr d0 d1 d2 d3 d4 d5 d6 hz1
                have hz1 := lt_of_block HV2.out.2
                have d2 := cell_of_row _ wr.heap.size 2 _ _ _ HV2.out.2
                have d3 := cell_of_row _ wr.heap.size 3 _ _ _ HV2.out.2
                have d4 := cell_of_row _ wr.heap.size 4 _ _ _ HV2.out.2
                go_wp2_with fail
                go_at_call 10
                refine Calls.mono (refIs18 s.wa V2 (by have := HV.out.2.2.1.1; omega)) ?_
                rintro e V3 ⟨rfl, b3⟩
                rw [hok]
                have HB3 : Hid (Below V2.heap.size V2 V3 ∧ V3.heap[wr.heap.size]? = some (stBox s)) := ⟨b3, box_later HV2.out.2 b3⟩
                clear b3 d2 d3 d4 hz1
                have hz1 := lt_of_block HB3.out.2
                have d2 := cell_of_row _ wr.heap.size 2 _ _ _ HB3.out.2
                have d3 := cell_of_row _ wr.heap.size 3 _ _ _ HB3.out.2
                have d4 := cell_of_row _ wr.heap.size 4 _ _ _ HB3.out.2
                go_wp2_with fail
                go_at_call 11
                refine Calls.mono (has_any s.wa (HSW.out V3 HB3.out.1) (by have := HV.out.1.ws.le; omega)) ?_
                rintro e V4 ⟨rfl, b4⟩
                have HB4 : Hid (Below V2.heap.size V2 V4 ∧ V4.heap[wr.heap.size]? = some (stBox s)) := ⟨HB3.out.1.trans (b4.mono HB3.out.1.size), box_later HB3.out.2 b4⟩
                clear b4 d2 d3 d4 hz1 HB3
                have hz1 := lt_of_block HB4.out.2
                have d1 := cell_of_row _ wr.heap.size 1 _ _ _ HB4.out.2
                have d2 := cell_of_row _ wr.heap.size 2 _ _ _ HB4.out.2
                have d3 := cell_of_row _ wr.heap.size 3 _ _ _ HB4.out.2
                have d4 := cell_of_row _ wr.heap.size 4 _ _ _ HB4.out.2
                generalize (l.filter (fun y => waEq y s.wa)).length = cnt at *
                obtain ⟨ao, an, ac, V6, hr, hON, hst6⟩ := HV.out.1.grow HV2.out.1.1 HV2.out.1.2.1 HV2.out.1.2.2 hnm h64 hok (by have := HV.out.2.2.1.1; omega) V4 HB4.out.1
                have hd1 : V6.cell? ⟨wr.heap.size, 1, none⟩ = some (.int .i64 s.what) := by
                  have hb6 : V6.heap[wr.heap.size]? = some (stBox s) := hst6 _ _ _ HB4.out.2 (by decide)
                  rw [cell_of_row _ wr.heap.size 1 _ _ _ hb6]; rfl
                have hz6 : wr.heap.size < V6.heap.size := World.block_lt_of_cell? V6 _ hd1
                have HN : Hid (OnI w V6 b m v' (.slice ao an ac) (l ++ [s.wa])) := hON
                clear HV HV2 HB4 hON hst6
                go_wp2_with (at_builtin; refine Lib.wpList_append_run_sl _ rfl _ _ 27 rfl _ _ rfl rfl (hr _) ?_)
                go_roundw
                case rel => exact ⟨i + 1, by omega, by simp, _, _, HN.out⟩
                case measure => simp [intOf]; omega
              · have dl : decide ((l.length : Int) < 64) = false := by simp; omega
                go_wp2_with fail
                go_at_call 9
                refine Calls.mono (add_full s.wa HV.out.1.bo (by have := HV.out.2.2.1.1; omega) hok hmm (by omega)) ?_
                rintro e V2 ⟨rfl, b2⟩
                have HV2 : Hid (OnI w V2 b m v (.slice uo l.length uc) l ∧ V2.heap[wr.heap.size]? = some (stBox s)) := ⟨HV.out.1.below b2, box_later HV.out.2.1 b2⟩
                have HSW : Hid (∀ V, Below V2.heap.size V2 V → SW V (.slice uo l.length uc) l) := fun V hV => (HV2.out.1.below hV).seesV
                clear b2 d0 d1 d2 d3 d4 d5 d6 hz1
                have hz1 := lt_of_block HV2.out.2
                have d2 := cell_of_row _ wr.heap.size 2 _ _ _ HV2.out.2
                have d3 := cell_of_row _ wr.heap.size 3 _ _ _ HV2.out.2
                have d4 := cell_of_row _ wr.heap.size 4 _ _ _ HV2.out.2
                go_wp2_with fail
                go_at_call 10
                refine Calls.mono (refIs18 s.wa V2 (by have := HV.out.2.2.1.1; omega)) ?_
                rintro e V3 ⟨rfl, b3⟩
                rw [hok]
                have HB3 : Hid (Below V2.heap.size V2 V3 ∧ V3.heap[wr.heap.size]? = some (stBox s)) := ⟨b3, box_later HV2.out.2 b3⟩
                clear b3 d2 d3 d4 hz1
                have hz1 := lt_of_block HB3.out.2
                have d2 := cell_of_row _ wr.heap.size 2 _ _ _ HB3.out.2
                have d3 := cell_of_row _ wr.heap.size 3 _ _ _ HB3.out.2
                have d4 := cell_of_row _ wr.heap.size 4 _ _ _ HB3.out.2
                go_wp2_with fail
                go_at_call 11
                refine Calls.mono (has_any s.wa (HSW.out V3 HB3.out.1) (by have := HV.out.1.ws.le; omega)) ?_
                rintro e V4 ⟨rfl, b4⟩
                have HB4 : Hid (Below V2.heap.size V2 V4 ∧ V4.heap[wr.heap.size]? = some (stBox s)) := ⟨HB3.out.1.trans (b4.mono HB3.out.1.size), box_later HB3.out.2 b4⟩
                clear b4 d2 d3 d4 hz1 HB3
                have hz1 := lt_of_block HB4.out.2
                have d1 := cell_of_row _ wr.heap.size 1 _ _ _ HB4.out.2
                have d2 := cell_of_row _ wr.heap.size 2 _ _ _ HB4.out.2
                have d3 := cell_of_row _ wr.heap.size 3 _ _ _ HB4.out.2
                have d4 := cell_of_row _ wr.heap.size 4 _ _ _ HB4.out.2
                generalize (l.filter (fun y => waEq y s.wa)).length = cnt at *
                have HN : Hid (OnI w V4 b m v (.slice uo l.length uc) l) := HV2.out.1.below HB4.out.1
                clear HV HV2 HB4
                go_wp2
                go_roundw
                case rel => exact ⟨i + 1, by omega, by simp, _, _, HN.out⟩
                case measure => simp [intOf]; omega
        · by_cases hw1 : s.what = 1
          · have e0 : (s.what == 0) = false := by simp [hw1]
            have e1 : (s.what == 1) = true := by simp [hw1]
            clear hw0 hw1
            go_upto_region 22 with fail
            generalize wr.alloc (stBox s) = V at *
            have HFi : Hid _ := fire_any s.ch HV.out.1.bo HV.out.1.ws (by have := HV.out.2.2.1.2; omega)
            go_wp2_with fail
            go_at_call 12
            refine Calls.mono HFi.out ?_
            rintro e V2 ⟨u, rfl, hto, v', hbo, hkp, hvv⟩
            have HM2 : Hid (Mid w V V2 b m v' (.slice uo l.length uc) u s.ch l wr.heap.size (stBox s)) := Mid.start HV.out.1 HV.out.2.1 (by decide) (by decide) hbo hkp hvv hto
            obtain ⟨fo, fn, fc, hff⟩ : ∃ a n c, u = .slice a n c := by
              obtain ⟨a, c, e⟩ := rowS hto
              exact ⟨a, _, c, e⟩
            have HFN : Hid (fn = (l.filter (mB s.ch)).length) := by
              show _ = _
              obtain ⟨a, c, e⟩ := rowS hto
              rw [hff] at e
              simp at e
              exact e.2.1
            subst hff
            clear HFi hto hbo hkp hvv d0 d1 d2 d3 d4 d5 d6 hz1
            have d5 := cell_of_row _ wr.heap.size 5 _ _ _ HM2.out.box
            have d6 := cell_of_row _ wr.heap.size 6 _ _ _ HM2.out.box
            have hz1 := lt_of_block HM2.out.box
            go_wp2_with fail
            go_at_call 13
            refine Calls.mono (refIsChange18 s.ch V2 (by have := HV.out.2.2.1.2; omega)) ?_
            rintro e V3 ⟨rfl, b3⟩
            have HP : Hid (Mid w V V3 b m v' (.slice uo l.length uc) (.slice fo fn fc) s.ch l wr.heap.size (stBox s) ∧ fn = (l.filter (mB s.ch)).length ∧ s.few) := ⟨HM2.out.below b3, HFN.out, HV.out.2.2.1⟩
            obtain ⟨bs, hbs⟩ : ∃ bs, bs = wr.heap.size := ⟨_, rfl⟩
            rw [← hbs] at HP ⊢
            clear HM2 b3 d5 d6 hz1 HV HFN k0 k1 k2 k3 k4 k5 k6 hz0 hbs
            obtain ⟨wo, hwo⟩ : ∃ wo, wo = wr := ⟨_, rfl⟩
            subst hwo
            have hl64 := HP.out.1.ws.le
            cases hcc : chOk s.ch
            · go_wp2
              go_loopw [14, 15, 16] (fun vl vn vk wr => ∃ k n : Nat, k ≤ l.length ∧ vk = .int .i64 (k : Int) ∧ vn = .int .i64 (n : Int) ∧ n = ((l.take k).filter (mB s.ch)).length ∧ Hid (wr.ownsRow V3.heap.size 30 3 vl ((l.take k).filter (sB s.ch)).length (waFlat ((l.take k).filter (sB s.ch))) ∧ Below V3.heap.size V3 wr)) (fun _ _ vk _ => l.length - (intOf vk).toNat)
              case atStart => exact ⟨0, 0, by omega, rfl, rfl, by simp, World.ownsRow_nil _ _ _ _, Below.refl _ _⟩
              case round =>
                obtain ⟨k, n, hk, rfl, rfl, hn, HL⟩ := hrel
                obtain ⟨lo, ln, lc, hll⟩ : ∃ a n c, u14 = .slice a n c := by
                  obtain ⟨a, c, e⟩ := rowS HL.out.1
                  exact ⟨a, _, c, e⟩
                have hn64 : n ≤ l.length := by rw [hn]; exact Nat.le_trans (List.length_filter_le _ _) (by rw [List.length_take]; omega)
                have HNE : Hid (n = ((l.take k).filter (mB s.ch)).length) := hn
                clear hn
                by_cases hlt2 : k < l.length
                · have hd2 : decide ((k : Int) < (l.length : Int)) = true := by simp; omega
                  obtain ⟨x, hx⟩ : ∃ x, l[k]? = some x := ⟨_, List.getElem?_eq_getElem hlt2⟩
                  have HI : Hid (l[k]? = some x ∧ (x.2.1 = 1 ∨ x.2.1 = 2 ∨ x.2.1 = 3 ∨ x.2.1 = 4) ∧ x.2.2.size ≤ 4294967295) := ⟨hx, HP.out.1.ws.kind x (List.mem_of_getElem? hx), (HP.out.1.ws.ok x (List.mem_of_getElem? hx)).2⟩
                  obtain ⟨tao, tcap, hte, htc, hth⟩ := SW_owns HP.out.1.th
                  simp only [Value.slice.injEq, true_and] at hte
                  obtain ⟨rfl, rfl⟩ := hte
                  obtain ⟨tb, toff, hto, hcx⟩ := hth (fun e => by rw [e] at hlt2; simp at hlt2)
                  obtain ⟨q0, q1, q2⟩ := hcx k x hx
                  subst hto
                  have HG : Hid (∀ W, Below wr.heap.size wr W → W.cell? ⟨bs, 5, none⟩ = some (.int .i8 s.ch.1) ∧ W.cell? ⟨bs, 6, none⟩ = some (.string s.ch.2) ∧ W.cell? ⟨tb, toff + k * 3, none⟩ = some (.int .i64 x.1) ∧ W.cell? ⟨tb, toff + k * 3 + 1, none⟩ = some (.int .i8 x.2.1) ∧ W.cell? ⟨tb, toff + k * 3 + 2, none⟩ = some (.string x.2.2)) := fun W hW => by
                    have hB := HL.out.2.trans (hW.mono HL.out.2.size)
                    have hb := box_later HP.out.1.box hB
                    exact ⟨cell_of_row W bs 5 _ _ _ hb, cell_of_row W bs 6 _ _ _ hb, cellB hB q0, cellB hB q1, cellB hB q2⟩
                  clear hx q0 q1 q2 hcx hth
                  have hz1 := lt_of_block (box_later HP.out.1.box HL.out.2)
                  have HMB : Hid (mB s.ch x = false) := by show _ = _; unfold mB; rw [hcc]; rfl
                  have HB5 : Hid (Below wr.heap.size wr wr.drew) := below_drewN (Below.refl _ _) 1
                  go_upto_region 29 with fail
                  refine wp_region_held_drew (S := (fun _ => True)) (by kernel_rfl) ?_ (fun hHeld => ?_)
                  · trivial
                  generalize wr.drew = w5 at *
                  refine wpAnyH_take (i := 0) (oi := { dst := some 94, op := Op.move (Operand.tmp 13), type := 4, pos := "law.go:173", after := #[], guard := none }) (v := ?_) rfl (by kernel_rfl) (by kernel_rfl) (by kernel_rfl) (fun _ _ _ h => h) (Or.inl ⟨by rfl, ?_⟩) (by assumption) ?_
                  rotate_left
                  · (intro w hSw; (try dsimp only at hSw); go_simp) <;> with_reducible rfl
                  try simp only [Act.put, List.setIfInBounds_toArray, List.set_cons_zero, List.set_cons_succ]
                  refine wpAnyH_take (i := 1) (oi := { dst := some 95, op := Op.move (Operand.tmp 94), type := 4, pos := "law.go:173", after := #[{ on := 0, ground := Ground.data }], guard := none }) (v := ?_) rfl (by kernel_rfl) (by kernel_rfl) (by kernel_rfl) (fun _ _ _ h => h) (Or.inl ⟨by rfl, ?_⟩) (by assumption) ?_
                  rotate_left
                  · (intro w hSw; (try dsimp only at hSw); go_simp) <;> with_reducible rfl
                  try simp only [Act.put, List.setIfInBounds_toArray, List.set_cons_zero, List.set_cons_succ]
                  refine wpAnyH_take (i := 2) (oi := { dst := some 96, op := Op.fieldAddr 34 (Operand.tmp 7) 3, type := 0, pos := "law.go:173", after := #[{ on := 1, ground := Ground.guard }], guard := some (1, true) }) (v := undef) rfl (by kernel_rfl) (by kernel_rfl) (by kernel_rfl) (fun _ _ _ h => h) (Or.inr ⟨by rfl, rfl⟩) (by assumption) ?_
                  try simp only [Act.put, List.setIfInBounds_toArray, List.set_cons_zero, List.set_cons_succ]
                  refine wpAnyH_take (i := 3) (oi := { dst := some 97, op := Op.load 32 (Operand.tmp 96), type := 32, pos := "law.go:173", after := #[{ on := 2, ground := Ground.data }, { on := 1, ground := Ground.guard }], guard := some (1, true) }) (v := undef) rfl (by kernel_rfl) (by kernel_rfl) (by kernel_rfl) (fun _ _ _ h => h) (Or.inr ⟨by rfl, rfl⟩) (by assumption) ?_
                  try simp only [Act.put, List.setIfInBounds_toArray, List.set_cons_zero, List.set_cons_succ]
                  refine wpAnyH_take (i := 4) (oi := { dst := some 98, op := Op.move (Operand.tmp 5), type := 27, pos := "law.go:173", after := #[{ on := 1, ground := Ground.guard }], guard := some (1, true) }) (v := undef) rfl (by kernel_rfl) (by kernel_rfl) (by kernel_rfl) (fun _ _ _ h => h) (Or.inr ⟨by rfl, rfl⟩) (by assumption) ?_
                  try simp only [Act.put, List.setIfInBounds_toArray, List.set_cons_zero, List.set_cons_succ]
                  refine wpAnyH_take (i := 5) (oi := { dst := some 99, op := Op.move (Operand.tmp 16), type := 3, pos := "law.go:173", after := #[{ on := 1, ground := Ground.guard }], guard := some (1, true) }) (v := undef) rfl (by kernel_rfl) (by kernel_rfl) (by kernel_rfl) (fun _ _ _ h => h) (Or.inr ⟨by rfl, rfl⟩) (by assumption) ?_
                  try simp only [Act.put, List.setIfInBounds_toArray, List.set_cons_zero, List.set_cons_succ]
                  refine wpAnyH_take (i := 6) (oi := { dst := some 100, op := Op.indexAddr 27 (Operand.tmp 98) (Operand.tmp 99), type := 0, pos := "law.go:173", after := #[{ on := 4, ground := Ground.data }, { on := 5, ground := Ground.data }, { on := 1, ground := Ground.guard }], guard := some (1, true) }) (v := undef) rfl (by kernel_rfl) (by kernel_rfl) (by kernel_rfl) (fun _ _ _ h => h) (Or.inr ⟨by rfl, rfl⟩) (by assumption) ?_
                  try simp only [Act.put, List.setIfInBounds_toArray, List.set_cons_zero, List.set_cons_succ]
                  refine wpAnyH_take (i := 7) (oi := { dst := some 101, op := Op.load 30 (Operand.tmp 100), type := 30, pos := "law.go:173", after := #[{ on := 6, ground := Ground.data }, { on := 1, ground := Ground.guard }], guard := some (1, true) }) (v := undef) rfl (by kernel_rfl) (by kernel_rfl) (by kernel_rfl) (fun _ _ _ h => h) (Or.inr ⟨by rfl, rfl⟩) (by assumption) ?_
                  try simp only [Act.put, List.setIfInBounds_toArray, List.set_cons_zero, List.set_cons_succ]
                  refine wpAnyH_ready (rs := [8]) (by kernel_rfl) (by simp) ?_
                  refine AllReadyH.cons (o := { dst := some 102, op := Op.call { callee := Callee.value (Operand.func 14), args := #[Operand.tmp 97, Operand.tmp 101], argTypes := #[32, 30] }, type := 4, pos := "law.go:173", after := #[{ on := 3, ground := Ground.data }, { on := 7, ground := Ground.data }, { on := 1, ground := Ground.chain }, { on := 1, ground := Ground.guard }], guard := some (1, true) }) rfl (fun K hK => ?_) AllReadyH.nil
                  go_simp
                  refine hK.out _ _ (by assumption) (fun _ => ?_)
                  clear hK K
                  refine wpAnyH_take (i := 9) (oi := { dst := some 103, op := Op.pick (Operand.tmp 95) (Operand.tmp 102) (Operand.const (Value.bool false)), type := 4, pos := "law.go:173", after := #[{ on := 1, ground := Ground.data }, { on := 8, ground := Ground.data }], guard := none }) (v := ?_) rfl (by kernel_rfl) (by kernel_rfl) (by kernel_rfl) (fun _ _ _ h => h) (Or.inl ⟨by rfl, ?_⟩) (by assumption) ?_
                  rotate_left
                  · (intro w hSw; (try dsimp only at hSw); go_simp) <;> with_reducible rfl
                  try simp only [Act.put, List.setIfInBounds_toArray, List.set_cons_zero, List.set_cons_succ]
                  refine wpAnyH_take (i := 10) (oi := { dst := some 17, op := Op.assign (Operand.tmp 103), type := 4, pos := "law.go:173", after := #[{ on := 9, ground := Ground.data }, { on := 8, ground := Ground.chain }, { on := 0, ground := Ground.phase }, { on := 1, ground := Ground.phase }, { on := 2, ground := Ground.phase }, { on := 3, ground := Ground.phase }, { on := 4, ground := Ground.phase }, { on := 5, ground := Ground.phase }, { on := 6, ground := Ground.phase }, { on := 7, ground := Ground.phase }, { on := 8, ground := Ground.phase }, { on := 9, ground := Ground.phase }], guard := none }) (v := ?_) rfl (by kernel_rfl) (by kernel_rfl) (by kernel_rfl) (fun _ _ _ h => h) (Or.inl ⟨by rfl, ?_⟩) (by assumption) ?_
                  rotate_left
                  · (intro w hSw; (try dsimp only at hSw); go_simp) <;> with_reducible rfl
                  try simp only [Act.put, List.setIfInBounds_toArray, List.set_cons_zero, List.set_cons_succ]
                  refine wpAnyH_done (by kernel_rfl) ?_ _
                  clear hHeld
                  subst hll
                  have HSB : Hid (sB s.ch x = true) := by show _ = _; unfold sB; rw [HMB.out]; rfl
                  have HNN : Hid (n + 0 = ((l.take (k + 1)).filter (mB s.ch)).length) := by show _ = _; rw [filt_no HI.out.1 HMB.out, ← HNE.out]; rfl
                  go_upto_region 30 with fail
                  go_quiet (fail)
                  have HL6 : Hid ((w5.drewN nq).ownsRow V3.heap.size 30 3 (.slice lo ln lc) ((l.take k).filter (sB s.ch)).length (waFlat ((l.take k).filter (sB s.ch))) ∧ Below V3.heap.size V3 (w5.drewN nq)) := ⟨rowK HL.out.1 (Below.kept (below_drewN HB5.out nq)) (fun k hk => by have := (HL.out.1.lt k hk).2; omega), below_drewN (HL.out.2.trans (HB5.out.mono HL.out.2.size)) nq⟩
                  obtain ⟨g5, g6, t0, t1, t2⟩ := HG.out _ (below_drewN HB5.out nq)
                  generalize w5.drewN nq = w6 at *
                  have hzt : tb < w6.heap.size := World.block_lt_of_cell? w6 _ t0
                  clear g5 g6
                  obtain ⟨ao, an, ac, w7, hr, ho7, hB7⟩ := left_app (x := x) HL6.out.1 HL6.out.2 (Nat.le_trans (List.length_filter_le _ _) (by rw [List.length_take]; omega))
                  have HN : Hid (w7.ownsRow V3.heap.size 30 3 (.slice ao an ac) ((l.take (k + 1)).filter (sB s.ch)).length (waFlat ((l.take (k + 1)).filter (sB s.ch))) ∧ Below V3.heap.size V3 w7) := by
                    rw [filt_yes HI.out.1 HSB.out]
                    exact ⟨ho7, hB7⟩
                  clear ho7 hB7 HL6 HSB
                  go_wp2_with (at_builtin; refine Lib.wpList_append_run_sl _ rfl _ _ 27 rfl _ _ rfl rfl (hr _) ?_)
                  go_roundw
                  case rel => exact ⟨k + 1, n + 0, by omega, by simp, by simp, HNN.out, HN⟩
                  case measure => simp [intOf]; omega
                · have hd2 : decide ((k : Int) < (l.length : Int)) = false := by simp; omega
                  have hnq : ((n : Int) != (fn : Int)) = false := by
                    have h1 := HP.out.2.1
                    have h2 := HNE.out
                    rw [List.take_of_length_le (by omega)] at h2
                    have e : n = fn := by omega
                    rw [e]
                    simp
                  have HN : Hid (OnI w wr b m v' (.slice lo ln lc) (l.filter (sB s.ch))) := by
                    refine HP.out.1.done HL.out.2 ?_
                    have := HL.out.1
                    rw [List.take_of_length_le (by omega), hll] at this
                    exact this
                  subst hll
                  clear HL HP HNE hn64
                  go_wp2
                  refine ⟨⟨i + 1, by omega, by simp, ⟨_, _, HN.out⟩⟩, ?_⟩
                  simp [intOf]
                  omega
            · go_wp2
              go_loopw [14, 15, 16] (fun vl vn vk wr => ∃ k n : Nat, k ≤ l.length ∧ vk = .int .i64 (k : Int) ∧ vn = .int .i64 (n : Int) ∧ n = ((l.take k).filter (mB s.ch)).length ∧ Hid (wr.ownsRow V3.heap.size 30 3 vl ((l.take k).filter (sB s.ch)).length (waFlat ((l.take k).filter (sB s.ch))) ∧ Below V3.heap.size V3 wr)) (fun _ _ vk _ => l.length - (intOf vk).toNat)
              case atStart => exact ⟨0, 0, by omega, rfl, rfl, by simp, World.ownsRow_nil _ _ _ _, Below.refl _ _⟩
              case round =>
                obtain ⟨k, n, hk, rfl, rfl, hn, HL⟩ := hrel
                obtain ⟨lo, ln, lc, hll⟩ : ∃ a n c, u14 = .slice a n c := by
                  obtain ⟨a, c, e⟩ := rowS HL.out.1
                  exact ⟨a, _, c, e⟩
                have hn64 : n ≤ l.length := by rw [hn]; exact Nat.le_trans (List.length_filter_le _ _) (by rw [List.length_take]; omega)
                have HNE : Hid (n = ((l.take k).filter (mB s.ch)).length) := hn
                clear hn
                by_cases hlt2 : k < l.length
                · have hd2 : decide ((k : Int) < (l.length : Int)) = true := by simp; omega
                  obtain ⟨x, hx⟩ : ∃ x, l[k]? = some x := ⟨_, List.getElem?_eq_getElem hlt2⟩
                  have HI : Hid (l[k]? = some x ∧ (x.2.1 = 1 ∨ x.2.1 = 2 ∨ x.2.1 = 3 ∨ x.2.1 = 4) ∧ x.2.2.size ≤ 4294967295) := ⟨hx, HP.out.1.ws.kind x (List.mem_of_getElem? hx), (HP.out.1.ws.ok x (List.mem_of_getElem? hx)).2⟩
                  obtain ⟨tao, tcap, hte, htc, hth⟩ := SW_owns HP.out.1.th
                  simp only [Value.slice.injEq, true_and] at hte
                  obtain ⟨rfl, rfl⟩ := hte
                  obtain ⟨tb, toff, hto, hcx⟩ := hth (fun e => by rw [e] at hlt2; simp at hlt2)
                  obtain ⟨q0, q1, q2⟩ := hcx k x hx
                  subst hto
                  have HG : Hid (∀ W, Below wr.heap.size wr W → W.cell? ⟨bs, 5, none⟩ = some (.int .i8 s.ch.1) ∧ W.cell? ⟨bs, 6, none⟩ = some (.string s.ch.2) ∧ W.cell? ⟨tb, toff + k * 3, none⟩ = some (.int .i64 x.1) ∧ W.cell? ⟨tb, toff + k * 3 + 1, none⟩ = some (.int .i8 x.2.1) ∧ W.cell? ⟨tb, toff + k * 3 + 2, none⟩ = some (.string x.2.2)) := fun W hW => by
                    have hB := HL.out.2.trans (hW.mono HL.out.2.size)
                    have hb := box_later HP.out.1.box hB
                    exact ⟨cell_of_row W bs 5 _ _ _ hb, cell_of_row W bs 6 _ _ _ hb, cellB hB q0, cellB hB q1, cellB hB q2⟩
                  clear hx q0 q1 q2 hcx hth
                  have hz1 := lt_of_block (box_later HP.out.1.box HL.out.2)
                  go_upto_region 29 with fail
                  refine wp_region_held_drew (S := (fun W => W.cell? ⟨bs, 5, none⟩ = some (.int .i8 s.ch.1) ∧ W.cell? ⟨bs, 6, none⟩ = some (.string s.ch.2) ∧ W.cell? ⟨tb, toff + k * 3, none⟩ = some (.int .i64 x.1) ∧ W.cell? ⟨tb, toff + k * 3 + 1, none⟩ = some (.int .i8 x.2.1) ∧ W.cell? ⟨tb, toff + k * 3 + 2, none⟩ = some (.string x.2.2))) (by kernel_rfl) ?_ (fun hHeld => ?_)
                  · exact HG.out _ (below_drewN (Below.refl _ _) 1)
                  refine wpAnyH_take (i := 0) (oi := { dst := some 94, op := Op.move (Operand.tmp 13), type := 4, pos := "law.go:173", after := #[], guard := none }) (v := ?_) rfl (by kernel_rfl) (by kernel_rfl) (by kernel_rfl) (fun _ _ _ h => h) (Or.inl ⟨by rfl, ?_⟩) (by assumption) ?_
                  rotate_left
                  · (intro w hSw; (try dsimp only at hSw); go_simp) <;> with_reducible rfl
                  try simp only [Act.put, List.setIfInBounds_toArray, List.set_cons_zero, List.set_cons_succ]
                  refine wpAnyH_take (i := 1) (oi := { dst := some 95, op := Op.move (Operand.tmp 94), type := 4, pos := "law.go:173", after := #[{ on := 0, ground := Ground.data }], guard := none }) (v := ?_) rfl (by kernel_rfl) (by kernel_rfl) (by kernel_rfl) (fun _ _ _ h => h) (Or.inl ⟨by rfl, ?_⟩) (by assumption) ?_
                  rotate_left
                  · (intro w hSw; (try dsimp only at hSw); go_simp) <;> with_reducible rfl
                  try simp only [Act.put, List.setIfInBounds_toArray, List.set_cons_zero, List.set_cons_succ]
                  refine wpAnyH_take (i := 2) (oi := { dst := some 96, op := Op.fieldAddr 34 (Operand.tmp 7) 3, type := 0, pos := "law.go:173", after := #[{ on := 1, ground := Ground.guard }], guard := some (1, true) }) (v := ?_) rfl (by kernel_rfl) (by kernel_rfl) (by kernel_rfl) (fun _ _ _ h => h) (Or.inl ⟨by rfl, ?_⟩) (by assumption) ?_
                  rotate_left
                  · (intro w hSw; (try dsimp only at hSw); go_simp) <;> with_reducible rfl
                  try simp only [Act.put, List.setIfInBounds_toArray, List.set_cons_zero, List.set_cons_succ]
                  refine wpAnyH_take (i := 3) (oi := { dst := some 97, op := Op.load 32 (Operand.tmp 96), type := 32, pos := "law.go:173", after := #[{ on := 2, ground := Ground.data }, { on := 1, ground := Ground.guard }], guard := some (1, true) }) (v := ?_) rfl (by kernel_rfl) (by kernel_rfl) (by kernel_rfl) (fun _ _ _ h => h) (Or.inl ⟨by rfl, ?_⟩) (by assumption) ?_
                  rotate_left
                  · (intro w hSw; (try dsimp only at hSw); go_simp) <;> with_reducible rfl
                  try simp only [Act.put, List.setIfInBounds_toArray, List.set_cons_zero, List.set_cons_succ]
                  refine wpAnyH_take (i := 4) (oi := { dst := some 98, op := Op.move (Operand.tmp 5), type := 27, pos := "law.go:173", after := #[{ on := 1, ground := Ground.guard }], guard := some (1, true) }) (v := ?_) rfl (by kernel_rfl) (by kernel_rfl) (by kernel_rfl) (fun _ _ _ h => h) (Or.inl ⟨by rfl, ?_⟩) (by assumption) ?_
                  rotate_left
                  · (intro w hSw; (try dsimp only at hSw); go_simp) <;> with_reducible rfl
                  try simp only [Act.put, List.setIfInBounds_toArray, List.set_cons_zero, List.set_cons_succ]
                  refine wpAnyH_take (i := 5) (oi := { dst := some 99, op := Op.move (Operand.tmp 16), type := 3, pos := "law.go:173", after := #[{ on := 1, ground := Ground.guard }], guard := some (1, true) }) (v := ?_) rfl (by kernel_rfl) (by kernel_rfl) (by kernel_rfl) (fun _ _ _ h => h) (Or.inl ⟨by rfl, ?_⟩) (by assumption) ?_
                  rotate_left
                  · (intro w hSw; (try dsimp only at hSw); go_simp) <;> with_reducible rfl
                  try simp only [Act.put, List.setIfInBounds_toArray, List.set_cons_zero, List.set_cons_succ]
                  refine wpAnyH_take (i := 6) (oi := { dst := some 100, op := Op.indexAddr 27 (Operand.tmp 98) (Operand.tmp 99), type := 0, pos := "law.go:173", after := #[{ on := 4, ground := Ground.data }, { on := 5, ground := Ground.data }, { on := 1, ground := Ground.guard }], guard := some (1, true) }) (v := ?_) rfl (by kernel_rfl) (by kernel_rfl) (by kernel_rfl) (fun _ _ _ h => h) (Or.inl ⟨by rfl, ?_⟩) (by assumption) ?_
                  rotate_left
                  · (intro w hSw; (try dsimp only at hSw); go_simp) <;> with_reducible rfl
                  try simp only [Act.put, List.setIfInBounds_toArray, List.set_cons_zero, List.set_cons_succ]
                  refine wpAnyH_take (i := 7) (oi := { dst := some 101, op := Op.load 30 (Operand.tmp 100), type := 30, pos := "law.go:173", after := #[{ on := 6, ground := Ground.data }, { on := 1, ground := Ground.guard }], guard := some (1, true) }) (v := ?_) rfl (by kernel_rfl) (by kernel_rfl) (by kernel_rfl) (fun _ _ _ h => h) (Or.inl ⟨by rfl, ?_⟩) (by assumption) ?_
                  rotate_left
                  · (intro w hSw; (try dsimp only at hSw); go_simp) <;> with_reducible rfl
                  try simp only [Act.put, List.setIfInBounds_toArray, List.set_cons_zero, List.set_cons_succ]
                  refine wpAnyH_ready (rs := [8]) (by kernel_rfl) (by simp) ?_
                  refine AllReadyH.cons (o := { dst := some 102, op := Op.call { callee := Callee.value (Operand.func 14), args := #[Operand.tmp 97, Operand.tmp 101], argTypes := #[32, 30] }, type := 4, pos := "law.go:173", after := #[{ on := 3, ground := Ground.data }, { on := 7, ground := Ground.data }, { on := 1, ground := Ground.chain }, { on := 1, ground := Ground.guard }], guard := some (1, true) }) rfl (fun K hK => ?_) AllReadyH.nil
                  go_simp
                  refine Calls.mono (refMeets18 s.ch x _ (HI.out.2.1) (by have := HP.out.2.2.2; omega) (HI.out.2.2)) ?_
                  rintro _ w5 ⟨rfl, b5⟩
                  have HB5 : Hid (Below wr.heap.size wr w5) := (below_drewN (Below.refl _ wr) 1).trans b5
                  clear b5
                  refine hK.out _ _ (HG.out _ HB5.out) (fun hHeld => ?_)
                  clear hK K
                  refine wpAnyH_take (i := 9) (oi := { dst := some 103, op := Op.pick (Operand.tmp 95) (Operand.tmp 102) (Operand.const (Value.bool false)), type := 4, pos := "law.go:173", after := #[{ on := 1, ground := Ground.data }, { on := 8, ground := Ground.data }], guard := none }) (v := ?_) rfl (by kernel_rfl) (by kernel_rfl) (by kernel_rfl) (fun _ _ _ h => h) (Or.inl ⟨by rfl, ?_⟩) (by assumption) ?_
                  rotate_left
                  · (intro w hSw; (try dsimp only at hSw); go_simp) <;> with_reducible rfl
                  try simp only [Act.put, List.setIfInBounds_toArray, List.set_cons_zero, List.set_cons_succ]
                  refine wpAnyH_take (i := 10) (oi := { dst := some 17, op := Op.assign (Operand.tmp 103), type := 4, pos := "law.go:173", after := #[{ on := 9, ground := Ground.data }, { on := 8, ground := Ground.chain }, { on := 0, ground := Ground.phase }, { on := 1, ground := Ground.phase }, { on := 2, ground := Ground.phase }, { on := 3, ground := Ground.phase }, { on := 4, ground := Ground.phase }, { on := 5, ground := Ground.phase }, { on := 6, ground := Ground.phase }, { on := 7, ground := Ground.phase }, { on := 8, ground := Ground.phase }, { on := 9, ground := Ground.phase }], guard := none }) (v := ?_) rfl (by kernel_rfl) (by kernel_rfl) (by kernel_rfl) (fun _ _ _ h => h) (Or.inl ⟨by rfl, ?_⟩) (by assumption) ?_
                  rotate_left
                  · (intro w hSw; (try dsimp only at hSw); go_simp) <;> with_reducible rfl
                  try simp only [Act.put, List.setIfInBounds_toArray, List.set_cons_zero, List.set_cons_succ]
                  refine wpAnyH_done (by kernel_rfl) ?_ _
                  clear hHeld
                  subst hll
                  cases hmm : metB s.ch x
                  · have HMB : Hid (mB s.ch x = false) := by show _ = _; unfold mB; rw [hmm]; simp
                    have HSB : Hid (sB s.ch x = true) := by show _ = _; unfold sB; rw [HMB.out]; rfl
                    have HNN : Hid (n + 0 = ((l.take (k + 1)).filter (mB s.ch)).length) := by show _ = _; rw [filt_no HI.out.1 HMB.out, ← HNE.out]; rfl
                    go_upto_region 30 with fail
                    go_quiet (fail)
                    have HL6 : Hid ((w5.drewN nq).ownsRow V3.heap.size 30 3 (.slice lo ln lc) ((l.take k).filter (sB s.ch)).length (waFlat ((l.take k).filter (sB s.ch))) ∧ Below V3.heap.size V3 (w5.drewN nq)) := ⟨rowK HL.out.1 (Below.kept (below_drewN HB5.out nq)) (fun k hk => by have := (HL.out.1.lt k hk).2; omega), below_drewN (HL.out.2.trans (HB5.out.mono HL.out.2.size)) nq⟩
                    obtain ⟨g5, g6, t0, t1, t2⟩ := HG.out _ (below_drewN HB5.out nq)
                    generalize w5.drewN nq = w6 at *
                    have hzt : tb < w6.heap.size := World.block_lt_of_cell? w6 _ t0
                    clear g5 g6
                    obtain ⟨ao, an, ac, w7, hr, ho7, hB7⟩ := left_app (x := x) HL6.out.1 HL6.out.2 (Nat.le_trans (List.length_filter_le _ _) (by rw [List.length_take]; omega))
                    have HN : Hid (w7.ownsRow V3.heap.size 30 3 (.slice ao an ac) ((l.take (k + 1)).filter (sB s.ch)).length (waFlat ((l.take (k + 1)).filter (sB s.ch))) ∧ Below V3.heap.size V3 w7) := by
                      rw [filt_yes HI.out.1 HSB.out]
                      exact ⟨ho7, hB7⟩
                    clear ho7 hB7 HL6 HSB
                    go_wp2_with (at_builtin; refine Lib.wpList_append_run_sl _ rfl _ _ 27 rfl _ _ rfl rfl (hr _) ?_)
                    go_roundw
                    case rel => exact ⟨k + 1, n + 0, by omega, by simp, by simp, HNN.out, HN⟩
                    case measure => simp [intOf]; omega
                  · have HMB : Hid (mB s.ch x = true) := by show _ = _; unfold mB; rw [hmm, hcc]; rfl
                    have HNN : Hid (n + 1 = ((l.take (k + 1)).filter (mB s.ch)).length) := by show _ = _; rw [filt_yes HI.out.1 HMB.out, List.length_append, ← HNE.out]; rfl
                    obtain ⟨g, fcap, hfe, hgl, f0, f1, f2, f3, f4⟩ := fi_cells ((HP.out.1.below (HL.out.2.trans (HB5.out.mono HL.out.2.size))).told) (show (l.filter (mB s.ch))[n]? = some x by rw [HNE.out]; exact filt_at HI.out.1 HMB.out)
                    simp only [Value.slice.injEq] at hfe
                    have hnf : n < fn := by
                      have := (List.getElem?_eq_some_iff.1 (show (l.filter (mB s.ch))[n]? = some x by rw [HNE.out]; exact filt_at HI.out.1 HMB.out)).1
                      have := HP.out.2.1
                      omega
                    have hfo := hfe.1
                    clear hfe
                    subst hfo
                    have dn : decide ((fn : Int) ≤ (n : Int)) = false := by simp; omega
                    have dn2 : decide ((n : Int) < (fn : Int)) = true := by simp; omega
                    have hnW : ∀ W, (binOp .neq 30 (.agg #[.int .i64 x.1, .int .i8 x.2.1, .string x.2.2]) (.agg #[.int .i64 x.1, .int .i8 x.2.1, .string x.2.2])).run Try.prog W = .ok (.bool false) W := fun W => by
                      have := neqWaV x x W
                      rw [waEq_self] at this
                      exact this
                    have hnC : ∀ W, (binOp .neq 32 (.agg #[.int .i8 s.ch.1, .string s.ch.2]) (.agg #[.int .i8 s.ch.1, .string s.ch.2])).run Try.prog W = .ok (.bool false) W := fun W => neqChV s.ch W
                    obtain ⟨g5, g6, t0, t1, t2⟩ := HG.out _ HB5.out
                    have hzt : tb < w5.heap.size := World.block_lt_of_cell? w5 _ t0
                    have hzb : bs < w5.heap.size := World.block_lt_of_cell? w5 _ g5
                    go_upto_region 30 with fail
                    go_quiet (fail)
                    clear f0 f1 f2 f3 f4 g5 g6 t0 t1 t2 hzt hzb hnW hnC hgl
                    obtain ⟨g5, g6, t0, t1, t2⟩ := HG.out _ (below_drewN HB5.out nq)
                    have HB6 : Hid (Below wr.heap.size wr (w5.drewN nq)) := below_drewN HB5.out nq
                    generalize w5.drewN nq = w6 at *
                    have hzt : tb < w6.heap.size := World.block_lt_of_cell? w6 _ t0
                    clear g5 g6 HB5
                    go_wp2_with fail
                    go_at_call 15
                    refine Calls.mono (refGoes18 x w6 HI.out.2.1) ?_
                    rintro e w7 ⟨rfl, b7⟩
                    have HB7 : Hid (Below wr.heap.size wr w7) := HB6.out.trans (b7.mono HB6.out.size)
                    have HL6 : Hid (w7.ownsRow V3.heap.size 30 3 (.slice lo ln lc) ((l.take k).filter (sB s.ch)).length (waFlat ((l.take k).filter (sB s.ch))) ∧ Below V3.heap.size V3 w7) := ⟨rowK HL.out.1 (Below.kept HB7.out) (fun k hk => by have := (HL.out.1.lt k hk).2; omega), HL.out.2.trans (HB7.out.mono HL.out.2.size)⟩
                    clear b7 t0 t1 t2 hzt HB6
                    obtain ⟨g5, g6, t0, t1, t2⟩ := HG.out _ HB7.out
                    have hzt : tb < w7.heap.size := World.block_lt_of_cell? w7 _ t0
                    clear g5 g6 HB7 w6
                    obtain ⟨w6, hw6⟩ : ∃ w6, w6 = w7 := ⟨_, rfl⟩
                    rw [← hw6] at HL6 t0 t1 t2 hzt ⊢
                    clear hw6 w7
                    cases hg : goB x
                    · have HSB : Hid (sB s.ch x = true) := by show _ = _; unfold sB; rw [HMB.out, hg]; rfl
                      obtain ⟨ao, an, ac, w7, hr, ho7, hB7⟩ := left_app (x := x) HL6.out.1 HL6.out.2 (Nat.le_trans (List.length_filter_le _ _) (by rw [List.length_take]; omega))
                      have HN : Hid (w7.ownsRow V3.heap.size 30 3 (.slice ao an ac) ((l.take (k + 1)).filter (sB s.ch)).length (waFlat ((l.take (k + 1)).filter (sB s.ch))) ∧ Below V3.heap.size V3 w7) := by
                        rw [filt_yes HI.out.1 HSB.out]
                        exact ⟨ho7, hB7⟩
                      clear ho7 hB7 HL6 HSB
                      go_wp2_with (at_builtin; refine Lib.wpList_append_run_sl _ rfl _ _ 27 rfl _ _ rfl rfl (hr _) ?_)
                      go_roundw
                      case rel => exact ⟨k + 1, n + 1, by omega, by simp, by simp, HNN.out, HN⟩
                      case measure => simp [intOf]; omega
                    · have HSB : Hid (sB s.ch x = false) := by show _ = _; unfold sB; rw [HMB.out, hg]; rfl
                      have HN : Hid (w6.ownsRow V3.heap.size 30 3 (.slice lo ln lc) ((l.take (k + 1)).filter (sB s.ch)).length (waFlat ((l.take (k + 1)).filter (sB s.ch))) ∧ Below V3.heap.size V3 w6) := by
                        rw [filt_no HI.out.1 HSB.out]
                        exact HL6.out
                      clear HL6 HSB
                      go_wp2
                      go_roundw
                      case rel => exact ⟨k + 1, n + 1, by omega, by simp, by simp, HNN.out, HN⟩
                      case measure => simp [intOf]; omega
                · have hd2 : decide ((k : Int) < (l.length : Int)) = false := by simp; omega
                  have hnq : ((n : Int) != (fn : Int)) = false := by
                    have h1 := HP.out.2.1
                    have h2 := HNE.out
                    rw [List.take_of_length_le (by omega)] at h2
                    have e : n = fn := by omega
                    rw [e]
                    simp
                  have HN : Hid (OnI w wr b m v' (.slice lo ln lc) (l.filter (sB s.ch))) := by
                    refine HP.out.1.done HL.out.2 ?_
                    have := HL.out.1
                    rw [List.take_of_length_le (by omega), hll] at this
                    exact this
                  subst hll
                  clear HL HP HNE hn64
                  go_wp2
                  refine ⟨⟨i + 1, by omega, by simp, ⟨_, _, HN.out⟩⟩, ?_⟩
                  simp [intOf]
                  omega
          · have e0 : (s.what == 0) = false := by simpa using hw0
            have e1 : (s.what == 1) = false := by simpa using hw1
            have HN : Hid (OnI w (wr.alloc (stBox s)) b m v (.slice uo l.length uc) l) := HV.out.1
            clear HV hw0 hw1
            go_wp2
            go_roundw
            case rel => exact ⟨i + 1, by omega, by simp, _, _, HN.out⟩
            case measure => simp [intOf]; omega
      · have hd : decide ((i : Int) < (sc.length : Int)) = false := by simp; omega
        obtain ⟨v, l, hO⟩ := HD.out
        have hle := hO.ws.le
        have HA : Hid _ := all_any hO.bo (by omega)
        have HO : Hid (OnI w wr b m v u5 l) := hO
        obtain ⟨uo, un, uc, huu⟩ : ∃ a n c, u5 = .slice a n c := by
          obtain ⟨a, c, e⟩ := rowS hO.th
          exact ⟨a, _, c, e⟩
        subst huu
        clear hO HD
        go_wp2_with fail
        go_at_call 16
        refine Calls.mono HA.out ?_
        rintro e w5 ⟨u, rfl, ho, hB⟩
        have HE : Hid _ := eqWatches_same (SW_owns ho) (HO.out.below hB).seesV (by omega)
        have HB5 : Hid (Below w.heap.size w w5) := (HO.out.below hB).bel
        obtain ⟨uo2, uc2, rfl⟩ := rowS ho
        clear HA ho hB HO
        go_wp2_with fail
        go_at_call 17
        refine Calls.mono HE.out ?_
        rintro e w6 ⟨rfl, hB6⟩
        have HB6 : Hid (Below w.heap.size w w6) := HB5.out.trans (hB6.mono HB5.out.size)
        clear HE HB5 hB6
        go_wp2
        all_goals (go_ret; exact ⟨rfl, HB6.out⟩)
  · go_wp2
    all_goals (go_ret; exact ⟨rfl, HB1.out⟩)

end Go.Proofs.Ytgdbcdddcejehaa
