/- The document's disk: From. -/
import Derived.Test.YtbdokdhconhifaaGreatDoorDlCJ
import Derived.Test.YtbdokdhconhifaaGreatDoorDlGJ
import Derived.Deep.RegionHeld
namespace Go.Proofs.YtbdokdhconhifaaGreatDoor
open Go.RowKit Go.Shelf
set_option maxRecDepth 8000

/-- A document's disk that was made since w. -/
structure RunR (w : World) (q : Nat) (wr : World) (rv : Value) (vs : List Value) (R : RD) : Prop where
  is : IsRd wr q rv vs R
  bel : Below w.heap.size w wr
  apart : ∀ j ∈ rfoot q rv vs, w.heap.size ≤ j

theorem RunR.later {w : World} {q : Nat} {wr wr' : World} {rv : Value} {vs : List Value} {R : RD} (h : RunR w q wr rv vs R) (hb : Below wr.heap.size wr wr') : RunR w q wr' rv vs R := ⟨h.is.later hb, Below.step h.bel hb, h.apart⟩

theorem RunR.turn {w : World} {q : Nat} {wr wr' : World} {rv rv' : Value} {vs vs' : List Value} {R R' : RD} (h : RunR w q wr rv vs R) (ht : RdTo wr q rv vs wr' R' rv' vs') : RunR w q wr' rv' vs' R' :=
  ⟨ht.is, h.bel.trans (ht.kept.below h.bel.size (fun j e => h.apart j e)), fun j hj => by
    rcases ht.foot j hj with e | e
    · exact h.apart j e
    · exact Nat.le_trans h.bel.size e⟩

abbrev rdOf (D : DkD) (room : Int) : RD := ⟨D.files, room, true, false, 0, 0⟩

/-- What a round of From needs, once the file may be taken. -/
theorem from_step {w wr : World} {q : Nat} {rv : Value} {vs : List Value} {D : DkD} {room : Int} (h : RunR w q wr rv vs (rdOf D room)) (hr : Rise D.files) (f : FiD) (hno : hasF D.files f.name = false) (hfew : D.files.length ≤ 63) {x' : Option Addr} {L y' : Nat} {w3 : World} (hb : Below wr.heap.size wr w3) (ho : Owns w3 0 (.slice x' L y') f.bytes) (hnew : ∀ k, (Value.slice x' L y').ownBlock = some k → wr.heap.size ≤ k) :
    Calls Tryz.prog 27 #[rv, .agg #[.string f.name, .slice x' L y', .int .i64 f.dur]] w3 fun e w' => ∃ xx ll yy, e = .returned (.slice xx ll yy) ∧ Hid (∃ rv' vs', RunR w q (w'.setCell ⟨q, 1, none⟩ (.slice xx ll yy)) rv' vs' (rdOf { D with files := insF D.files f } room)) ∧ (∃ x0 l0 y0, w'.cell? ⟨q, 1, none⟩ = some (.slice x0 l0 y0)) ∧ w'.frozen? ⟨q, 1, none⟩ = false ∧ q < w'.heap.size ∧ Hid (Below w3.heap.size w3 w') := by
  have i3 := h.is.later hb
  refine (refWith_any i3.img hr (show D.files.length ≤ 64 by omega) f x' L y' hno).mono ?_
  rintro e w5 ⟨v', rfl, hz⟩
  obtain ⟨xx, ll, yy, rfl⟩ := hz.slice
  have i5 := i3.later hz.bel
  obtain ⟨fa, fc, hfv, _⟩ := img_shape i5.img
  have hset := h.is.setZ (w4 := w3) (w5 := w5) hb (.slice x' L y') (fun k e => ⟨hnew k e, rows_ltK ho e⟩) hz (fun a ha => by
    rcases insZ_mem ha with h7 | h7
    · rw [h7]; exact ho
    · exact i3.img.zown a h7) (insZ_perm _ _ _) (by rw [zip_snd _ _ i3.img.len]; exact List.Sublist.refl _)
  have h7 := insZ_fst (D.files.zip vs) f (.slice x' L y')
  rw [zip_fst _ _ i3.img.len] at h7
  have h8 : (insZ ((rdOf D room).files.zip vs) (pl (rdOf D room).files f.name) (f, .slice x' L y')).map Prod.fst = insF D.files f := h7
  rw [h8] at hset
  exact ⟨xx, ll, yy, rfl, ⟨_, _, h.turn hset⟩, ⟨_, _, _, by rw [i5.cells.2.1, hfv]⟩, frozen_of_row w5 q _ _ _ i5.row, lt_of_block i5.row, hz.bel⟩

set_option maxHeartbeats 8000000 in
theorem refFrom_any {w : World} {n : Nat} (room : Int) (v : Value) (l : List FlK) (hl : SeesFls w n v l) (hnw : n ≤ w.heap.size) (h0 : 0 ≤ room) (h1 : room ≤ 16777216) :
    Calls Tryz.prog 6 #[.int .i64 room, v] w fun e w' => ((takeL (newD room) (l.map FlK.fi)).1 = 0 ∧ e = .returned (.tuple #[.pointer (some ⟨w.heap.size, 0, none⟩), .int .i64 0]) ∧ ∃ rv vs, RunR w w.heap.size w' rv vs (rdOf (takeL (newD room) (l.map FlK.fi)).2 room)) ∨ ((takeL (newD room) (l.map FlK.fi)).1 ≠ 0 ∧ e = .returned (.tuple #[.pointer none, .int .i64 (takeL (newD room) (l.map FlK.fi)).1]) ∧ Below w.heap.size w w') := by
  obtain ⟨⟨sa, sc, rfl, hsc, hscm, _⟩, _⟩ := id hl
  unfold maxLen at hscm
  have HL : Hid (SeesFls w n (.slice sa l.length sc) l) := hl
  have HN : Hid _ := refNew_yes room w ⟨h0, h1⟩
  obtain ⟨r, hr⟩ : ∃ r, r = takeL (newD room) (l.map FlK.fi) := ⟨_, rfl⟩
  rw [← hr]
  have HR : Hid _ := hr
  clear hl hr
  go_enter Tryz.func6, Tryz.ntmps6
  go_wp2_with fail
  refine Calls.mono HN.out ?_
  rintro e w1 ⟨rfl, hw1⟩
  have H0 : Hid (RunR w w.heap.size w1 (.slice none 0 0) [] (rdOf (newD room) room)) := by
    rw [hw1]
    refine ⟨isRd_new w room, one_allocK _ _, fun j hj => ?_⟩
    simp [rfoot, Value.ownBlock] at hj
    omega
  have HDK : Hid (DkOk (newD room)) := dkOk_new room h0 h1
  clear hw1 HN
  obtain ⟨q, hq⟩ : ∃ q, q = w.heap.size := ⟨_, rfl⟩
  rw [← hq] at H0 ⊢
  have HQ : Hid _ := hq
  clear hq
  go_wp2_with fail
  go_loopw [8] (fun vi wr => ∃ i : Nat, i ≤ l.length ∧ vi = .int .i64 i ∧ Hid (∃ rv vs D, RunR w q wr rv vs (rdOf D room) ∧ DkOk D ∧ D.room = room ∧ D.files.length = i ∧ r = takeL D ((l.drop i).map FlK.fi))) (fun vi _ => l.length - (intOf vi).toNat)
  case atStart => exact ⟨0, Nat.zero_le _, rfl, ⟨_, _, _, H0.out, HDK.out, rfl, rfl, HR.out⟩⟩
  case round =>
    obtain ⟨i, hi, rfl, HI⟩ := hrel
    obtain ⟨rv, vs, D, hrun, hok, hroom, hlen, hrr⟩ := HI.out
    clear H0 HDK HI HR
    by_cases hlt : i < l.length
    · rw [List.drop_eq_getElem_cons hlt, List.map_cons] at hrr
      obtain ⟨⟨_, _, esl, _, _, h0' | ⟨b, off, e2, hb, hrg⟩⟩, hgo⟩ := id HL.out
      · rw [h0'] at hlt; simp at hlt
      have e3 : sa = some ⟨b, off, none⟩ := by
        have := (Value.slice.inj esl).1
        rw [this]; exact e2
      subst e3
      have hg := hgo l[i] (List.getElem_mem hlt)
      have hr3 : wr.rangeAt b (off + i * 3) l[i].cells := fun j x hj => cell_later (hrg i hlt j x hj) hrun.bel (Nat.le_refl _)
      generalize l[i] = o at *
      clear hrg hgo esl e2
      have hg' : GoodFl wr n o := hg.kept (Below.kept hrun.bel) (fun j hj e => by omega)
      unfold FlK.cells at hr3
      have hsz3 : (Tryz.prog.info? 71).map (·.size) = some [Value.string o.name, .slice o.pa o.p.length o.pc, .int .i64 o.dur].length := Tryz.fileSz
      obtain ⟨pc0, pcm⟩ : o.p.length ≤ o.pc ∧ o.pc ≤ 9223372036854775807 := by
        obtain ⟨_, _, e, a, c, _⟩ := hg.see
        unfold FlK.pv at e
        obtain ⟨_, _, rfl⟩ := Value.slice.inj e
        unfold maxLen at c
        exact ⟨a, by omega⟩
      obtain ⟨nm, pa, pc, pp, du⟩ := o
      simp only at hr3 hsz3 pc0 pcm
      obtain ⟨W, eW⟩ : ∃ W, W = wr.alloc (.cells #[.string nm, .slice pa pp.length pc, .int .i64 du] 71) := ⟨_, rfl⟩
      have hbW : Below wr.heap.size wr W := by rw [eW]; exact one_allocK _ _
      have hrowW : W.heap[wr.heap.size]? = some (.cells #[.string nm, .slice pa pp.length pc, .int .i64 du] 71 (0, 0)) := by rw [eW]; exact heap_alloc_new wr _
      have b0 : W.cell? ⟨wr.heap.size, 0, none⟩ = some (.string nm) := cell_of_row W _ 0 _ _ _ hrowW
      have b1 : W.cell? ⟨wr.heap.size, 1, none⟩ = some (.slice pa pp.length pc) := cell_of_row W _ 1 _ _ _ hrowW
      have b2 : W.cell? ⟨wr.heap.size, 2, none⟩ = some (.int .i64 du) := cell_of_row W _ 2 _ _ _ hrowW
      have hWl := lt_of_block hrowW
      have hruW := hrun.later hbW
      have hgW : GoodFl W n ⟨nm, pa, pc, pp, du⟩ := hg'.kept (Below.kept hbW) (fun j hj e => by have := hrun.bel.size; omega)
      have hlq := lt_of_block hruW.is.row
      have HNM : Hid _ := refName_any nm hg.nl W
      have HAT : Hid (Calls Tryz.prog 25 #[.pointer (some ⟨q, 0, none⟩), .string nm] W fun e w' => e = .returned (.int .i64 (atI D.files nm)) ∧ w' = W) := refAt_any hruW.is hok.rise hok.few nm
      have HEW : Hid _ := eW
      have HRR : Hid _ := hrr
      have HX : Hid (RunR w q W rv vs (rdOf D room) ∧ DkOk D ∧ D.room = room ∧ D.files.length = i ∧ GoodFl W n ⟨nm, pa, pc, pp, du⟩ ∧ W.heap[wr.heap.size]? = some (.cells #[.string nm, .slice pa pp.length pc, .int .i64 du] 71 (0, 0))) := ⟨hruW, hok, hroom, hlen, hgW, hrowW⟩
      have HBE : Hid (Below w.heap.size w W) := hruW.bel
      clear hrun hok hroom hlen hrr hg hg' hbW hrowW hruW hgW eW
      have HERR : Hid (∀ E : Int, E ≠ 0 → D.errT ⟨nm, pp, du⟩ = E → r = (E, D)) := fun E hE0 hE => by
        have h9 := HRR.out
        unfold takeL at h9
        have h10 : D.errT (FlK.fi ⟨nm, pa, pc, pp, du⟩) = E := hE
        rw [if_neg (by rw [h10]; exact hE0), h10] at h9
        exact h9
      cases hm : isNm nm
      · rw [hm] at HNM
        have HE5 : Hid (r = (22, D)) := HERR.out 22 (by decide) (by unfold DkD.errT; rw [if_pos (.inl hm)])
        have HN5 : Hid ((22 : Int) ≠ 0) := by show _ ≠ _; decide
        go_wp2_with (refine wpList_load_mid rfl 71 _ rfl b (off + i * 3) rfl [.string nm, .slice pa pp.length pc, .int .i64 du] _ hr3 Tryz.underlying71 rfl hsz3 ?_)
        rw [← HEW.out]
        refine Calls.mono HNM.out ?_
        rintro e w4 ⟨rfl, hw4⟩
        subst w4
        go_wp2_with fail
        go_ret2
        exact .inr ⟨by rw [HE5.out]; exact HN5.out, by rw [HE5.out]; rfl, HBE.out⟩
      · rw [hm] at HNM
        cases hh : hasF D.files nm
        · have ea : atI D.files nm = -1 := by unfold atI; rw [hh]; rfl
          rw [ea] at HAT
          by_cases h64 : 64 ≤ i
          · have hd64 : decide ((i : Int) ≥ 64) = true := decide_eq_true (by omega)
            have HE5 : Hid (r = (22, D)) := HERR.out 22 (by decide) (by unfold DkD.errT; rw [if_pos (.inr (.inr (by rw [HX.out.2.2.2.1]; exact h64)))])
            have HN5 : Hid ((22 : Int) ≠ 0) := by show _ ≠ _; decide
            clear hm hh ea
            go_wp2_with (refine wpList_load_mid rfl 71 _ rfl b (off + i * 3) rfl [.string nm, .slice pa pp.length pc, .int .i64 du] _ hr3 Tryz.underlying71 rfl hsz3 ?_)
            rw [← HEW.out]
            refine Calls.mono HNM.out ?_
            rintro e w4 ⟨rfl, hw4⟩
            subst w4
            go_wp2_with fail
            refine Calls.mono HAT.out ?_
            rintro e w4 ⟨rfl, hw4⟩
            subst w4
            go_wp2_with fail
            go_ret2
            exact .inr ⟨by rw [HE5.out]; exact HN5.out, by rw [HE5.out]; rfl, HBE.out⟩
          · have hd64 : decide ((i : Int) ≥ 64) = false := decide_eq_false (by omega)
            have h22 : ¬ (isNm nm = false ∨ hasF D.files nm = true ∨ 64 ≤ D.files.length) := by
              rw [hm, hh, HX.out.2.2.2.1]
              simp
              omega
            by_cases hdn : du < 0
            · have hdd : decide (du < 0) = true := decide_eq_true hdn
              have HE5 : Hid (r = (1, D)) := HERR.out 1 (by decide) (by unfold DkD.errT; rw [if_neg h22, if_pos (.inl hdn)])
              have HN5 : Hid ((1 : Int) ≠ 0) := by show _ ≠ _; decide
              clear hm hh ea h22
              go_wp2_with (refine wpList_load_mid rfl 71 _ rfl b (off + i * 3) rfl [.string nm, .slice pa pp.length pc, .int .i64 du] _ hr3 Tryz.underlying71 rfl hsz3 ?_)
              rw [← HEW.out]
              refine Calls.mono HNM.out ?_
              rintro e w4 ⟨rfl, hw4⟩
              subst w4
              go_wp2_with fail
              refine Calls.mono HAT.out ?_
              rintro e w4 ⟨rfl, hw4⟩
              subst w4
              go_wp2_with fail
              go_ret2
              exact .inr ⟨by rw [HE5.out]; exact HN5.out, by rw [HE5.out]; rfl, HBE.out⟩
            · have hdd : decide (du < 0) = false := decide_eq_false hdn
              by_cases hdl : (pp.length : Int) < du
              · have hdd2 : decide (du > (pp.length : Int)) = true := decide_eq_true hdl
                have HE5 : Hid (r = (1, D)) := HERR.out 1 (by decide) (by unfold DkD.errT; rw [if_neg h22, if_pos (.inr hdl)])
                have HN5 : Hid ((1 : Int) ≠ 0) := by show _ ≠ _; decide
                clear hm hh ea h22
                go_wp2_with (refine wpList_load_mid rfl 71 _ rfl b (off + i * 3) rfl [.string nm, .slice pa pp.length pc, .int .i64 du] _ hr3 Tryz.underlying71 rfl hsz3 ?_)
                rw [← HEW.out]
                refine Calls.mono HNM.out ?_
                rintro e w4 ⟨rfl, hw4⟩
                subst w4
                go_wp2_with fail
                refine Calls.mono HAT.out ?_
                rintro e w4 ⟨rfl, hw4⟩
                subst w4
                go_wp2_with fail
                go_ret2
                exact .inr ⟨by rw [HE5.out]; exact HN5.out, by rw [HE5.out]; rfl, HBE.out⟩
              · have hdd2 : decide (du > (pp.length : Int)) = false := decide_eq_false hdl
                have hpl := HX.out.2.2.2.2.1.pl
                simp only at hpl
                have hus : (usedD D.files : Int) ≤ 16777216 := by
                  have h11 := HX.out.2.1.fits
                  have h12 := HX.out.2.2.1
                  omega
                obtain ⟨fa, fc, hrv, hfc, hfm⟩ := img_shape HX.out.1.is.img
                have HRV : Hid (rv = .slice fa i fc) := by show _ = _; rw [hrv]; show Value.slice fa D.files.length fc = _; rw [HX.out.2.2.2.1]
                have hfc' : i ≤ fc := by have h13 : D.files.length ≤ fc := hfc; rw [HX.out.2.2.2.1] at h13; exact h13
                have x1 := HX.out.1.is.cells.2.1
                rw [HRV.out] at x1
                have HSU : Hid (Calls Tryz.prog 26 #[.slice fa i fc] W.drew fun e w' => e = .returned (.int .i64 (usedD D.files)) ∧ w' = W.drew) := by
                  have h14 := refSum_any ((HX.out.1.is.later (below_drewN (Below.refl _ _) 1)).img) (show D.files.length ≤ 64 from HX.out.2.1.few) (show usedD D.files ≤ 1000000000000 by omega)
                  rw [HRV.out] at h14
                  exact h14
                obtain ⟨U, hU⟩ : ∃ U, U = usedD D.files := ⟨_, rfl⟩
                have HU : Hid _ := hU
                rw [← hU] at hus HSU
                obtain ⟨PL, hPL⟩ : ∃ PL, PL = pp.length := ⟨_, rfl⟩
                have HPL : Hid _ := hPL
                have hwr : IntKind.i64.wrap ((U : Int) + (PL : Int)) = (U : Int) + (PL : Int) := wrapI _ (by omega) (by omega)
                have q12 : W.drew.cell? ⟨q, 1, none⟩ = some (.slice fa i fc) ∧ W.drew.cell? ⟨wr.heap.size, 1, none⟩ = some (.slice pa pp.length pc) := ⟨x1, b1⟩
                rw [← hPL] at b1 hr3 hsz3 pc0 hdl hdd2 hpl q12
                rw [← hPL] at HEW HX
                clear hrv hfc
                by_cases hfull : (PL : Int) ≤ D.room - U
                · have hd3 : decide (room < IntKind.i64.wrap ((U : Int) + (PL : Int))) = false := decide_eq_false (by rw [hwr]; have := HX.out.2.2.1; omega)
                  have hd4 : ¬ room < IntKind.i64.wrap ((U : Int) + (PL : Int)) := by rw [hwr]; have := HX.out.2.2.1; omega
                  have HET : Hid (D.errT ⟨nm, pp, du⟩ = 0) := by
                    show _ = _
                    unfold DkD.errT
                    rw [if_neg h22, if_neg (by intro e; rcases e with e | e; exact hdn e; apply hdl; rw [hPL]; exact e), if_pos (by show (pp.length : Int) ≤ D.room - usedD D.files; rw [← hPL, ← hU]; exact hfull)]
                  have HNX : Hid (DkOk { D with files := insF D.files ⟨nm, pp, du⟩ } ∧ D.room = room ∧ (insF D.files ⟨nm, pp, du⟩).length = i + 1 ∧ r = takeL { D with files := insF D.files ⟨nm, pp, du⟩ } ((l.drop (i + 1)).map FlK.fi)) := by
                    refine ⟨take_ok HX.out.2.1 HET.out, HX.out.2.2.1, ?_, ?_⟩
                    · unfold insF
                      have h15 := pl_le D.files nm
                      have h16 := HX.out.2.2.2.1
                      simp
                      omega
                    · have h9 := HRR.out
                      unfold takeL at h9
                      have h10 : D.errT (FlK.fi ⟨nm, pa, pc, pp, du⟩) = 0 := HET.out
                      rw [if_pos h10] at h9
                      exact h9
                  have HC14 : Hid (Calls Tryz.prog 28 #[.slice pa PL pc] W.drew.drew fun e w3 => ∃ x' y', e = .returned (.slice x' PL y') ∧ (w3.cell? ⟨wr.heap.size, 0, none⟩ = some (.string nm) ∧ w3.cell? ⟨wr.heap.size, 1, none⟩ = some (.slice pa PL pc) ∧ w3.cell? ⟨wr.heap.size, 2, none⟩ = some (.int .i64 du)) ∧ w3.cell? ⟨q, 1, none⟩ = some (.slice fa i fc) ∧ q < w3.heap.size ∧ Hid (Calls Tryz.prog 27 #[.slice fa i fc, .agg #[.string nm, .slice x' PL y', .int .i64 du]] w3 fun e w5 => ∃ xx ll yy, e = .returned (.slice xx ll yy) ∧ Hid (∃ rv' vs', RunR w q (w5.setCell ⟨q, 1, none⟩ (.slice xx ll yy)) rv' vs' (rdOf { D with files := insF D.files ⟨nm, pp, du⟩ } room)) ∧ (∃ x0 l0 y0, w5.cell? ⟨q, 1, none⟩ = some (.slice x0 l0 y0)) ∧ w5.frozen? ⟨q, 1, none⟩ = false ∧ q < w5.heap.size ∧ (w5.cell? ⟨wr.heap.size, 0, none⟩ = some (.string nm) ∧ w5.cell? ⟨wr.heap.size, 1, none⟩ = some (.slice pa PL pc) ∧ w5.cell? ⟨wr.heap.size, 2, none⟩ = some (.int .i64 du)) ∧ ((w5.setCell ⟨q, 1, none⟩ (.slice xx ll yy)).cell? ⟨wr.heap.size, 0, none⟩ = some (.string nm) ∧ (w5.setCell ⟨q, 1, none⟩ (.slice xx ll yy)).cell? ⟨wr.heap.size, 1, none⟩ = some (.slice pa PL pc) ∧ (w5.setCell ⟨q, 1, none⟩ (.slice xx ll yy)).cell? ⟨wr.heap.size, 2, none⟩ = some (.int .i64 du)))) := by
                    have hbdd : Below W.heap.size W W.drew.drew := below_drewN (Below.refl _ _) 2
                    have hs : Sees W.drew.drew (.slice pa PL pc) pp := by
                      have h17 := HX.out.2.2.2.2.1.see.below hbdd (Nat.le_refl _)
                      unfold FlK.pv at h17
                      rw [hPL]
                      exact h17
                    refine (copyBytes_any _ _ W.drew.drew hs (by rw [← hPL]; omega)).mono ?_
                    rintro e w3 ⟨v', rfl, ho3, hb3⟩
                    have hbW3 : Below W.heap.size W w3 := Below.step hbdd hb3
                    obtain ⟨x', y', e', _⟩ := own_shape (owns_mono ho3 (Nat.zero_le _))
                    rw [← hPL] at e'
                    subst e'
                    have hrow3 : w3.heap[wr.heap.size]? = some (.cells #[.string nm, .slice pa PL pc, .int .i64 du] 71 (0, 0)) := (Below.kept hbW3).heap HX.out.2.2.2.2.2 (fun e => by omega)
                    have i3 := HX.out.1.is.later hbW3
                    have hqw : q ≠ wr.heap.size := fun e => by
                      have h18 := HX.out.1.is.row
                      rw [e, HX.out.2.2.2.2.2] at h18
                      simp only [Option.some.injEq, Obj.cells.injEq] at h18
                      exact absurd h18.2.1 (by decide)
                    refine ⟨x', y', rfl, ⟨cell_of_row w3 _ 0 _ _ _ hrow3, cell_of_row w3 _ 1 _ _ _ hrow3, cell_of_row w3 _ 2 _ _ _ hrow3⟩, by rw [← HRV.out]; exact i3.cells.2.1, lt_of_block i3.row, ?_⟩
                    have h19 := from_step HX.out.1 HX.out.2.1.rise ⟨nm, pp, du⟩ hh (by have := HX.out.2.2.2.1; omega) hbW3 (owns_mono ho3 (Nat.zero_le _)) (fun k e => by have h20 := (ho3.lt k e).1; have h21 : W.drew.drew.heap.size = W.heap.size := rfl; omega)
                    rw [HRV.out] at h19
                    refine Calls.mono h19 ?_
                    rintro e w5 ⟨xx, ll, yy, rfl, HRN, d5, f5, l5, hb5⟩
                    have hrow5 : w5.heap[wr.heap.size]? = some (.cells #[.string nm, .slice pa PL pc, .int .i64 du] 71 (0, 0)) := (Below.kept hb5.out).heap hrow3 (fun e => by have := lt_of_block hrow3; omega)
                    have hrow6 : (w5.setCell ⟨q, 1, none⟩ (.slice xx ll yy)).heap[wr.heap.size]? = some (.cells #[.string nm, .slice pa PL pc, .int .i64 du] 71 (0, 0)) := (Kept.setCell (Kept.refl w5 (fun k => k = q)) ⟨q, 1, none⟩ _ (fun _ => rfl)).heap hrow5 (fun e => hqw e.symm)
                    exact ⟨xx, ll, yy, rfl, HRN, d5, f5, l5, ⟨cell_of_row w5 _ 0 _ _ _ hrow5, cell_of_row w5 _ 1 _ _ _ hrow5, cell_of_row w5 _ 2 _ _ _ hrow5⟩, ⟨cell_of_row _ _ 0 _ _ _ hrow6, cell_of_row _ _ 1 _ _ _ hrow6, cell_of_row _ _ 2 _ _ _ hrow6⟩⟩
                  have c14 : W.drew.drew.cell? ⟨q, 1, none⟩ = some (.slice fa i fc) := x1
                  have q14 : W.drew.drew.cell? ⟨wr.heap.size, 0, none⟩ = some (.string nm) ∧ W.drew.drew.cell? ⟨wr.heap.size, 1, none⟩ = some (.slice pa PL pc) ∧ W.drew.drew.cell? ⟨wr.heap.size, 2, none⟩ = some (.int .i64 du) := ⟨b0, b1, b2⟩
                  clear hm hh ea h22 hU hPL hwr HET
                  go_wp2_with (refine wpList_load_mid rfl 71 _ rfl b (off + i * 3) rfl [.string nm, .slice pa PL pc, .int .i64 du] _ hr3 Tryz.underlying71 rfl hsz3 ?_)
                  rw [← HEW.out]
                  refine Calls.mono HNM.out ?_
                  rintro e w4 ⟨rfl, hw4⟩
                  subst w4
                  go_wp2_with fail
                  refine Calls.mono HAT.out ?_
                  rintro e w4 ⟨rfl, hw4⟩
                  subst w4
                  go_upto_region 12 with fail
                  go_region_held (fun w' => w'.cell? ⟨q, 1, none⟩ = some (.slice fa i fc) ∧ w'.cell? ⟨wr.heap.size, 1, none⟩ = some (.slice pa PL pc)) (first | exact q12 | go_keep) (first | (go_at_call 26; refine Calls.mono HSU.out ?_; rintro e w' ⟨rfl, hw'⟩; subst hw'))
                  go_upto_region 14 with fail
                  refine wp_region_held_drew (S := (fun w' => w'.cell? ⟨wr.heap.size, 0, none⟩ = some (.string nm) ∧ w'.cell? ⟨wr.heap.size, 1, none⟩ = some (.slice pa PL pc) ∧ w'.cell? ⟨wr.heap.size, 2, none⟩ = some (.int .i64 du))) (by kernel_rfl) ?_ (fun hHeld => ?_)
                  · exact q14
                  refine wpAnyH_take (i := 0) (oi := { dst := some 65, op := Op.move (Operand.tmp 6), type := 28, pos := "ref.go:103", after := #[], guard := none }) (v := ?_) rfl (by kernel_rfl) (by kernel_rfl) (by kernel_rfl) (fun _ _ _ h => h) (Or.inl ⟨by rfl, ?_⟩) (by assumption) ?_
                  rotate_left
                  · (intro w hSw; (try dsimp only at hSw); go_simp) <;> with_reducible rfl
                  try simp only [Act.put, List.setIfInBounds_toArray, List.set_cons_zero, List.set_cons_succ]
                  refine wpAnyH_take (i := 1) (oi := { dst := some 66, op := Op.move (Operand.tmp 6), type := 28, pos := "ref.go:103", after := #[], guard := none }) (v := ?_) rfl (by kernel_rfl) (by kernel_rfl) (by kernel_rfl) (fun _ _ _ h => h) (Or.inl ⟨by rfl, ?_⟩) (by assumption) ?_
                  rotate_left
                  · (intro w hSw; (try dsimp only at hSw); go_simp) <;> with_reducible rfl
                  try simp only [Act.put, List.setIfInBounds_toArray, List.set_cons_zero, List.set_cons_succ]
                  refine wpAnyH_take (i := 2) (oi := { dst := some 67, op := Op.nilCheck (Operand.tmp 66), type := 0, pos := "ref.go:103", after := #[{ on := 1, ground := Ground.data }], guard := none }) (v := ?_) rfl (by kernel_rfl) (by kernel_rfl) (by kernel_rfl) (fun _ _ _ h => h) (Or.inl ⟨by rfl, ?_⟩) (by assumption) ?_
                  rotate_left
                  · (intro w hSw; (try dsimp only at hSw); go_simp) <;> with_reducible rfl
                  try simp only [Act.put, List.setIfInBounds_toArray, List.set_cons_zero, List.set_cons_succ]
                  refine wpAnyH_take (i := 3) (oi := { dst := some 68, op := Op.fieldAddr 83 (Operand.tmp 67) 1, type := 0, pos := "ref.go:103", after := #[{ on := 2, ground := Ground.data }], guard := none }) (v := ?_) rfl (by kernel_rfl) (by kernel_rfl) (by kernel_rfl) (fun _ _ _ h => h) (Or.inl ⟨by rfl, ?_⟩) (by assumption) ?_
                  rotate_left
                  · (intro w hSw; (try dsimp only at hSw); go_simp) <;> with_reducible rfl
                  try simp only [Act.put, List.setIfInBounds_toArray, List.set_cons_zero, List.set_cons_succ]
                  refine wpAnyH_take (i := 5) (oi := { dst := some 70, op := Op.fieldAddr 71 (Operand.tmp 9) 0, type := 0, pos := "ref.go:103", after := #[], guard := none }) (v := ?_) rfl (by kernel_rfl) (by kernel_rfl) (by kernel_rfl) (fun _ _ _ h => h) (Or.inl ⟨by rfl, ?_⟩) (by assumption) ?_
                  rotate_left
                  · (intro w hSw; (try dsimp only at hSw); go_simp) <;> with_reducible rfl
                  try simp only [Act.put, List.setIfInBounds_toArray, List.set_cons_zero, List.set_cons_succ]
                  refine wpAnyH_take (i := 6) (oi := { dst := some 71, op := Op.load 9 (Operand.tmp 70), type := 9, pos := "ref.go:103", after := #[{ on := 5, ground := Ground.data }], guard := none }) (v := ?_) rfl (by kernel_rfl) (by kernel_rfl) (by kernel_rfl) (fun _ _ _ h => h) (Or.inl ⟨by rfl, ?_⟩) (by assumption) ?_
                  rotate_left
                  · (intro w hSw; (try dsimp only at hSw); go_simp) <;> with_reducible rfl
                  try simp only [Act.put, List.setIfInBounds_toArray, List.set_cons_zero, List.set_cons_succ]
                  refine wpAnyH_take (i := 7) (oi := { dst := some 72, op := Op.fieldAddr 71 (Operand.tmp 9) 1, type := 0, pos := "ref.go:103", after := #[], guard := none }) (v := ?_) rfl (by kernel_rfl) (by kernel_rfl) (by kernel_rfl) (fun _ _ _ h => h) (Or.inl ⟨by rfl, ?_⟩) (by assumption) ?_
                  rotate_left
                  · (intro w hSw; (try dsimp only at hSw); go_simp) <;> with_reducible rfl
                  try simp only [Act.put, List.setIfInBounds_toArray, List.set_cons_zero, List.set_cons_succ]
                  refine wpAnyH_take (i := 8) (oi := { dst := some 73, op := Op.load 58 (Operand.tmp 72), type := 58, pos := "ref.go:103", after := #[{ on := 7, ground := Ground.data }], guard := none }) (v := ?_) rfl (by kernel_rfl) (by kernel_rfl) (by kernel_rfl) (fun _ _ _ h => h) (Or.inl ⟨by rfl, ?_⟩) (by assumption) ?_
                  rotate_left
                  · (intro w hSw; (try dsimp only at hSw); go_simp) <;> with_reducible rfl
                  try simp only [Act.put, List.setIfInBounds_toArray, List.set_cons_zero, List.set_cons_succ]
                  refine wpAnyH_take (i := 10) (oi := { dst := some 75, op := Op.fieldAddr 71 (Operand.tmp 9) 2, type := 0, pos := "ref.go:103", after := #[], guard := none }) (v := ?_) rfl (by kernel_rfl) (by kernel_rfl) (by kernel_rfl) (fun _ _ _ h => h) (Or.inl ⟨by rfl, ?_⟩) (by assumption) ?_
                  rotate_left
                  · (intro w hSw; (try dsimp only at hSw); go_simp) <;> with_reducible rfl
                  try simp only [Act.put, List.setIfInBounds_toArray, List.set_cons_zero, List.set_cons_succ]
                  refine wpAnyH_take (i := 11) (oi := { dst := some 76, op := Op.load 3 (Operand.tmp 75), type := 3, pos := "ref.go:103", after := #[{ on := 10, ground := Ground.data }], guard := none }) (v := ?_) rfl (by kernel_rfl) (by kernel_rfl) (by kernel_rfl) (fun _ _ _ h => h) (Or.inl ⟨by rfl, ?_⟩) (by assumption) ?_
                  rotate_left
                  · (intro w hSw; (try dsimp only at hSw); go_simp) <;> with_reducible rfl
                  try simp only [Act.put, List.setIfInBounds_toArray, List.set_cons_zero, List.set_cons_succ]
                  refine wpAnyH_ready (rs := [4, 9]) (by kernel_rfl) (by simp) ?_
                  refine AllReadyH.cons (o := { dst := some 69, op := Op.load 22 (Operand.tmp 68), type := 22, pos := "ref.go:103", after := #[{ on := 3, ground := Ground.data }], guard := none }) rfl (fun K hK => ?_) (AllReadyH.cons (o := { dst := some 74, op := Op.call { callee := Callee.value (Operand.func 28), args := #[Operand.tmp 73], argTypes := #[58] }, type := 58, pos := "ref.go:103", after := #[{ on := 8, ground := Ground.data }], guard := none }) rfl (fun K hK => ?_) AllReadyH.nil)
                  · go_simp
                    refine hK.out _ _ (by assumption) (fun hHeld => ?_)
                    clear hK K
                    refine wpAnyH_ready (rs := [9]) (by kernel_rfl) (by simp) ?_
                    refine AllReadyH.cons (o := { dst := some 74, op := Op.call { callee := Callee.value (Operand.func 28), args := #[Operand.tmp 73], argTypes := #[58] }, type := 58, pos := "ref.go:103", after := #[{ on := 8, ground := Ground.data }], guard := none }) rfl (fun K hK => ?_) AllReadyH.nil
                    go_simp
                    refine Calls.mono HC14.out ?_
                    rintro e w3 ⟨x', y', rfl, s3, d3, l3, HWI⟩
                    refine hK.out _ _ s3 (fun hHeld => ?_)
                    clear hK K
                    refine wpAnyH_take (i := 12) (oi := { dst := some 77, op := Op.build 71 #[(0, Operand.tmp 71), (1, Operand.tmp 74), (2, Operand.tmp 76)], type := 71, pos := "ref.go:103", after := #[{ on := 6, ground := Ground.data }, { on := 9, ground := Ground.data }, { on := 11, ground := Ground.data }], guard := none }) (v := ?_) rfl (by kernel_rfl) (by kernel_rfl) (by kernel_rfl) (fun _ _ _ h => h) (Or.inl ⟨by rfl, ?_⟩) (by assumption) ?_
                    rotate_left
                    · (intro w hSw; (try dsimp only at hSw); go_simp) <;> with_reducible rfl
                    try simp only [Act.put, List.setIfInBounds_toArray, List.set_cons_zero, List.set_cons_succ]
                    refine wpAnyH_ready (rs := [13]) (by kernel_rfl) (by simp) ?_
                    refine AllReadyH.cons (o := { dst := some 78, op := Op.call { callee := Callee.value (Operand.func 27), args := #[Operand.tmp 69, Operand.tmp 77], argTypes := #[22, 71] }, type := 22, pos := "ref.go:103", after := #[{ on := 4, ground := Ground.data }, { on := 12, ground := Ground.data }, { on := 9, ground := Ground.chain }], guard := none }) rfl (fun K hK => ?_) AllReadyH.nil
                    go_simp
                    refine Calls.mono HWI.out ?_
                    rintro e w5 ⟨xx, ll, yy, rfl, HRN, ⟨x0, l0, y0, d5⟩, f5, l5, s5, s6⟩
                    refine hK.out _ _ s5 (fun hHeld => ?_)
                    clear hK K
                    refine wpAnyH_take (i := 14) (oi := { dst := some 79, op := Op.nilCheck (Operand.tmp 65), type := 0, pos := "ref.go:103", after := #[{ on := 0, ground := Ground.data }, { on := 0, ground := Ground.phase }, { on := 1, ground := Ground.phase }, { on := 2, ground := Ground.phase }, { on := 3, ground := Ground.phase }, { on := 4, ground := Ground.phase }, { on := 5, ground := Ground.phase }, { on := 6, ground := Ground.phase }, { on := 7, ground := Ground.phase }, { on := 8, ground := Ground.phase }, { on := 9, ground := Ground.phase }, { on := 10, ground := Ground.phase }, { on := 11, ground := Ground.phase }, { on := 12, ground := Ground.phase }, { on := 13, ground := Ground.phase }], guard := none }) (v := ?_) rfl (by kernel_rfl) (by kernel_rfl) (by kernel_rfl) (fun _ _ _ h => h) (Or.inl ⟨by rfl, ?_⟩) (by assumption) ?_
                    rotate_left
                    · (intro w hSw; (try dsimp only at hSw); go_simp) <;> with_reducible rfl
                    try simp only [Act.put, List.setIfInBounds_toArray, List.set_cons_zero, List.set_cons_succ]
                    refine wpAnyH_take (i := 15) (oi := { dst := some 80, op := Op.fieldAddr 83 (Operand.tmp 79) 1, type := 0, pos := "ref.go:103", after := #[{ on := 14, ground := Ground.data }, { on := 0, ground := Ground.phase }, { on := 1, ground := Ground.phase }, { on := 2, ground := Ground.phase }, { on := 3, ground := Ground.phase }, { on := 4, ground := Ground.phase }, { on := 5, ground := Ground.phase }, { on := 6, ground := Ground.phase }, { on := 7, ground := Ground.phase }, { on := 8, ground := Ground.phase }, { on := 9, ground := Ground.phase }, { on := 10, ground := Ground.phase }, { on := 11, ground := Ground.phase }, { on := 12, ground := Ground.phase }, { on := 13, ground := Ground.phase }], guard := none }) (v := ?_) rfl (by kernel_rfl) (by kernel_rfl) (by kernel_rfl) (fun _ _ _ h => h) (Or.inl ⟨by rfl, ?_⟩) (by assumption) ?_
                    rotate_left
                    · (intro w hSw; (try dsimp only at hSw); go_simp) <;> with_reducible rfl
                    try simp only [Act.put, List.setIfInBounds_toArray, List.set_cons_zero, List.set_cons_succ]
                    refine wpAnyH_ready (rs := [16]) (by kernel_rfl) (by simp) ?_
                    refine AllReadyH.cons (o := { dst := none, op := Op.store 22 (Operand.tmp 80) (Operand.tmp 78), type := 0, pos := "ref.go:103", after := #[{ on := 15, ground := Ground.data }, { on := 13, ground := Ground.data }, { on := 13, ground := Ground.chain }, { on := 0, ground := Ground.phase }, { on := 1, ground := Ground.phase }, { on := 2, ground := Ground.phase }, { on := 3, ground := Ground.phase }, { on := 4, ground := Ground.phase }, { on := 5, ground := Ground.phase }, { on := 6, ground := Ground.phase }, { on := 7, ground := Ground.phase }, { on := 8, ground := Ground.phase }, { on := 9, ground := Ground.phase }, { on := 10, ground := Ground.phase }, { on := 11, ground := Ground.phase }, { on := 12, ground := Ground.phase }, { on := 13, ground := Ground.phase }], guard := none }) rfl (fun K hK => ?_) AllReadyH.nil
                    go_simp
                    refine hK.out _ _ s6 (fun hHeld => ?_)
                    clear hK K
                    refine wpAnyH_done (by kernel_rfl) ?_ _
                    go_wp2_with fail
                    go_roundw
                    case rel =>
                      refine ⟨i + 1, by omega, by go_num, ?_⟩
                      obtain ⟨rv', vs', h22⟩ := HRN.out
                      exact ⟨rv', vs', _, h22, HNX.out.1, HNX.out.2.1, HNX.out.2.2.1, HNX.out.2.2.2⟩
                    case measure => simp [intOf]; omega
                  · go_simp
                    refine Calls.mono HC14.out ?_
                    rintro e w3 ⟨x', y', rfl, s3, d3, l3, HWI⟩
                    refine hK.out _ _ s3 (fun hHeld => ?_)
                    clear hK K
                    refine wpAnyH_take (i := 12) (oi := { dst := some 77, op := Op.build 71 #[(0, Operand.tmp 71), (1, Operand.tmp 74), (2, Operand.tmp 76)], type := 71, pos := "ref.go:103", after := #[{ on := 6, ground := Ground.data }, { on := 9, ground := Ground.data }, { on := 11, ground := Ground.data }], guard := none }) (v := ?_) rfl (by kernel_rfl) (by kernel_rfl) (by kernel_rfl) (fun _ _ _ h => h) (Or.inl ⟨by rfl, ?_⟩) (by assumption) ?_
                    rotate_left
                    · (intro w hSw; (try dsimp only at hSw); go_simp) <;> with_reducible rfl
                    try simp only [Act.put, List.setIfInBounds_toArray, List.set_cons_zero, List.set_cons_succ]
                    refine wpAnyH_ready (rs := [4]) (by kernel_rfl) (by simp) ?_
                    refine AllReadyH.cons (o := { dst := some 69, op := Op.load 22 (Operand.tmp 68), type := 22, pos := "ref.go:103", after := #[{ on := 3, ground := Ground.data }], guard := none }) rfl (fun K hK => ?_) AllReadyH.nil
                    go_simp
                    refine hK.out _ _ (by assumption) (fun hHeld => ?_)
                    clear hK K
                    refine wpAnyH_ready (rs := [13]) (by kernel_rfl) (by simp) ?_
                    refine AllReadyH.cons (o := { dst := some 78, op := Op.call { callee := Callee.value (Operand.func 27), args := #[Operand.tmp 69, Operand.tmp 77], argTypes := #[22, 71] }, type := 22, pos := "ref.go:103", after := #[{ on := 4, ground := Ground.data }, { on := 12, ground := Ground.data }, { on := 9, ground := Ground.chain }], guard := none }) rfl (fun K hK => ?_) AllReadyH.nil
                    go_simp
                    refine Calls.mono HWI.out ?_
                    rintro e w5 ⟨xx, ll, yy, rfl, HRN, ⟨x0, l0, y0, d5⟩, f5, l5, s5, s6⟩
                    refine hK.out _ _ s5 (fun hHeld => ?_)
                    clear hK K
                    refine wpAnyH_take (i := 14) (oi := { dst := some 79, op := Op.nilCheck (Operand.tmp 65), type := 0, pos := "ref.go:103", after := #[{ on := 0, ground := Ground.data }, { on := 0, ground := Ground.phase }, { on := 1, ground := Ground.phase }, { on := 2, ground := Ground.phase }, { on := 3, ground := Ground.phase }, { on := 4, ground := Ground.phase }, { on := 5, ground := Ground.phase }, { on := 6, ground := Ground.phase }, { on := 7, ground := Ground.phase }, { on := 8, ground := Ground.phase }, { on := 9, ground := Ground.phase }, { on := 10, ground := Ground.phase }, { on := 11, ground := Ground.phase }, { on := 12, ground := Ground.phase }, { on := 13, ground := Ground.phase }], guard := none }) (v := ?_) rfl (by kernel_rfl) (by kernel_rfl) (by kernel_rfl) (fun _ _ _ h => h) (Or.inl ⟨by rfl, ?_⟩) (by assumption) ?_
                    rotate_left
                    · (intro w hSw; (try dsimp only at hSw); go_simp) <;> with_reducible rfl
                    try simp only [Act.put, List.setIfInBounds_toArray, List.set_cons_zero, List.set_cons_succ]
                    refine wpAnyH_take (i := 15) (oi := { dst := some 80, op := Op.fieldAddr 83 (Operand.tmp 79) 1, type := 0, pos := "ref.go:103", after := #[{ on := 14, ground := Ground.data }, { on := 0, ground := Ground.phase }, { on := 1, ground := Ground.phase }, { on := 2, ground := Ground.phase }, { on := 3, ground := Ground.phase }, { on := 4, ground := Ground.phase }, { on := 5, ground := Ground.phase }, { on := 6, ground := Ground.phase }, { on := 7, ground := Ground.phase }, { on := 8, ground := Ground.phase }, { on := 9, ground := Ground.phase }, { on := 10, ground := Ground.phase }, { on := 11, ground := Ground.phase }, { on := 12, ground := Ground.phase }, { on := 13, ground := Ground.phase }], guard := none }) (v := ?_) rfl (by kernel_rfl) (by kernel_rfl) (by kernel_rfl) (fun _ _ _ h => h) (Or.inl ⟨by rfl, ?_⟩) (by assumption) ?_
                    rotate_left
                    · (intro w hSw; (try dsimp only at hSw); go_simp) <;> with_reducible rfl
                    try simp only [Act.put, List.setIfInBounds_toArray, List.set_cons_zero, List.set_cons_succ]
                    refine wpAnyH_ready (rs := [16]) (by kernel_rfl) (by simp) ?_
                    refine AllReadyH.cons (o := { dst := none, op := Op.store 22 (Operand.tmp 80) (Operand.tmp 78), type := 0, pos := "ref.go:103", after := #[{ on := 15, ground := Ground.data }, { on := 13, ground := Ground.data }, { on := 13, ground := Ground.chain }, { on := 0, ground := Ground.phase }, { on := 1, ground := Ground.phase }, { on := 2, ground := Ground.phase }, { on := 3, ground := Ground.phase }, { on := 4, ground := Ground.phase }, { on := 5, ground := Ground.phase }, { on := 6, ground := Ground.phase }, { on := 7, ground := Ground.phase }, { on := 8, ground := Ground.phase }, { on := 9, ground := Ground.phase }, { on := 10, ground := Ground.phase }, { on := 11, ground := Ground.phase }, { on := 12, ground := Ground.phase }, { on := 13, ground := Ground.phase }], guard := none }) rfl (fun K hK => ?_) AllReadyH.nil
                    go_simp
                    refine hK.out _ _ s6 (fun hHeld => ?_)
                    clear hK K
                    refine wpAnyH_done (by kernel_rfl) ?_ _
                    go_wp2_with fail
                    go_roundw
                    case rel =>
                      refine ⟨i + 1, by omega, by go_num, ?_⟩
                      obtain ⟨rv', vs', h22⟩ := HRN.out
                      exact ⟨rv', vs', _, h22, HNX.out.1, HNX.out.2.1, HNX.out.2.2.1, HNX.out.2.2.2⟩
                    case measure => simp [intOf]; omega
                · have hd3 : decide (room < IntKind.i64.wrap ((U : Int) + (PL : Int))) = true := decide_eq_true (by rw [hwr]; have := HX.out.2.2.1; omega)
                  have hd4 : room < IntKind.i64.wrap ((U : Int) + (PL : Int)) := by rw [hwr]; have := HX.out.2.2.1; omega
                  have HE5 : Hid (r = (21, D)) := HERR.out 21 (by decide) (by unfold DkD.errT; rw [if_neg h22, if_neg (by intro e; rcases e with e | e; exact hdn e; apply hdl; rw [hPL]; exact e), if_neg (by show ¬ (pp.length : Int) ≤ D.room - usedD D.files; rw [← hPL, ← hU]; exact hfull)])
                  have HN5 : Hid ((21 : Int) ≠ 0) := by show _ ≠ _; decide
                  clear hm hh ea h22 hU hPL hwr
                  go_wp2_with (refine wpList_load_mid rfl 71 _ rfl b (off + i * 3) rfl [.string nm, .slice pa PL pc, .int .i64 du] _ hr3 Tryz.underlying71 rfl hsz3 ?_)
                  rw [← HEW.out]
                  refine Calls.mono HNM.out ?_
                  rintro e w4 ⟨rfl, hw4⟩
                  subst w4
                  go_wp2_with fail
                  refine Calls.mono HAT.out ?_
                  rintro e w4 ⟨rfl, hw4⟩
                  subst w4
                  go_upto_region 12 with fail
                  go_region_held (fun w' => w'.cell? ⟨q, 1, none⟩ = some (.slice fa i fc) ∧ w'.cell? ⟨wr.heap.size, 1, none⟩ = some (.slice pa PL pc)) (first | exact q12 | go_keep) (first | (go_at_call 26; refine Calls.mono HSU.out ?_; rintro e w' ⟨rfl, hw'⟩; subst hw'))
                  have HBE2 : Hid (Below w.heap.size w W.drew) := below_drewN HBE.out 1
                  go_wp2_with fail
                  go_ret2
                  exact .inr ⟨by rw [HE5.out]; exact HN5.out, by rw [HE5.out]; rfl, HBE2.out⟩
        · obtain ⟨P, hP⟩ : ∃ P, P = pl D.files nm := ⟨_, rfl⟩
          have ea : atI D.files nm = (P : Int) := by unfold atI; rw [hh, hP]; rfl
          rw [ea] at HAT
          have hge : decide ((P : Int) ≥ 0) = true := decide_eq_true (by omega)
          have HE5 : Hid (r = (22, D)) := HERR.out 22 (by decide) (by unfold DkD.errT; rw [if_pos (.inr (.inl hh))])
          have HN5 : Hid ((22 : Int) ≠ 0) := by show _ ≠ _; decide
          clear hm hh ea hP
          go_wp2_with (refine wpList_load_mid rfl 71 _ rfl b (off + i * 3) rfl [.string nm, .slice pa pp.length pc, .int .i64 du] _ hr3 Tryz.underlying71 rfl hsz3 ?_)
          rw [← HEW.out]
          refine Calls.mono HNM.out ?_
          rintro e w4 ⟨rfl, hw4⟩
          subst w4
          go_wp2_with fail
          refine Calls.mono HAT.out ?_
          rintro e w4 ⟨rfl, hw4⟩
          subst w4
          go_wp2_with fail
          go_ret2
          exact .inr ⟨by rw [HE5.out]; exact HN5.out, by rw [HE5.out]; rfl, HBE.out⟩
    · obtain rfl : i = l.length := by omega
      rw [List.drop_of_length_le (Nat.le_refl _)] at hrr
      have HU : Hid _ := And.intro hrun hrr
      clear hrun hrr hok hroom hlen
      go_wp2_with fail
      go_ret2
      have e5 : r = (0, D) := HU.out.2
      refine .inl ⟨by rw [e5], ?_, rv, vs, ?_⟩
      · rw [← HQ.out]; rfl
      · rw [← HQ.out, e5]; exact HU.out.1
end Go.Proofs.YtbdokdhconhifaaGreatDoor
