/- DiskAgain of the statements of layer 2, walked: true for every room and two scripts. -/
import Derived.Test.YtofgkbpopfgefaaDlD
namespace Go.Proofs.Ytofgkbpopfgefaa
open Go.RowKit Go.Shelf
set_option maxRecDepth 8000

/-- Two disks that answer alike. -/
structure Twin (D C : DkD) : Prop where
  files : C.files = D.files
  room : C.room = D.room
  on : C.on = D.on
  a1 : D.armed = -1
  a2 : C.armed = -1

theorem twin_act {D C : DkD} (h : Twin D C) (e : Int) (fs : List FiD) : (C.act e fs).1 = (D.act e fs).1 ∧ Twin (D.act e fs).2 (C.act e fs).2 := by
  by_cases he : e = 0
  · subst he
    rw [act_done (D := D) (by rw [h.a1]; decide), act_done (D := C) (by rw [h.a2]; decide)]
    exact ⟨rfl, rfl, h.room, h.on, by show max (D.armed - 1) (-1) = -1; rw [h.a1]; omega, by show max (C.armed - 1) (-1) = -1; rw [h.a2]; omega⟩
  · rw [act_err he, act_err he]
    exact ⟨rfl, h⟩

theorem twin_actK {D C : DkD} (h : Twin D C) (o : OpK) : (actK C o).1 = (actK D o).1 ∧ Twin (actK D o).2 (actK C o).2 := by
  have e2 : ∀ n, C.errO n = D.errO n := fun n => by unfold DkD.errO; rw [h.on, h.files]
  have e1 : C.errA o.name o.p.length = D.errA o.name o.p.length := by unfold DkD.errA; rw [h.on, h.files, h.room]
  have e3 : C.errC o.name o.n = D.errC o.name o.n := by unfold DkD.errC; rw [e2, h.files]
  have e4 : C.errR o.name o.dest = D.errR o.name o.dest := by unfold DkD.errR; rw [h.on, h.files]
  unfold actK
  rw [e1, e2, e3, e4, h.files]
  split
  · exact twin_act h _ _
  · split
    · exact twin_act h _ _
    · split
      · exact twin_act h _ _
      · split
        · exact twin_act h _ _
        · split
          · exact twin_act h _ _
          · exact ⟨rfl, h⟩

theorem twin_off {D C : DkD} (h : Twin D C) : Twin D.off C.off := by
  unfold DkD.off
  rw [h.on]
  split
  · exact ⟨h.files, h.room, rfl, rfl, rfl⟩
  · exact h

theorem twin_start {D C : DkD} (h : Twin D C) (ks : List Int) : Twin (D.start ks) (C.start ks) := by
  unfold DkD.start
  rw [h.on]
  split
  · exact h
  · exact ⟨by show lossF C.files ks = lossF D.files ks; rw [h.files], h.room, rfl, h.a1, h.a2⟩

/-- On and not armed. -/
def Live (D : DkD) : Prop := D.on = true ∧ D.armed = -1
theorem live_act {D : DkD} (h : Live D) (e : Int) (fs : List FiD) : Live (D.act e fs).2 := by
  by_cases he : e = 0
  · subst he
    rw [act_done (by rw [h.2]; decide)]
    exact ⟨h.1, by show max (D.armed - 1) (-1) = -1; rw [h.2]; omega⟩
  · rw [act_err he]
    exact h
theorem live_actK {D : DkD} (h : Live D) (o : OpK) : Live (actK D o).2 := by
  unfold actK
  repeat' split
  all_goals first | exact live_act h _ _ | exact h

set_option maxHeartbeats 4000000 in
theorem again_walk (room : Int) (v1 v2 : Value) (l l2 : List OpK) (w : World) (hl : SeesOpsK w w.heap.size v1 l) (hll : l.length ≤ 140737488355328) (hm : SeesOpsK w w.heap.size v2 l2) (hmm : l2.length ≤ 140737488355328) :
    Calls Try.prog 6 #[.int .i64 room, v1, v2] w fun r w' => r = .returned (.bool true) ∧ Below w.heap.size w w' := by
  have HY : Hid _ := beyond_any room hl hll
  obtain ⟨⟨sa, sc, rfl, hsc, hscm, _⟩, _⟩ := id hl
  obtain ⟨⟨ta, tc, rfl, htc, htcm, _⟩, _⟩ := id hm
  unfold maxLen at hscm htcm
  have HL : Hid (SeesOpsK w w.heap.size (.slice sa l.length sc) l) := hl
  have HM : Hid (SeesOpsK w w.heap.size (.slice ta l2.length tc) l2) := hm
  have HB : Hid (byd l = false → l.length < 2147483647 ∧ ∀ o ∈ l, o.p.length < 2147483647) := byd_false
  have HB2 : Hid (byd l2 = false → l2.length < 2147483647 ∧ ∀ o ∈ l2, o.p.length < 2147483647) := byd_false
  have HY2 : Hid (∀ wx, Below w.heap.size w wx → Calls Try.prog 8 #[.int .i64 room, .slice ta l2.length tc] wx fun e w' => e = .returned (.bool (byd l2)) ∧ Below wx.heap.size wx w') := fun wx hb => beyond_any room (hm.kept (Below.kept hb) (fun j hj e => by omega)) hmm
  generalize byd l = bb at *
  generalize byd l2 = bb2 at *
  clear hl hm
  cases bb
  · obtain ⟨hl1, hl2⟩ := HB.out rfl
    have HL2 : Hid _ := hl2
    clear HB hl2
    go_enter Try.func6, Try.ntmps6
    go_wp2_with fail
    refine Calls.mono HY.out ?_
    rintro e w1 ⟨rfl, hb1⟩
    have H1 : Hid _ := hb1
    have HYY : Hid _ := HY2.out w1 hb1
    clear hb1 HY HY2
    cases bb2
    · obtain ⟨hm1, hm2⟩ := HB2.out rfl
      have HM2 : Hid _ := hm2
      clear HB2 hm2
      go_wp2_with fail
      refine Calls.mono HYY.out ?_
      rintro e w1b ⟨rfl, hb1b⟩
      have H1b : Hid (Below w.heap.size w w1b) := Below.step H1.out hb1b
      clear hb1b HYY H1
      go_wp2_with fail
      refine Calls.mono (lives_yes w1b) ?_
      rintro e w2 ⟨rfl, hb2⟩
      have H2 : Hid (Below w.heap.size w w2) := Below.step H1b.out hb2
      clear hb2 H1b
      by_cases hq : 0 ≤ room ∧ room ≤ 16777216
      · have HN : Hid _ := new_yes room w2 hq
        go_wp2_with fail
        refine Calls.mono HN.out ?_
        rintro e w3 ⟨rfl, hw3⟩
        have H3 : Hid (Run w w2.heap.size w3 (.slice none 0 0) [] (newD room) 0) := by
          rw [hw3]
          refine ⟨isDk_new w2 room, dkOk_new room hq.1 hq.2, by simp, Below.step H2.out (one_allocK _ _), fun j hj => ?_⟩
          simp [foot, Value.ownBlock] at hj
          rw [hj]
          exact H2.out.size
        have hp3 : w2.heap.size < w3.heap.size := by rw [hw3]; simp
        clear hw3 HN
        obtain ⟨p, hp⟩ : ∃ p, p = w2.heap.size := ⟨_, rfl⟩
        rw [← hp] at H3 hp3
        rw [← hp]
        clear hp H2
        go_wp2_with fail
        go_loopw [10] (fun vi wr => ∃ k : Nat, k ≤ l.length ∧ vi = .int .i64 k ∧ Hid (∃ fv ms D, Run w p wr fv ms D k ∧ D.room = room ∧ Live D)) (fun vi _ => l.length - (intOf vi).toNat)
        case atStart => exact ⟨0, Nat.zero_le _, rfl, ⟨_, _, _, H3.out, rfl, rfl, rfl⟩⟩
        case round =>
          obtain ⟨k, hk, rfl, HI⟩ := hrel
          obtain ⟨fv, ms, D, hrun, hroom, hlive⟩ := HI.out
          have HU : Hid _ := hrun
          have HRm : Hid (D.room = room ∧ Live D) := ⟨hroom, hlive⟩
          have hpw := lt_of_block hrun.is.row
          clear hrun HI H3 hp3 hroom hlive
          by_cases hlt : k < l.length
          · have hso : SeesOpsK wr w.heap.size (.slice sa l.length sc) l := HL.out.kept (Below.kept HU.out.bel) (fun j hj e => by omega)
            obtain ⟨⟨_, _, esl, _, _, h0 | ⟨b, off, e2, hb, hr⟩⟩, hgo⟩ := hso
            · rw [h0] at hlt; simp at hlt
            have e3 : sa = some ⟨b, off, none⟩ := by
              have := (Value.slice.inj esl).1
              rw [this]; exact e2
            subst e3
            have hrk : wr.rangeAt b (off + k * 6) l[k].cells := hr k hlt
            have hg := hgo l[k] (List.getElem_mem hlt)
            have hpl : l[k].p.length ≤ 100000000000 := by have := HL2.out l[k] (List.getElem_mem hlt); omega
            have hsz6 : (Try.prog.info? 32).map (·.size) = some l[k].cells.length := Try.opSize
            have hwr : D.writes ≤ 4611686018427387904 := by have := HU.out.writes; omega
            generalize l[k] = o at *
            have HAC : Hid _ := act_any HU.out.is HU.out.ok hwr o w.heap.size hg hpl (fun j hj => HU.out.free j hj)
            clear hr hgo esl e2 hg hpl
            go_wp2_with (refine wpList_load_mid rfl 32 _ rfl b (off + k * 6) rfl o.cells _ hrk Try.underlying32 rfl hsz6 ?_)
            refine Calls.mono HAC.out ?_
            rintro e w5 ⟨rfl, fv5, ms5, ht5⟩
            have H5 : Hid (Run w p w5 fv5 ms5 (actK D o).2 (k + 1) ∧ (actK D o).2.room = room ∧ Live (actK D o).2) := ⟨HU.out.to ht5 (actK_ok HU.out.ok o) (by have := actK_writes D o; have := HU.out.writes; omega), (actK_room D o).trans HRm.out.1, live_actK HRm.out.2 o⟩
            clear ht5 HAC
            go_wp2_with fail
            go_roundw
            case rel => exact ⟨k + 1, by omega, by go_num, ⟨_, _, _, H5.out⟩⟩
            case measure => simp [intOf]; omega
          · obtain rfl : k = l.length := by omega
            have HIM : Hid _ := dImage_any HU.out.is HU.out.ok
            go_wp2_with fail
            refine Calls.mono HIM.out ?_
            rintro e w6 ⟨rfl, ⟨vs1, him⟩, hb6⟩
            have H6 : Hid (Run w p w6 fv ms D l.length) := HU.out.later hb6
            have hfk := HU.out.ok.fok
            rw [HRm.out.1] at hfk
            have HFR : Hid _ := from_yes room him hfk hq.1 hq.2
            have hp6 := lt_of_block H6.out.is.row
            clear him hb6 HIM hfk HU
            generalize D.files.length = FL at *
            go_wp2_with fail
            refine Calls.mono HFR.out ?_
            rintro e w7 ⟨rfl, gv7, ns7, hr7⟩
            have H7 : Hid (Two w p w6.heap.size w7 fv ms D gv7 ns7 (imgD D.files room) l.length ∧ Twin D (imgD D.files room)) := by
              refine ⟨⟨H6.out.later hr7.bel, ⟨hr7.is, hr7.ok, by simp, Below.step H6.out.bel hr7.bel, fun j hj => Nat.le_trans H6.out.bel.size (hr7.apart j hj)⟩, fun j hj e => ?_⟩, rfl, HRm.out.1.symm, HRm.out.2.1.symm, HRm.out.2.2, rfl⟩
              have h1 := H6.out.is.lt hj
              have h2 := hr7.apart j e
              omega
            have hp7 := lt_of_block H7.out.1.one.is.row
            have hq7 := lt_of_block H7.out.1.two.is.row
            clear hr7 HFR H6 hp6
            generalize w6.heap.size = q at *
            go_wp2_with fail
            go_loopw [13] (fun vi wr => ∃ k : Nat, k ≤ l2.length ∧ vi = .int .i64 k ∧ Hid (∃ fv ms D gv ns C, Two w p q wr fv ms D gv ns C (l.length + k) ∧ Twin D C)) (fun vi _ => l2.length - (intOf vi).toNat)
            case atStart => exact ⟨0, Nat.zero_le _, rfl, ⟨_, _, _, _, _, _, H7.out⟩⟩
            case round =>
              obtain ⟨k, hk, rfl, HI⟩ := hrel
              clear H7 hp7 hq7 HRm
              obtain ⟨fv, ms, D, gv, ns, C, htwo, htwin⟩ := HI.out
              have HU : Hid _ := htwo
              have HTw : Hid _ := htwin
              have hpw := lt_of_block htwo.one.is.row
              have hqw := lt_of_block htwo.two.is.row
              clear htwo htwin HI
              by_cases hlt : k < l2.length
              · obtain ⟨⟨_, _, esl, _, _, h0 | ⟨b, off, e2, hb, hr⟩⟩, hgo⟩ := id HM.out
                · rw [h0] at hlt; simp at hlt
                have e3 : ta = some ⟨b, off, none⟩ := by
                  have := (Value.slice.inj esl).1
                  rw [this]; exact e2
                subst e3
                have hrk : w.rangeAt b (off + k * 6) l2[k].cells := hr k hlt
                have hg := hgo l2[k] (List.getElem_mem hlt)
                have hpl : l2[k].p.length ≤ 100000000000 := by have := HM2.out l2[k] (List.getElem_mem hlt); omega
                have hsz6 : (Try.prog.info? 32).map (·.size) = some l2[k].cells.length := Try.opSize
                generalize l2[k] = o at *
                have HO : Hid ((∀ wx, Below w.heap.size w wx → wx.rangeAt b (off + k * 6) o.cells ∧ GoodOpK wx w.heap.size o) ∧ o.p.length ≤ 100000000000) := ⟨fun wx hbx => ⟨fun j x hj => cell_later (hrk j x hj) hbx (Nat.le_refl _), hg.kept (Below.kept hbx) (fun j hj e => by omega)⟩, hpl⟩
                clear hr hgo hg hpl esl e2 hrk
                have HWB : Hid (D.writes ≤ 4611686018427387904 ∧ C.writes ≤ 4611686018427387904) := ⟨by have := HU.out.one.writes; omega, by have := HU.out.two.writes; omega⟩
                obtain ⟨X, D', hX⟩ : ∃ X D', actK D o = (X, D') := ⟨_, _, rfl⟩
                obtain ⟨Y, C', hY'⟩ : ∃ Y C', actK C o = (Y, C') := ⟨_, _, rfl⟩
                have htw := twin_actK HTw.out o
                rw [hX, hY'] at htw
                have hokD := actK_ok HU.out.one.ok o
                have hokC := actK_ok HU.out.two.ok o
                rw [hX] at hokD
                rw [hY'] at hokC
                have hwrD := actK_writes D o
                have hwrC := actK_writes C o
                rw [hX] at hwrD
                rw [hY'] at hwrC
                obtain ⟨rfl, htw'⟩ : Y = X ∧ Twin D' C' := htw
                have HQ : Hid (Twin D' C' ∧ DkOk D' ∧ DkOk C' ∧ D'.writes ≤ D.writes + 1 ∧ C'.writes ≤ C.writes + 1 ∧ actK D o = (Y, D') ∧ actK C o = (Y, C')) := ⟨htw', hokD, hokC, hwrD, hwrC, hX, hY'⟩
                clear htw' hokD hokC hwrD hwrC hX hY'
                have hr7 := (HO.out.1 wr HU.out.one.bel).1
                have hac := act_any HU.out.one.is HU.out.one.ok HWB.out.1 o w.heap.size (HO.out.1 wr HU.out.one.bel).2 HO.out.2 (fun j hj => HU.out.one.free j hj)
                rw [HQ.out.2.2.2.2.2.1] at hac
                have HAC : Hid _ := hac
                clear hac
                go_wp2_with (refine wpList_load_mid rfl 32 _ rfl b (off + k * 6) rfl o.cells _ hr7 Try.underlying32 rfl hsz6 ?_)
                refine Calls.mono HAC.out ?_
                rintro e w8 ⟨rfl, fv8, ms8, ht8⟩
                have H8 : Hid (Two w p q w8 fv8 ms8 D' gv ns C (l.length + (k + 1))) := HU.out.to ht8 HQ.out.2.1 (by show D'.writes ≤ ((l.length + (k + 1) : Nat) : Int); have := HQ.out.2.2.2.1; have := HU.out.one.writes; omega) (by omega)
                have hp8 := lt_of_block H8.out.one.is.row
                have hq8 := lt_of_block H8.out.two.is.row
                have hr8 := (HO.out.1 w8 H8.out.one.bel).1
                have hac := act_any H8.out.two.is H8.out.two.ok HWB.out.2 o w.heap.size (HO.out.1 w8 H8.out.one.bel).2 HO.out.2 (fun j hj => H8.out.two.free j hj)
                rw [HQ.out.2.2.2.2.2.2] at hac
                have HWC : Hid (C.writes ≤ ((l.length + k : Nat) : Int)) := HU.out.two.writes
                have HAC : Hid _ := hac
                clear ht8 hac hpw hqw hr7 HU
                go_wp2_with (refine wpList_load_mid rfl 32 _ rfl b (off + k * 6) rfl o.cells _ hr8 Try.underlying32 rfl hsz6 ?_)
                refine Calls.mono HAC.out ?_
                rintro e w9 ⟨rfl, gv9, ns9, ht9⟩
                have H9 : Hid (Two w p q w9 fv8 ms8 D' gv9 ns9 C' (l.length + (k + 1))) := (H8.out.swap.to ht9 HQ.out.2.2.1 (by show C'.writes ≤ ((l.length + (k + 1) : Nat) : Int); have := HQ.out.2.2.2.2.1; have := HWC.out; omega) (Nat.le_refl _)).swap
                have hp9 := lt_of_block H9.out.one.is.row
                have hq9 := lt_of_block H9.out.two.is.row
                have hr9 := (HO.out.1 w9 H9.out.one.bel).1
                have c0 : w9.cell? ⟨b, off + k * 6, none⟩ = some (.int .i64 o.kind) := hr9 0 _ rfl
                clear ht9 hp8 hq8 hr8 H8 HAC hsz6 hr9
                by_cases h10 : o.kind = 10
                · have hk10 : (o.kind == 10) = true := by simpa using h10
                  have hk12 : (o.kind == 12) = false := by rw [h10]; rfl
                  have HOF : Hid _ := off_any H9.out.one.is
                  clear h10
                  go_wp2_with fail
                  refine Calls.mono HOF.out ?_
                  rintro e wa ⟨rfl, hta⟩
                  have HA : Hid (Two w p q wa fv8 ms8 D'.off gv9 ns9 C' (l.length + (k + 1))) := H9.out.to hta H9.out.one.ok.off (by rw [off_writes]; exact H9.out.one.writes) (Nat.le_refl _)
                  have hpa := lt_of_block HA.out.one.is.row
                  have hqa := lt_of_block HA.out.two.is.row
                  have HOF : Hid _ := off_any HA.out.two.is
                  clear hta H9 hp9 hq9 c0
                  go_wp2_with fail
                  refine Calls.mono HOF.out ?_
                  rintro e wb ⟨rfl, htb⟩
                  have HBb : Hid (Two w p q wb fv8 ms8 D'.off gv9 ns9 C'.off (l.length + (k + 1))) := (HA.out.swap.to htb HA.out.two.ok.off (by rw [off_writes]; exact HA.out.two.writes) (Nat.le_refl _)).swap
                  have hpb := lt_of_block HBb.out.one.is.row
                  have c0b : wb.cell? ⟨b, off + k * 6, none⟩ = some (.int .i64 o.kind) := (HO.out.1 wb HBb.out.one.bel).1 0 _ rfl
                  clear htb HA hpa hqa HOF
                  go_wp2_with fail
                  go_roundw
                  case rel => exact ⟨k + 1, by omega, by go_num, ⟨_, _, _, _, _, _, HBb.out, twin_off HQ.out.1⟩⟩
                  case measure => simp [intOf]; omega
                · have hk10 : (o.kind == 10) = false := by simpa using h10
                  by_cases h12 : o.kind = 12
                  · have hk12 : (o.kind == 12) = true := by simpa using h12
                    have hg9 := (HO.out.1 w9 H9.out.one.bel).2
                    have c5 : w9.cell? ⟨b, off + k * 6 + 5, none⟩ = some (.slice o.ka o.keep.length o.kc) := (HO.out.1 w9 H9.out.one.bel).1 5 _ rfl
                    have HST : Hid _ := start_any H9.out.one.is H9.out.one.ok o.kv o.keep hg9.keep (fun hy j e => (H9.out.one.free j (hg9.kb hy j e)).2)
                    unfold OpK.kv at HST
                    clear h10 h12 hg9
                    go_wp2_with fail
                    refine Calls.mono HST.out ?_
                    rintro e wa ⟨rfl, msa, hta⟩
                    have HA : Hid (Two w p q wa fv8 msa (D'.start o.keep) gv9 ns9 C' (l.length + (k + 1))) := H9.out.to hta (H9.out.one.ok.start _) (by rw [start_writes]; exact H9.out.one.writes) (Nat.le_refl _)
                    have hpa := lt_of_block HA.out.one.is.row
                    have hqa := lt_of_block HA.out.two.is.row
                    have hga := (HO.out.1 wa HA.out.one.bel).2
                    have c5a : wa.cell? ⟨b, off + k * 6 + 5, none⟩ = some (.slice o.ka o.keep.length o.kc) := (HO.out.1 wa HA.out.one.bel).1 5 _ rfl
                    have HST : Hid _ := start_any HA.out.two.is HA.out.two.ok o.kv o.keep hga.keep (fun hy j e => (HA.out.two.free j (hga.kb hy j e)).2)
                    unfold OpK.kv at HST
                    clear hta H9 hp9 hq9 c0 c5 hga
                    go_wp2_with fail
                    refine Calls.mono HST.out ?_
                    rintro e wb ⟨rfl, msb, htb⟩
                    have HBb : Hid (Two w p q wb fv8 msa (D'.start o.keep) gv9 msb (C'.start o.keep) (l.length + (k + 1))) := (HA.out.swap.to htb (HA.out.two.ok.start _) (by rw [start_writes]; exact HA.out.two.writes) (Nat.le_refl _)).swap
                    clear htb HA hpa hqa HST c5a
                    go_wp2_with fail
                    go_roundw
                    case rel => exact ⟨k + 1, by omega, by go_num, ⟨_, _, _, _, _, _, HBb.out, twin_start HQ.out.1 _⟩⟩
                    case measure => simp [intOf]; omega
                  · have hk12 : (o.kind == 12) = false := by simpa using h12
                    clear h10 h12
                    go_wp2_with fail
                    go_roundw
                    case rel => exact ⟨k + 1, by omega, by go_num, ⟨_, _, _, _, _, _, H9.out, HQ.out.1⟩⟩
                    case measure => simp [intOf]; omega
              · obtain rfl : k = l2.length := by omega
                have hus := dUsed_any HU.out.two.is HU.out.two.ok
                rw [HTw.out.files] at hus
                have hon := on_any HU.out.two.is
                rw [HTw.out.on] at hon
                have HU1 : Hid _ := dUsed_any HU.out.one.is HU.out.one.ok
                have HU2 : Hid _ := hus
                have HO1 : Hid _ := on_any HU.out.one.is
                have HO2 : Hid _ := hon
                have HIM : Hid _ := dImage_any HU.out.one.is HU.out.one.ok
                clear hus hon
                go_wp2_with fail
                refine Calls.mono HU1.out ?_
                rintro e wa ⟨rfl, hwa⟩
                subst wa
                go_wp2_with fail
                refine Calls.mono HU2.out ?_
                rintro e wa ⟨rfl, hwa⟩
                subst wa
                go_wp2_with fail
                refine Calls.mono HO1.out ?_
                rintro e wa ⟨rfl, hwa⟩
                subst wa
                go_wp2_with fail
                refine Calls.mono HO2.out ?_
                rintro e wa ⟨rfl, hwa⟩
                subst wa
                go_wp2_with fail
                refine Calls.mono HIM.out ?_
                rintro e wb ⟨rfl, ⟨vs3, him⟩, hbb⟩
                have H6 : Hid (Two w p q wb fv ms D gv ns C (l.length + l2.length) ∧ ImgAt wb wr.heap.size (.slice (some ⟨wr.heap.size, 0, none⟩) D.files.length D.files.length) D.files vs3) := ⟨HU.out.later hbb, him⟩
                have hq6 := lt_of_block H6.out.1.two.is.row
                have hIM := dImage_any H6.out.1.two.is H6.out.1.two.ok
                rw [HTw.out.files] at hIM
                have HIM : Hid _ := hIM
                clear him hbb hIM HU1 HU2 HO1 HO2
                go_wp2_with fail
                refine Calls.mono HIM.out ?_
                rintro e wc ⟨rfl, ⟨vs4, him⟩, hbc⟩
                have HEQ : Hid _ := eqFiles_same (H6.out.2.kept (Below.kept hbc) (fun j e => .inr e)) him H6.out.1.one.ok.few
                have HBB : Hid (Below w.heap.size w wc) := Below.step H6.out.1.one.bel hbc
                clear him hbc
                go_wp2_with fail
                refine Calls.mono HEQ.out ?_
                rintro e wd ⟨rfl, nn, hwd⟩
                subst wd
                go_wp2_with fail
                go_ret
                exact ⟨rfl, below_drewN HBB.out _⟩
      · have HN : Hid _ := new_no room w2 hq
        have hor : decide (room < 0) = true ∨ (decide (room < 0) = false ∧ decide (room > 16777216) = true) := by
          by_cases h0 : room < 0
          · exact .inl (decide_eq_true h0)
          · exact .inr ⟨decide_eq_false h0, decide_eq_true (by omega)⟩
        clear hq
        go_wp2_with fail
        refine Calls.mono HN.out ?_
        rintro e w3 ⟨rfl, hw3⟩
        subst w3
        rcases hor with hd | ⟨hd, hd2⟩
        · go_wp2_with fail
          go_ret
          exact ⟨rfl, H2.out⟩
        · go_wp2_with fail
          go_ret
          exact ⟨rfl, H2.out⟩
    · go_wp2_with fail
      refine Calls.mono HYY.out ?_
      rintro e w1b ⟨rfl, hb1b⟩
      have H1b : Hid (Below w.heap.size w w1b) := Below.step H1.out hb1b
      clear hb1b HYY H1
      go_wp2_with fail
      go_ret
      exact ⟨rfl, H1b.out⟩
  · go_enter Try.func6, Try.ntmps6
    go_wp2_with fail
    refine Calls.mono HY.out ?_
    rintro e w1 ⟨rfl, hb1⟩
    have H1 : Hid _ := hb1
    clear hb1 HY
    go_wp2_with fail
    go_ret
    exact ⟨rfl, H1.out⟩
end Go.Proofs.Ytofgkbpopfgefaa
