/- DiskBounds of the statements of layer 2, walked: true for every room and script. -/
import Derived.Test.YtofgkbpopfgefaaDlA
namespace Go.Proofs.Ytofgkbpopfgefaa
open Go.RowKit Go.Shelf
set_option maxRecDepth 8000

set_option maxHeartbeats 4000000 in
theorem bounds_walk (room : Int) (v : Value) (l : List OpK) (w : World) (hl : SeesOpsK w w.heap.size v l) (hll : l.length ≤ 140737488355328) :
    Calls Try.prog 7 #[.int .i64 room, v] w fun r w' => r = .returned (.bool true) ∧ Below w.heap.size w w' := by
  have HY : Hid _ := beyond_any room hl hll
  obtain ⟨⟨sa, sc, rfl, hsc, hscm, _⟩, _⟩ := id hl
  unfold maxLen at hscm
  have HL : Hid (SeesOpsK w w.heap.size (.slice sa l.length sc) l) := hl
  have HB : Hid (byd l = false → l.length < 2147483647 ∧ ∀ o ∈ l, o.p.length < 2147483647) := byd_false
  generalize byd l = bb at *
  clear hl
  cases bb
  · obtain ⟨hl1, hl2⟩ := HB.out rfl
    have HL2 : Hid _ := hl2
    clear HB hl2
    go_enter Try.func7, Try.ntmps7
    go_wp2_with fail
    refine Calls.mono HY.out ?_
    rintro e w1 ⟨rfl, hb1⟩
    have H1 : Hid _ := hb1
    clear hb1 HY
    go_wp2_with fail
    refine Calls.mono (lives_yes w1) ?_
    rintro e w2 ⟨rfl, hb2⟩
    have H2 : Hid (Below w.heap.size w w2) := Below.step H1.out hb2
    clear hb2 H1
    by_cases hq : 0 ≤ room ∧ room ≤ 16777216
    · have HN : Hid _ := new_yes room w2 hq
      go_wp2_with fail
      refine Calls.mono HN.out ?_
      rintro e w3 ⟨rfl, hw3⟩
      have H3 : Hid (Run w w2.heap.size w3 (.slice none 0 0) [] (newD room) 0) := by
        rw [hw3]
        refine ⟨isDk_new w2 room, dkOk_new room hq.1 hq.2, by simp, Below.step H2.out (one_allocK _ _), fun j hj => ?_⟩
        simp [foot, Value.ownBlock] at hj
        rw [hj]
        exact H2.out.size
      have hp3 : w2.heap.size < w3.heap.size := by rw [hw3]; simp
      clear hw3 HN
      obtain ⟨p, hp⟩ : ∃ p, p = w2.heap.size := ⟨_, rfl⟩
      rw [← hp] at H3 hp3
      rw [← hp]
      clear hp H2
      go_wp2_with fail
      go_loopw [8] (fun vi wr => ∃ k : Nat, k ≤ l.length ∧ vi = .int .i64 k ∧ Hid (∃ fv ms D, Run w p wr fv ms D k ∧ D.room = room)) (fun vi _ => l.length - (intOf vi).toNat)
      case atStart => exact ⟨0, Nat.zero_le _, rfl, ⟨_, _, _, H3.out, rfl⟩⟩
      case round =>
        obtain ⟨k, hk, rfl, HI⟩ := hrel
        obtain ⟨fv, ms, D, hrun, hroom⟩ := HI.out
        have HU : Hid _ := hrun
        have HRm : Hid _ := hroom
        have hpw := lt_of_block hrun.is.row
        clear hrun HI H3 hp3 hroom
        by_cases hlt : k < l.length
        · obtain ⟨⟨_, _, esl, _, _, h0 | ⟨b, off, e2, hb, hr⟩⟩, hgo⟩ := id HL.out
          · rw [h0] at hlt; simp at hlt
          have e3 : sa = some ⟨b, off, none⟩ := by
            have := (Value.slice.inj esl).1
            rw [this]; exact e2
          subst e3
          have hrk : w.rangeAt b (off + k * 6) l[k].cells := hr k hlt
          have hg := hgo l[k] (List.getElem_mem hlt)
          have hpl : l[k].p.length ≤ 100000000000 := by have := HL2.out l[k] (List.getElem_mem hlt); omega
          have hsz6 : (Try.prog.info? 32).map (·.size) = some l[k].cells.length := Try.opSize
          generalize l[k] = o at *
          have HO : Hid ((∀ wx, Below w.heap.size w wx → wx.rangeAt b (off + k * 6) o.cells ∧ GoodOpK wx w.heap.size o) ∧ o.p.length ≤ 100000000000) := ⟨fun wx hbx => ⟨fun j x hj => cell_later (hrk j x hj) hbx (Nat.le_refl _), hg.kept (Below.kept hbx) (fun j hj e => by omega)⟩, hpl⟩
          clear hr hgo hg hpl esl e2 hrk
          have HWW : Hid (D.writes ≤ 4611686018427387904) := by show _ ≤ _; have := HU.out.writes; omega
          obtain ⟨X, D', hX⟩ : ∃ X D', actK D o = (X, D') := ⟨_, _, rfl⟩
          have hno : X ≠ 0 → D'.files = D.files ∧ D'.writes = D.writes := fun e => by
            have := actK_no (D := D) (o := o)
            rw [hX] at this
            exact this e
          have hokD := actK_ok HU.out.ok o
          have hwrD := actK_writes D o
          have hrmD := actK_room D o
          rw [hX] at hokD hwrD hrmD
          have HQ : Hid ((X ≠ 0 → D'.files = D.files ∧ D'.writes = D.writes) ∧ DkOk D' ∧ D'.writes ≤ D.writes + 1 ∧ D'.room = room ∧ actK D o = (X, D')) := ⟨hno, hokD, hwrD, hrmD.trans HRm.out, hX⟩
          clear hno hokD hwrD hrmD hX
          have HIM : Hid _ := dImage_any HU.out.is HU.out.ok
          go_wp2_with fail
          refine Calls.mono HIM.out ?_
          rintro e w7 ⟨rfl, ⟨vs1, him⟩, hb7⟩
          have H7 : Hid (Run w p w7 fv ms D k ∧ ImgAt w7 wr.heap.size (.slice (some ⟨wr.heap.size, 0, none⟩) D.files.length D.files.length) D.files vs1 ∧ (∀ j ∈ foot p fv ms, j < wr.heap.size)) := ⟨HU.out.later hb7, him, fun j hj => HU.out.is.lt hj⟩
          have hp7 := lt_of_block H7.out.1.is.row
          have HWD : Hid _ := dWrites_any H7.out.1.is
          have hr7 := (HO.out.1 w7 H7.out.1.bel).1
          have hac := act_any H7.out.1.is H7.out.1.ok HWW.out o w.heap.size (HO.out.1 w7 H7.out.1.bel).2 HO.out.2 (fun j hj => H7.out.1.free j hj)
          rw [HQ.out.2.2.2.2] at hac
          have HAC : Hid _ := hac
          clear him hb7 HIM HU hac hpw
          generalize wr.heap.size = B1 at *
          go_wp2_with fail
          refine Calls.mono HWD.out ?_
          rintro e wa ⟨rfl, hwa⟩
          subst wa
          clear HWD
          go_wp2_with (refine wpList_load_mid rfl 32 _ rfl b (off + k * 6) rfl o.cells _ hr7 Try.underlying32 rfl hsz6 ?_)
          refine Calls.mono HAC.out ?_
          rintro e w8 ⟨rfl, fv8, ms8, ht8⟩
          have H8 : Hid (Run w p w8 fv8 ms8 D' (k + 1) ∧ ImgAt w8 B1 (.slice (some ⟨B1, 0, none⟩) D.files.length D.files.length) D.files vs1) := ⟨H7.out.1.to ht8 HQ.out.2.1 (by show D'.writes ≤ ((k + 1 : Nat) : Int); have := HQ.out.2.2.1; have := H7.out.1.writes; omega), H7.out.2.1.kept ht8.kept (fun j e => .inl (H7.out.2.2 j e))⟩
          have hp8 := lt_of_block H8.out.1.is.row
          have HIM : Hid _ := dImage_any H8.out.1.is H8.out.1.ok
          clear ht8 hr7 hp7 H7 HAC HO hsz6
          go_wp2_with fail
          refine Calls.mono HIM.out ?_
          rintro e w9 ⟨rfl, ⟨vs2, him⟩, hb9⟩
          have H9 : Hid (Run w p w9 fv8 ms8 D' (k + 1) ∧ ImgAt w9 B1 (.slice (some ⟨B1, 0, none⟩) D.files.length D.files.length) D.files vs1 ∧ ImgAt w9 w8.heap.size (.slice (some ⟨w8.heap.size, 0, none⟩) D'.files.length D'.files.length) D'.files vs2) := ⟨H8.out.1.later hb9, H8.out.2.kept (Below.kept hb9) (fun j e => .inr e), him⟩
          have hp9 := lt_of_block H9.out.1.is.row
          have HWD : Hid _ := dWrites_any H9.out.1.is
          clear him hb9 HIM H8 hp8
          generalize w8.heap.size = B2 at *
          -- what follows behind the first question, in whatever world
          have hfew := H9.out.1.ok.few
          obtain ⟨N, hN⟩ : ∃ N, N = D'.files.length := ⟨_, rfl⟩
          have HN : Hid _ := hN
          by_cases hx : X = 0
          · have hxb : (X != 0) = false := by simpa using hx
            have HZ : Hid (Run w p w9 fv8 ms8 D' (k + 1) ∧ ImgAt w9 B2 (.slice (some ⟨B2, 0, none⟩) D'.files.length D'.files.length) D'.files vs2) := ⟨H9.out.1, H9.out.2.2⟩
            clear HWD hx H9
            rw [← hN] at hfew
            rw [← hN]
            clear hN
            go_wp2_with fail
            go_loopw [13, 14] (fun vs vi wx => ∃ i : Nat, i ≤ N ∧ vi = .int .i64 i ∧ vs = .int .i64 (usedD (D'.files.take i)) ∧ Hid (∃ q, wx = w9.drewN q)) (fun _ vi _ => N - (intOf vi).toNat)
            case atStart => exact ⟨0, Nat.zero_le _, rfl, by simp [usedD], ⟨0, rfl⟩⟩
            case round =>
              obtain ⟨i, hi, rfl, rfl, HW⟩ := hrel
              have hbw : Below w9.heap.size w9 wr := by
                obtain ⟨q, rfl⟩ := HW.out
                exact below_drewN (Below.refl _ _) q
              by_cases hlt : i < N
              · have hlt1 : i < D'.files.length := by rw [← HN.out]; exact hlt
                have himg := HZ.out.2.kept (Below.kept hbw) (fun j e => .inr e)
                obtain ⟨u2, _, b0, b1, b2, ho2⟩ := himg.cells i hlt1
                obtain ⟨x2, y2, hu2, hx2, hy2⟩ := own_shape (owns_mono ho2 (Nat.zero_le _))
                unfold maxLen at hy2
                rw [hu2] at b1
                have hd := (HZ.out.1.ok.durs _ (List.getElem_mem hlt1)).2
                have HNM : Hid (∀ m, Calls Try.prog 26 #[.string D'.files[i].name] (wr.drewN m) fun e w' => e = .returned (.bool true) ∧ w' = wr.drewN m) := fun m => refName_yes _ (HZ.out.1.ok.nms _ (List.getElem_mem hlt1)) _
                have hut := used_take D'.files i hlt1
                have husm : usedD (D'.files.take i) + D'.files[i].bytes.length ≤ 16777216 := by
                  have h1 : usedD (D'.files.take (i + 1)) + usedD (D'.files.drop (i + 1)) = usedD D'.files := by rw [← usedD_append, List.take_append_drop]
                  have := HZ.out.1.ok.fits
                  have := HZ.out.1.ok.r1
                  omega
                have hdg : decide (D'.files[i].dur > (D'.files[i].bytes.length : Int)) = false := decide_eq_false (by omega)
                have HUT : Hid _ := hut
                cases i with
                | zero =>
                  generalize D'.files[0].bytes.length = L at *
                  generalize D'.files[0].name = nm at *
                  generalize D'.files[0].dur = du at *
                  generalize usedD (D'.files.take 0) = S at *
                  clear ho2 hu2 hbw himg hut hd hlt1
                  go_wp2_with fail
                  go_quiet ((go_at_call 26; exact Calls.quiet_of_same (HNM.out _)))
                  go_wp2_with fail
                  go_roundw
                  case rel => exact ⟨0 + 1, by omega, by go_num, by rw [HUT.out]; go_num, ⟨HW.out.choose + nq, by rw [← World.drewN_drewN, ← HW.out.choose_spec]⟩⟩
                  case measure => simp [intOf]; omega
                | succ j =>
                  obtain ⟨u0, g0, c0, g1, g2, g3⟩ := himg.cells j (by omega)
                  clear g0 g1 g2 g3
                  have hless := less_name (rise_at HZ.out.1.ok.rise j hlt1)
                  have hd0 : decide (((j + 1 : Nat) : Int) > 0) = true := decide_eq_true (by omega)
                  have hd0' : decide ((j : Int) + 1 > 0) = true := decide_eq_true (by omega)
                  generalize D'.files[j + 1].bytes.length = L at *
                  generalize D'.files[j + 1].name = nm at *
                  generalize D'.files[j + 1].dur = du at *
                  generalize D'.files[j].name = nm0 at *
                  generalize usedD (D'.files.take (j + 1)) = S at *
                  clear ho2 hu2 hbw himg hut hd hlt1
                  go_wp2_with fail
                  go_quiet ((go_at_call 26; exact Calls.quiet_of_same (HNM.out _)))
                  go_wp2_with fail
                  go_roundw
                  case rel => exact ⟨j + 1 + 1, by omega, by go_num, by rw [HUT.out]; go_num, ⟨HW.out.choose + nq, by rw [← World.drewN_drewN, ← HW.out.choose_spec]⟩⟩
                  case measure => simp [intOf]; omega
              · obtain rfl : i = N := by omega
                have hrun : Run w p wr fv8 ms8 D' (k + 1) := HZ.out.1.later hbw
                have hpr := lt_of_block hrun.is.row
                have HUS : Hid _ := dUsed_any hrun.is hrun.ok
                have HNA : Hid _ := dNames_any hrun.is hrun.ok
                have etk : D'.files.take i = D'.files := List.take_of_length_le (by have := HN.out; omega)
                rw [etk]
                rw [← HN.out] at HNA
                have hsr : (usedD D'.files : Int) ≤ room := by have := hrun.ok.fits; have := HQ.out.2.2.2.1; omega
                have hdr : decide ((usedD D'.files : Int) > room) = false := decide_eq_false (by omega)
                have hdn : decide ((i : Int) > 64) = false := decide_eq_false (by omega)
                have HRU : Hid _ := hrun
                generalize usedD D'.files = S at *
                clear hrun hbw etk
                go_wp2_with fail
                refine Calls.mono HUS.out ?_
                rintro e wa ⟨rfl, hwa⟩
                subst wa
                go_wp2_with fail
                refine Calls.mono HNA.out ?_
                rintro e wb ⟨rfl, _, hbb⟩
                have HBB : Hid (Run w p wb fv8 ms8 D' (k + 1)) := HRU.out.later hbb
                clear hbb HNA HUS
                go_wp2_with fail
                go_roundw
                case rel => exact ⟨k + 1, by omega, by go_num, ⟨_, _, _, HBB.out, HQ.out.2.2.2.1⟩⟩
                case measure => simp [intOf]; omega
          · have hxb : (X != 0) = true := by simpa using hx
            obtain ⟨hfs, hws⟩ := HQ.out.1 hx
            have h91 := H9.out.2.1
            rw [← hfs] at h91
            have HEQ : Hid _ := eqFiles_same h91 H9.out.2.2 hfew
            rw [← hN] at hfew
            rw [← hfs, ← hN]
            rw [← hN] at HEQ
            clear hx h91 HWD hfs hN
            go_wp2_with fail
            refine Calls.mono HEQ.out ?_
            rintro e wz ⟨rfl, nn, hwz⟩
            have hbz : Below w9.heap.size w9 wz := by rw [hwz]; exact below_drewN (Below.refl _ _) nn
            have HZ : Hid (Run w p wz fv8 ms8 D' (k + 1) ∧ ImgAt wz B2 (.slice (some ⟨B2, 0, none⟩) D'.files.length D'.files.length) D'.files vs2) := ⟨H9.out.1.later hbz, H9.out.2.2.kept (Below.kept hbz) (fun j e => .inr e)⟩
            have hWD := dWrites_any HZ.out.1.is
            rw [hws] at hWD
            have HWD : Hid _ := hWD
            have hpz := lt_of_block HZ.out.1.is.row
            clear hwz hbz H9 hWD hws HEQ
            go_wp2_with fail
            refine Calls.mono HWD.out ?_
            rintro e wa ⟨rfl, hwa⟩
            subst wa
            clear HWD
            go_wp2_with fail
            go_loopw [13, 14] (fun vs vi wx => ∃ i : Nat, i ≤ N ∧ vi = .int .i64 i ∧ vs = .int .i64 (usedD (D'.files.take i)) ∧ Hid (∃ q, wx = wz.drewN q)) (fun _ vi _ => N - (intOf vi).toNat)
            case atStart => exact ⟨0, Nat.zero_le _, rfl, by simp [usedD], ⟨0, rfl⟩⟩
            case round =>
              obtain ⟨i, hi, rfl, rfl, HW⟩ := hrel
              have hbw : Below wz.heap.size wz wr := by
                obtain ⟨q, rfl⟩ := HW.out
                exact below_drewN (Below.refl _ _) q
              by_cases hlt : i < N
              · have hlt1 : i < D'.files.length := by rw [← HN.out]; exact hlt
                have himg := HZ.out.2.kept (Below.kept hbw) (fun j e => .inr e)
                obtain ⟨u2, _, b0, b1, b2, ho2⟩ := himg.cells i hlt1
                obtain ⟨x2, y2, hu2, hx2, hy2⟩ := own_shape (owns_mono ho2 (Nat.zero_le _))
                unfold maxLen at hy2
                rw [hu2] at b1
                have hd := (HZ.out.1.ok.durs _ (List.getElem_mem hlt1)).2
                have HNM : Hid (∀ m, Calls Try.prog 26 #[.string D'.files[i].name] (wr.drewN m) fun e w' => e = .returned (.bool true) ∧ w' = wr.drewN m) := fun m => refName_yes _ (HZ.out.1.ok.nms _ (List.getElem_mem hlt1)) _
                have hut := used_take D'.files i hlt1
                have husm : usedD (D'.files.take i) + D'.files[i].bytes.length ≤ 16777216 := by
                  have h1 : usedD (D'.files.take (i + 1)) + usedD (D'.files.drop (i + 1)) = usedD D'.files := by rw [← usedD_append, List.take_append_drop]
                  have := HZ.out.1.ok.fits
                  have := HZ.out.1.ok.r1
                  omega
                have hdg : decide (D'.files[i].dur > (D'.files[i].bytes.length : Int)) = false := decide_eq_false (by omega)
                have HUT : Hid _ := hut
                cases i with
                | zero =>
                  generalize D'.files[0].bytes.length = L at *
                  generalize D'.files[0].name = nm at *
                  generalize D'.files[0].dur = du at *
                  generalize usedD (D'.files.take 0) = S at *
                  clear ho2 hu2 hbw himg hut hd hlt1
                  go_wp2_with fail
                  go_quiet ((go_at_call 26; exact Calls.quiet_of_same (HNM.out _)))
                  go_wp2_with fail
                  go_roundw
                  case rel => exact ⟨0 + 1, by omega, by go_num, by rw [HUT.out]; go_num, ⟨HW.out.choose + nq, by rw [← World.drewN_drewN, ← HW.out.choose_spec]⟩⟩
                  case measure => simp [intOf]; omega
                | succ j =>
                  obtain ⟨u0, g0, c0, g1, g2, g3⟩ := himg.cells j (by omega)
                  clear g0 g1 g2 g3
                  have hless := less_name (rise_at HZ.out.1.ok.rise j hlt1)
                  have hd0 : decide (((j + 1 : Nat) : Int) > 0) = true := decide_eq_true (by omega)
                  have hd0' : decide ((j : Int) + 1 > 0) = true := decide_eq_true (by omega)
                  generalize D'.files[j + 1].bytes.length = L at *
                  generalize D'.files[j + 1].name = nm at *
                  generalize D'.files[j + 1].dur = du at *
                  generalize D'.files[j].name = nm0 at *
                  generalize usedD (D'.files.take (j + 1)) = S at *
                  clear ho2 hu2 hbw himg hut hd hlt1
                  go_wp2_with fail
                  go_quiet ((go_at_call 26; exact Calls.quiet_of_same (HNM.out _)))
                  go_wp2_with fail
                  go_roundw
                  case rel => exact ⟨j + 1 + 1, by omega, by go_num, by rw [HUT.out]; go_num, ⟨HW.out.choose + nq, by rw [← World.drewN_drewN, ← HW.out.choose_spec]⟩⟩
                  case measure => simp [intOf]; omega
              · obtain rfl : i = N := by omega
                have hrun : Run w p wr fv8 ms8 D' (k + 1) := HZ.out.1.later hbw
                have hpr := lt_of_block hrun.is.row
                have HUS : Hid _ := dUsed_any hrun.is hrun.ok
                have HNA : Hid _ := dNames_any hrun.is hrun.ok
                have etk : D'.files.take i = D'.files := List.take_of_length_le (by have := HN.out; omega)
                rw [etk]
                rw [← HN.out] at HNA
                have hsr : (usedD D'.files : Int) ≤ room := by have := hrun.ok.fits; have := HQ.out.2.2.2.1; omega
                have hdr : decide ((usedD D'.files : Int) > room) = false := decide_eq_false (by omega)
                have hdn : decide ((i : Int) > 64) = false := decide_eq_false (by omega)
                have HRU : Hid _ := hrun
                generalize usedD D'.files = S at *
                clear hrun hbw etk
                go_wp2_with fail
                refine Calls.mono HUS.out ?_
                rintro e wa ⟨rfl, hwa⟩
                subst wa
                go_wp2_with fail
                refine Calls.mono HNA.out ?_
                rintro e wb ⟨rfl, _, hbb⟩
                have HBB : Hid (Run w p wb fv8 ms8 D' (k + 1)) := HRU.out.later hbb
                clear hbb HNA HUS
                go_wp2_with fail
                go_roundw
                case rel => exact ⟨k + 1, by omega, by go_num, ⟨_, _, _, HBB.out, HQ.out.2.2.2.1⟩⟩
                case measure => simp [intOf]; omega
        · obtain rfl : k = l.length := by omega
          go_wp2_with fail
          go_ret
          exact ⟨rfl, HU.out.bel⟩
    · have HN : Hid _ := new_no room w2 hq
      have hor : decide (room < 0) = true ∨ (decide (room < 0) = false ∧ decide (room > 16777216) = true) := by
        by_cases h0 : room < 0
        · exact .inl (decide_eq_true h0)
        · exact .inr ⟨decide_eq_false h0, decide_eq_true (by omega)⟩
      clear hq
      go_wp2_with fail
      refine Calls.mono HN.out ?_
      rintro e w3 ⟨rfl, hw3⟩
      subst w3
      rcases hor with hd | ⟨hd, hd2⟩
      · go_wp2_with fail
        go_ret
        exact ⟨rfl, H2.out⟩
      · go_wp2_with fail
        go_ret
        exact ⟨rfl, H2.out⟩
  · go_enter Try.func7, Try.ntmps7
    go_wp2_with fail
    refine Calls.mono HY.out ?_
    rintro e w1 ⟨rfl, hb1⟩
    have H1 : Hid _ := hb1
    clear hb1 HY
    go_wp2_with fail
    go_ret
    exact ⟨rfl, H1.out⟩
end Go.Proofs.Ytofgkbpopfgefaa
