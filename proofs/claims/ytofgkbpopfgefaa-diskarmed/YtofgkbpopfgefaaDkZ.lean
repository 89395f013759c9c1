/- DiskArmed of the statements of layer 2, walked: true for every room, script and number. -/
import Derived.Test.YtofgkbpopfgefaaDkY
namespace Go.Proofs.Ytofgkbpopfgefaa
open Go.RowKit Go.Shelf
set_option maxRecDepth 8000

set_option maxHeartbeats 4000000 in
theorem armed_walk (room : Int) (v : Value) (n : Int) (l : List OpK) (w : World) (hl : SeesOpsK w w.heap.size v l) (hll : l.length ≤ 140737488355328) (hn : n ≤ 9223372036854775807) (hn' : -9223372036854775808 ≤ n) :
    Calls Try.prog 5 #[.int .i64 room, v, .int .i64 n] w fun r w' => r = .returned (.bool true) ∧ Below w.heap.size w w' := by
  have HY : Hid _ := beyond_any room hl hll
  obtain ⟨⟨sa, sc, rfl, hsc, hscm, _⟩, _⟩ := id hl
  unfold maxLen at hscm
  have HL : Hid (SeesOpsK w w.heap.size (.slice sa l.length sc) l) := hl
  have HB : Hid (byd l = false → l.length < 2147483647 ∧ ∀ o ∈ l, o.p.length < 2147483647) := byd_false
  generalize byd l = bb at *
  clear hl
  cases bb
  · obtain ⟨hl1, hl2⟩ := HB.out rfl
    have HL2 : Hid _ := hl2
    clear HB hl2
    go_enter Try.func5, Try.ntmps5
    go_wp2_with fail
    refine Calls.mono HY.out ?_
    rintro e w1 ⟨rfl, hb1⟩
    have H1 : Hid _ := hb1
    clear hb1 HY
    go_wp2_with fail
    refine Calls.mono (lives_yes w1) ?_
    rintro e w2 ⟨rfl, hb2⟩
    have H2 : Hid (Below w.heap.size w w2) := Below.step H1.out hb2
    clear hb2 H1
    by_cases hq : 0 ≤ room ∧ room ≤ 16777216
    · have HN : Hid _ := new_yes room w2 hq
      go_wp2_with fail
      refine Calls.mono HN.out ?_
      rintro e w3 ⟨rfl, hw3⟩
      have H3 : Hid (Run w w2.heap.size w3 (.slice none 0 0) [] (newD room) 0) := by
        rw [hw3]
        refine ⟨isDk_new w2 room, dkOk_new room hq.1 hq.2, by simp, Below.step H2.out (one_allocK _ _), fun j hj => ?_⟩
        simp [foot, Value.ownBlock] at hj
        rw [hj]
        exact H2.out.size
      have hp3 : w2.heap.size < w3.heap.size := by rw [hw3]; simp
      clear hw3 HN
      obtain ⟨p, hp⟩ : ∃ p, p = w2.heap.size := ⟨_, rfl⟩
      rw [← hp] at H3 hp3
      rw [← hp]
      clear hp H2
      have HN : Hid _ := new_yes room w3 hq
      go_wp2_with fail
      refine Calls.mono HN.out ?_
      rintro e w4 ⟨rfl, hw4⟩
      have H4 : Hid (Two w p w3.heap.size w4 (.slice none 0 0) [] (newD room) (.slice none 0 0) [] (newD room) 0) := by
        have hb4 : Below w3.heap.size w3 w4 := by rw [hw4]; exact one_allocK _ _
        refine ⟨H3.out.later hb4, ⟨by rw [hw4]; exact isDk_new w3 room, dkOk_new room hq.1 hq.2, by simp, (H3.out.later hb4).bel, fun j hj => ?_⟩, fun j hj e => ?_⟩
        · simp [foot, Value.ownBlock] at hj
          rw [hj]
          exact H3.out.bel.size
        · simp [foot, Value.ownBlock] at hj e
          omega
      have hp4 : w3.heap.size < w4.heap.size := by rw [hw4]; simp
      clear hw4 HN H3
      obtain ⟨q, hqq⟩ : ∃ q, q = w3.heap.size := ⟨_, rfl⟩
      rw [← hqq] at H4 hp4 hp3
      rw [← hqq]
      clear hqq
      have HAR : Hid _ := arm_any H4.out.two.is n
      go_wp2_with fail
      refine Calls.mono HAR.out ?_
      rintro e w5 ⟨rfl, ht5⟩
      have H5 : Hid (Two w p q w5 (.slice none 0 0) [] (newD room) (.slice none 0 0) [] ((newD room).arm n) 0) := (H4.out.swap.to ht5 (H4.out.two.ok.arm n hn) (by rw [arm_writes]; simp) (Nat.le_refl _)).swap
      have hp5 := lt_of_block H5.out.one.is.row
      have hq5 := lt_of_block H5.out.two.is.row
      clear ht5 HAR H4 hp4 hp3
      go_wp2_with fail
      go_loopw [12] (fun vi wr => ∃ k : Nat, k ≤ l.length ∧ vi = .int .i64 k ∧ Hid (∃ fv ms D gv ns A, Two w p q wr fv ms D gv ns A k ∧ Mate n D A)) (fun vi _ => l.length - (intOf vi).toNat)
      case atStart => exact ⟨0, Nat.zero_le _, rfl, ⟨_, _, _, _, _, _, H5.out, mate_new room n⟩⟩
      case round =>
        obtain ⟨k, hk, rfl, HI⟩ := hrel
        obtain ⟨fv, ms, D, gv, ns, A, htwo, hmate⟩ := HI.out
        have HU : Hid _ := htwo
        have HM : Hid _ := hmate
        have hpw := lt_of_block htwo.one.is.row
        have hqw := lt_of_block htwo.two.is.row
        clear htwo hmate HI H5 hp5 hq5
        by_cases hlt : k < l.length
        · obtain ⟨⟨_, _, esl, _, _, h0 | ⟨b, off, e2, hb, hr⟩⟩, hgo⟩ := id HL.out
          · rw [h0] at hlt; simp at hlt
          have e3 : sa = some ⟨b, off, none⟩ := by
            have := (Value.slice.inj esl).1
            rw [this]; exact e2
          subst e3
          have hrk : w.rangeAt b (off + k * 6) l[k].cells := hr k hlt
          have hg := hgo l[k] (List.getElem_mem hlt)
          have hpl : l[k].p.length ≤ 100000000000 := by have := HL2.out l[k] (List.getElem_mem hlt); omega
          have hsz6 : (Try.prog.info? 32).map (·.size) = some l[k].cells.length := Try.opSize
          generalize l[k] = o at *
          have HO : Hid ((∀ wx, Below w.heap.size w wx → wx.rangeAt b (off + k * 6) o.cells ∧ GoodOpK wx w.heap.size o) ∧ o.p.length ≤ 100000000000) := ⟨fun wx hbx => ⟨fun j x hj => cell_later (hrk j x hj) hbx (Nat.le_refl _), hg.kept (Below.kept hbx) (fun j hj e => by omega)⟩, hpl⟩
          clear hr hgo hg hpl esl e2 hrk
          have hwD : D.writes ≤ 4611686018427387904 := by have := HU.out.one.writes; omega
          have hwD0 := HU.out.one.ok.w0
          have hwA : A.writes ≤ 4611686018427387904 := by have := HU.out.two.writes; omega
          obtain ⟨X, D', hX⟩ : ∃ X D', actK D o = (X, D') := ⟨_, _, rfl⟩
          obtain ⟨Y, A', hY'⟩ : ∃ Y A', actK A o = (Y, A') := ⟨_, _, rfl⟩
          have hst := mate_actK HM.out o
          rw [hX, hY'] at hst
          have hokD := actK_ok HU.out.one.ok o
          have hokA := actK_ok HU.out.two.ok o
          rw [hX] at hokD
          rw [hY'] at hokA
          have hwrD := actK_writes D o
          have hwrA := actK_writes A o
          rw [hX] at hwrD
          rw [hY'] at hwrA
          have HQ : Hid ((Stays n D D' A' X Y ∨ Falls n D D' A' X Y) ∧ DkOk D' ∧ DkOk A' ∧ D'.writes ≤ D.writes + 1 ∧ A'.writes ≤ A.writes + 1 ∧ actK D o = (X, D') ∧ actK A o = (Y, A')) := ⟨hst, hokD, hokA, hwrD, hwrA, hX, hY'⟩
          clear hst hokD hokA hwrD hwrA hX hY'
          have HWD : Hid _ := dWrites_any HU.out.one.is
          have HIM : Hid _ := dImage_any HU.out.one.is HU.out.one.ok
          have HWB : Hid (D.writes ≤ 4611686018427387904 ∧ A.writes ≤ 4611686018427387904) := ⟨hwD, hwA⟩
          go_wp2_with fail
          refine Calls.mono HWD.out ?_
          rintro e w6 ⟨rfl, hw6⟩
          subst w6
          clear HWD
          go_wp2_with fail
          refine Calls.mono HIM.out ?_
          rintro e w7 ⟨rfl, ⟨vs1, him⟩, hb7⟩
          have H7 : Hid (Two w p q w7 fv ms D gv ns A k ∧ ImgAt w7 wr.heap.size (.slice (some ⟨wr.heap.size, 0, none⟩) D.files.length D.files.length) D.files vs1 ∧ (∀ j ∈ foot p fv ms, j < wr.heap.size) ∧ (∀ j ∈ foot q gv ns, j < wr.heap.size)) := ⟨HU.out.later hb7, him, fun j hj => HU.out.one.is.lt hj, fun j hj => HU.out.two.is.lt hj⟩
          have hp7 := lt_of_block H7.out.1.one.is.row
          have hq7 := lt_of_block H7.out.1.two.is.row
          have hr7 := (HO.out.1 w7 H7.out.1.one.bel).1
          have hac := act_any H7.out.1.one.is H7.out.1.one.ok HWB.out.1 o w.heap.size (HO.out.1 w7 H7.out.1.one.bel).2 HO.out.2 (fun j hj => H7.out.1.one.free j hj)
          rw [HQ.out.2.2.2.2.2.1] at hac
          have HAC : Hid _ := hac
          clear him hb7 HIM HU hac hpw hqw hwA
          generalize wr.heap.size = B1 at *
          go_wp2_with (refine wpList_load_mid rfl 32 _ rfl b (off + k * 6) rfl o.cells _ hr7 Try.underlying32 rfl hsz6 ?_)
          refine Calls.mono HAC.out ?_
          rintro e w8 ⟨rfl, fv8, ms8, ht8⟩
          have H8 : Hid (Two w p q w8 fv8 ms8 D' gv ns A (k + 1) ∧ ImgAt w8 B1 (.slice (some ⟨B1, 0, none⟩) D.files.length D.files.length) D.files vs1 ∧ (∀ j ∈ foot q gv ns, j < B1)) := ⟨H7.out.1.to ht8 HQ.out.2.1 (by have := HQ.out.2.2.2.1; have := H7.out.1.one.writes; omega) (by omega), H7.out.2.1.kept ht8.kept (fun j e => .inl (H7.out.2.2.1 j e)), H7.out.2.2.2⟩
          have hp8 := lt_of_block H8.out.1.one.is.row
          have hq8 := lt_of_block H8.out.1.two.is.row
          have hr8 := (HO.out.1 w8 H8.out.1.one.bel).1
          have hac := act_any H8.out.1.two.is H8.out.1.two.ok HWB.out.2 o w.heap.size (HO.out.1 w8 H8.out.1.one.bel).2 HO.out.2 (fun j hj => H8.out.1.two.free j hj)
          rw [HQ.out.2.2.2.2.2.2] at hac
          have HWA : Hid (A.writes ≤ k) := H7.out.1.two.writes
          have HAC : Hid _ := hac
          clear ht8 hac hp7 hq7 hr7 H7
          go_wp2_with (refine wpList_load_mid rfl 32 _ rfl b (off + k * 6) rfl o.cells _ hr8 Try.underlying32 rfl hsz6 ?_)
          refine Calls.mono HAC.out ?_
          rintro e w9 ⟨rfl, gv9, ns9, ht9⟩
          have H9 : Hid (Two w p q w9 fv8 ms8 D' gv9 ns9 A' (k + 1) ∧ ImgAt w9 B1 (.slice (some ⟨B1, 0, none⟩) D.files.length D.files.length) D.files vs1) := ⟨(H8.out.1.swap.to ht9 HQ.out.2.2.1 (by show A'.writes ≤ ((k + 1 : Nat) : Int); have := HQ.out.2.2.2.2.1; have := HWA.out; omega) (Nat.le_refl _)).swap, H8.out.2.1.kept ht9.kept (fun j e => .inl (H8.out.2.2 j e))⟩
          have hp9 := lt_of_block H9.out.1.one.is.row
          have hq9 := lt_of_block H9.out.1.two.is.row
          have HWD : Hid _ := dWrites_any H9.out.1.one.is
          have HWE : Hid _ := dWrites_any H9.out.1.two.is
          clear ht9 hp8 hq8 hr8 H8 HAC HO hsz6
          rcases HQ.out.1 with ⟨rfl, hm', hws⟩ | ⟨rfl, rfl, hwp, hn0, hwn, hon, hwa, hfa⟩
          · have hAw : A'.writes = D'.writes := by rw [hm'.is]
            rw [hAw] at HWE
            have HM' : Hid _ := hm'
            clear hm' hAw
            rcases hws with hws | ⟨hws, hnn⟩
            · rw [hws] at HWD HWE
              generalize D.writes = W0 at *
              go_wp2_with fail
              refine Calls.mono HWD.out ?_
              rintro e wa ⟨rfl, hwa⟩
              subst wa
              go_wp2_with fail
              refine Calls.mono HWD.out ?_
              rintro e wa ⟨rfl, hwa⟩
              subst wa
              go_wp2_with fail
              refine Calls.mono HWE.out ?_
              rintro e wa ⟨rfl, hwa⟩
              subst wa
              go_wp2_with fail
              go_roundw
              case rel => exact ⟨k + 1, by omega, by go_num, ⟨_, _, _, _, _, _, H9.out.1, HM'.out⟩⟩
              case measure => simp [intOf]; omega
            · rw [hws] at HWD HWE
              generalize D.writes = W0 at *
              have hor : decide (n ≥ 0) = false ∨ (decide (n ≥ 0) = true ∧ (W0 == n) = false) := by
                by_cases h0 : n < 0
                · exact .inl (decide_eq_false (by omega))
                · refine .inr ⟨decide_eq_true (by omega), ?_⟩
                  rcases hnn with e | e
                  · exact absurd e h0
                  · simpa using e
              rcases hor with hd0 | ⟨hd0, hd1⟩
              all_goals
                go_wp2_with fail
                refine Calls.mono HWD.out ?_
                rintro e wa ⟨rfl, hwa⟩
                subst wa
                go_wp2_with fail
                refine Calls.mono HWD.out ?_
                rintro e wa ⟨rfl, hwa⟩
                subst wa
                go_wp2_with fail
                refine Calls.mono HWE.out ?_
                rintro e wa ⟨rfl, hwa⟩
                subst wa
                go_wp2_with fail
                go_roundw
                case rel => exact ⟨k + 1, by omega, by go_num, ⟨_, _, _, _, _, _, H9.out.1, HM'.out⟩⟩
                case measure => simp [intOf]; omega
          · rw [hwp, hwn] at HWD
            rw [hwa] at HWE
            have hO := on_any H9.out.1.two.is
            rw [hon] at hO
            have HOn : Hid _ := hO
            have HIM : Hid _ := dImage_any H9.out.1.two.is H9.out.1.two.ok
            have hd0 : decide (n ≥ 0) = true := decide_eq_true (by omega)
            have hfew := H9.out.1.two.ok.few
            rw [hfa] at HIM hfew
            clear hwp hO
            rw [hwn]
            go_wp2_with fail
            refine Calls.mono HWD.out ?_
            rintro e wa ⟨rfl, hwa⟩
            subst wa
            go_wp2_with fail
            refine Calls.mono HOn.out ?_
            rintro e wa ⟨rfl, hwa⟩
            subst wa
            go_wp2_with fail
            refine Calls.mono HWE.out ?_
            rintro e wa ⟨rfl, hwa⟩
            subst wa
            go_wp2_with fail
            refine Calls.mono HIM.out ?_
            rintro e wb ⟨rfl, ⟨vs2, him⟩, hbb⟩
            have HEQ : Hid _ := eqFiles_same him (H9.out.2.kept (Below.kept hbb) (fun j e => .inr e)) hfew
            have HBB : Hid (Below w.heap.size w wb) := Below.step H9.out.1.one.bel hbb
            clear him hbb
            go_wp2_with fail
            refine Calls.mono HEQ.out ?_
            rintro e wc ⟨rfl, nn, hwc⟩
            subst wc
            go_wp2_with fail
            go_ret
            exact ⟨rfl, below_drewN HBB.out _⟩
        · obtain rfl : k = l.length := by omega
          have hA1 : A.on = true := by rw [HM.out.is]; exact HM.out.on
          have hA2 : A.files = D.files := by rw [HM.out.is]
          have hO := on_any HU.out.two.is
          rw [hA1] at hO
          have HOn : Hid _ := hO
          have HIM : Hid _ := dImage_any HU.out.two.is HU.out.two.ok
          rw [hA2] at HIM
          have HA2 : Hid _ := hA2
          clear hO hA1 hA2
          go_wp2_with fail
          refine Calls.mono HOn.out ?_
          rintro e wa ⟨rfl, hwa⟩
          subst wa
          go_wp2_with fail
          refine Calls.mono HIM.out ?_
          rintro e wb ⟨rfl, ⟨vs1, him⟩, hbb⟩
          have H6 : Hid (Two w p q wb fv ms D gv ns A l.length ∧ ImgAt wb wr.heap.size (.slice (some ⟨wr.heap.size, 0, none⟩) D.files.length D.files.length) D.files vs1) := ⟨HU.out.later hbb, him⟩
          have hp6 := lt_of_block H6.out.1.one.is.row
          clear him hbb HIM
          have HIM : Hid _ := dImage_any H6.out.1.one.is H6.out.1.one.ok
          go_wp2_with fail
          refine Calls.mono HIM.out ?_
          rintro e wc ⟨rfl, ⟨vs2, him⟩, hbc⟩
          have HEQ : Hid _ := eqFiles_same (H6.out.2.kept (Below.kept hbc) (fun j e => .inr e)) him H6.out.1.one.ok.few
          have HBB : Hid (Below w.heap.size w wc) := Below.step H6.out.1.one.bel hbc
          clear him hbc
          go_wp2_with fail
          refine Calls.mono HEQ.out ?_
          rintro e wd ⟨rfl, nn, hwd⟩
          subst wd
          go_wp2_with fail
          go_ret
          exact ⟨rfl, below_drewN HBB.out _⟩
    · have HN : Hid _ := new_no room w2 hq
      have hor : decide (room < 0) = true ∨ (decide (room < 0) = false ∧ decide (room > 16777216) = true) := by
        by_cases h0 : room < 0
        · exact .inl (decide_eq_true h0)
        · exact .inr ⟨decide_eq_false h0, decide_eq_true (by omega)⟩
      clear hq
      go_wp2_with fail
      refine Calls.mono HN.out ?_
      rintro e w3 ⟨rfl, hw3⟩
      subst w3
      go_wp2_with fail
      refine Calls.mono HN.out ?_
      rintro e w3 ⟨rfl, hw3⟩
      subst w3
      rcases hor with hd | ⟨hd, hd2⟩
      · go_wp2_with fail
        go_ret
        exact ⟨rfl, H2.out⟩
      · go_wp2_with fail
        go_ret
        exact ⟨rfl, H2.out⟩
  · go_enter Try.func5, Try.ntmps5
    go_wp2_with fail
    refine Calls.mono HY.out ?_
    rintro e w1 ⟨rfl, hb1⟩
    have H1 : Hid _ := hb1
    clear hb1 HY
    go_wp2_with fail
    go_ret
    exact ⟨rfl, H1.out⟩
end Go.Proofs.Ytofgkbpopfgefaa
