/- Both disks alike: the law's alike answers true; the document's New. -/
import Derived.Test.YtnapgjojhkghfaaReAJ
namespace Go.Proofs.Ytnapgjojhkghfaa
open Go.RowKit Go.Shelf
set_option maxRecDepth 8000

set_option maxHeartbeats 4000000 in
theorem alike_any {w0 w : World} {p q : Nat} {D : DkD} {R : RD} {k : Nat} (h : Both w0 w p q D R k) (hk : k ≤ 4611686018427387900) :
    Calls Try.prog 10 #[.pointer (some ⟨p, 0, none⟩), .pointer (some ⟨q, 0, none⟩)] w fun e w' => e = .returned (.bool true) ∧ Below w.heap.size w w' := by
  obtain ⟨fv, ms, rv, vs, hd, hr, hap, h4, h5⟩ := h.ex
  have hrd := h.rdOk (by omega)
  have hlq := lt_of_block hr.row
  have hlp := lt_of_block hd.row
  have HX : Hid (IsDk w p fv ms D ∧ IsRd w q rv vs R ∧ DkOk D ∧ RdOk R ∧ Play D R) := ⟨hd, hr, h.ok, hrd, h.play⟩
  obtain ⟨fa, fc, hfv, hfc, hfm⟩ := img_shape hr.img
  have HFV : Hid _ := hfv
  clear h hd hr hap h4 h5 hrd hfv
  go_enter Try.func10, Try.ntmps10
  go_wp2_with fail
  refine Calls.mono (on_any HX.out.1) ?_
  rintro e w1 ⟨rfl, hw1⟩
  subst w1
  go_wp2_with fail
  refine Calls.mono (dUsed_any HX.out.1 HX.out.2.2.1) ?_
  rintro e w1 ⟨rfl, hw1⟩
  subst w1
  go_wp2_with fail
  refine Calls.mono (dWrites_any HX.out.1) ?_
  rintro e w1 ⟨rfl, hw1⟩
  subst w1
  go_wp2_with fail
  refine Calls.mono (dNames_any HX.out.1 HX.out.2.2.1) ?_
  rintro e w1 ⟨rfl, hn1, hb1⟩
  have HN1 : Hid _ := And.intro hn1 hb1
  clear hn1 hb1
  go_wp2_with fail
  refine Calls.mono (dImage_any (HX.out.1.later HN1.out.2) HX.out.2.2.1) ?_
  rintro e w2 ⟨rfl, ⟨us, hn2⟩, hb2⟩
  have HN2 : Hid _ := And.intro hn2 hb2
  have hb02 : Below w.heap.size w w2 := Below.step HN1.out.2 hb2
  have hr2 := HX.out.2.1.later hb02
  have x1 := hr2.cells.2.1
  have x2 := hr2.cells.2.2.1
  have x5 := hr2.cells.2.2.2.2.2
  have hl2 := lt_of_block hr2.row
  have HSU : Hid (Calls Try.prog 25 #[.slice fa R.files.length fc] w2 fun e w' => e = .returned (.int .i64 (usedD D.files)) ∧ w' = w2) := by
    have h7 := refSum_any hr2.img HX.out.2.2.2.1.few (by have := HX.out.2.2.2.1.used; omega)
    rw [HFV.out, HX.out.2.2.2.2.files] at h7
    rw [HX.out.2.2.2.2.files]
    exact h7
  rw [HFV.out] at x1
  rw [HX.out.2.2.2.2.on] at x2
  rw [HX.out.2.2.2.2.done] at x5
  have HR2 : Hid _ := And.intro hr2 hb02
  have HNM : Hid _ := refNames_any hr2 HX.out.2.2.2.1.few
  clear hn2 hb2 hb02 hr2
  go_wp2_with fail
  refine Calls.mono HSU.out ?_
  rintro e w3 ⟨rfl, hw3⟩
  subst w3
  go_wp2_with fail
  refine Calls.mono HNM.out ?_
  rintro e w3 ⟨v3, rfl, hn3, hb3⟩
  have HEQ : Hid (Calls Try.prog 21 #[.slice (some ⟨w.heap.size, 0, none⟩) D.files.length D.files.length, v3] w3 fun e w' => e = .returned (.bool true) ∧ ∃ n, w' = w3.drewN n) := by
    rw [HX.out.2.2.2.2.files] at hn3
    have hb13 := Below.step HN2.out.2 hb3
    have h7 := row_kept' HN1.out.1 (Below.kept hb13) (fun j e e' => by have := (HN1.out.1.lt j e).2; omega)
    exact eqNames_same h7 hn3 HX.out.2.2.1.few
  have HB3 : Hid _ := hb3
  clear hn3 hb3 HNM
  go_wp2_with fail
  refine Calls.mono HEQ.out ?_
  rintro e w4 ⟨rfl, m4, hw4⟩
  have hb24 : Below w2.heap.size w2 w4 := by rw [hw4]; exact below_drewN HB3.out m4
  have hr4 := HR2.out.1.later hb24
  have hl4 := lt_of_block hr4.row
  have HIM : Hid _ := refImage_any hr4 HX.out.2.2.2.1
  have HB4 : Hid _ := hb24
  clear hb24 hr4 hw4 HEQ
  go_wp2_with fail
  refine Calls.mono HIM.out ?_
  rintro e w5 ⟨v5, us5, rfl, hn5, hb5⟩
  have HEQ : Hid (Calls Try.prog 32 #[.slice (some ⟨w1.heap.size, 0, none⟩) D.files.length D.files.length, v5] w5 fun e w' => e = .returned (.bool true) ∧ ∃ n, w' = w5.drewN n) := by
    rw [HX.out.2.2.2.2.files] at hn5
    have h7 := HN2.out.1.kept (Below.kept (Below.step HB4.out hb5)) (fun j e => .inr e)
    exact eqFiles_like h7 hn5 HX.out.2.2.1.few
  have HB5 : Hid _ := hb5
  clear hn5 hb5 HIM
  go_wp2_with fail
  refine Calls.mono HEQ.out ?_
  rintro e w6 ⟨rfl, m6, hw6⟩
  have HBE : Hid (Below w.heap.size w w6) := by
    rw [hw6]
    exact below_drewN (Below.step HR2.out.2 (Below.step HB4.out HB5.out)) m6
  clear hw6 HEQ
  go_wp2_with fail
  go_ret
  exact ⟨rfl, HBE.out⟩

theorem isRd_new (w : World) (room : Int) : IsRd (w.alloc (.cells (rdQ (.slice none 0 0) ⟨[], room, true, false, 0, 0⟩) 44)) w.heap.size (.slice none 0 0) [] ⟨[], room, true, false, 0, 0⟩ :=
  ⟨heap_alloc_new w _, ⟨rfl, World.ownsRow_nil _ _ _ _, fun i u f h => by simp at h⟩, by simp [rfoot, Value.ownBlock]⟩

theorem refNew_yes (room : Int) (w : World) (hq : 0 ≤ room ∧ room ≤ 16777216) : Calls Try.prog 7 #[.int .i64 room] w fun e w' => e = .returned (.tuple #[.pointer (some ⟨w.heap.size, 0, none⟩), .int .i64 0]) ∧ w' = w.alloc (.cells (rdQ (.slice none 0 0) ⟨[], room, true, false, 0, 0⟩) 44) := by
  have h1 : decide (room < 0) = false := decide_eq_false (by omega)
  have h2 : decide (room > 16777216) = false := decide_eq_false (by omega)
  go_enter Try.func7, Try.ntmps7
  go_wp2_with fail
  go_ret2
  exact ⟨rfl, rfl⟩

theorem refNew_no (room : Int) (w : World) (hq : ¬ (0 ≤ room ∧ room ≤ 16777216)) : Calls Try.prog 7 #[.int .i64 room] w fun e w' => e = .returned (.tuple #[.pointer none, .int .i64 1]) ∧ w' = w := by
  by_cases h0 : room < 0
  · have h1 : decide (room < 0) = true := decide_eq_true h0
    go_enter Try.func7, Try.ntmps7
    go_wp2_with fail
    go_ret2
    exact ⟨rfl, rfl⟩
  · have h1 : decide (room < 0) = false := decide_eq_false h0
    have h2 : decide (room > 16777216) = true := decide_eq_true (by omega)
    go_enter Try.func7, Try.ntmps7
    go_wp2_with fail
    go_ret2
    exact ⟨rfl, rfl⟩
end Go.Proofs.Ytnapgjojhkghfaa

/- DiskPlays, walked. -/
namespace Go.Proofs.Ytnapgjojhkghfaa
open Go.RowKit Go.Shelf
set_option maxRecDepth 8000

/-- A call of a script that came in. -/
theorem op_at {w : World} {v : Value} {l : List OpK} {sa : Option Addr} {sc : Nat} (hl : SeesOpsK w w.heap.size v l) (hv : v = .slice sa l.length sc) (k : Nat) (hlt : k < l.length) : ∃ b off, sa = some ⟨b, off, none⟩ ∧ ∀ wx, Below w.heap.size w wx → wx.rangeAt b (off + k * 6) l[k].cells ∧ GoodOpK wx w.heap.size l[k] := by
  subst hv
  obtain ⟨⟨_, _, esl, _, _, h0 | ⟨b, off, e2, hb, hr⟩⟩, hgo⟩ := hl
  · rw [h0] at hlt; simp at hlt
  have e3 : sa = some ⟨b, off, none⟩ := by
    have := (Value.slice.inj esl).1
    rw [this]; exact e2
  have hrk : w.rangeAt b (off + k * 6) l[k].cells := hr k hlt
  have hg := hgo l[k] (List.getElem_mem hlt)
  exact ⟨b, off, e3, fun wx hbx => ⟨fun j x hj => cell_later (hrk j x hj) hbx (Nat.le_refl _), hg.kept (Below.kept hbx) (fun j hj e => by omega)⟩⟩

set_option maxHeartbeats 4000000 in
theorem plays_walk (room : Int) (v : Value) (l : List OpK) (w : World) (hl : SeesOpsK w w.heap.size v l) (hll : l.length ≤ 140737488355328) :
    Calls Try.prog 3 #[.int .i64 room, v] w fun r w' => r = .returned (.bool true) ∧ Below w.heap.size w w' := by
  have HY : Hid _ := beyond_any room hl hll
  obtain ⟨⟨sa, sc, rfl, hsc, hscm, _⟩, _⟩ := id hl
  unfold maxLen at hscm
  have HL : Hid (SeesOpsK w w.heap.size (.slice sa l.length sc) l) := hl
  have HB : Hid (byd l = false → l.length < 2147483647 ∧ ∀ o ∈ l, o.p.length < 2147483647) := byd_false
  generalize byd l = bb at *
  clear hl
  cases bb
  · obtain ⟨hl1, hl2⟩ := HB.out rfl
    have HL2 : Hid _ := hl2
    clear HB hl2
    by_cases hq : 0 ≤ room ∧ room ≤ 16777216
    · go_enter Try.func3, Try.ntmps3
      go_wp2_with fail
      refine Calls.mono HY.out ?_
      rintro e w2 ⟨rfl, hb1⟩
      have H1 : Hid _ := hb1
      clear hb1 HY
      have HN : Hid _ := new_yes room w2 hq
      go_wp2_with fail
      refine Calls.mono HN.out ?_
      rintro e w3 ⟨rfl, hw3⟩
      have HN2 : Hid _ := refNew_yes room w3 hq
      have HW3 : Hid _ := hw3
      clear hw3
      go_wp2_with fail
      refine Calls.mono HN2.out ?_
      rintro e w4 ⟨rfl, hw4⟩
      have hw3 := HW3.out
      have hs3 : w3.heap.size = w2.heap.size + 1 := by rw [hw3]; simp
      have HBO : Hid (Both w w4 w2.heap.size w3.heap.size (newD room) ⟨[], room, true, false, 0, 0⟩ 0) := by
        have hb3 : Below w2.heap.size w2 w3 := by rw [hw3]; exact one_allocK _ _
        have hb4 : Below w3.heap.size w3 w4 := by rw [hw4]; exact one_allocK _ _
        have i1 : IsDk w3 w2.heap.size (.slice none 0 0) [] (newD room) := by rw [hw3]; exact isDk_new w2 room
        have i2 : IsRd w4 w3.heap.size (.slice none 0 0) [] ⟨[], room, true, false, 0, 0⟩ := by rw [hw4]; exact isRd_new w3 room
        have hs := H1.out.size
        refine ⟨⟨_, _, _, _, i1.later hb4, i2, fun j hj hm => ?_, fun j hj => ?_, fun j hj => ?_⟩, dkOk_new room hq.1 hq.2, calm_new room, play_new room, by show (0 : Int) ≤ 9223372036854775807; decide, by simp, Below.step H1.out (Below.step hb3 hb4)⟩
        · simp [foot, Value.ownBlock] at hj
          simp [rfoot, Value.ownBlock] at hm
          omega
        · simp [foot, Value.ownBlock] at hj
          omega
        · simp [rfoot, Value.ownBlock] at hj
          omega
      clear hw3 hw4 HN HN2 H1 HW3
      obtain ⟨p, hp⟩ : ∃ p, p = w2.heap.size := ⟨_, rfl⟩
      obtain ⟨q, hq2⟩ : ∃ q, q = w3.heap.size := ⟨_, rfl⟩
      rw [← hp, ← hq2] at HBO
      rw [← hp, ← hq2]
      clear hp hq2 hs3
      go_wp2_with fail
      go_loopw [9] (fun vi wr => ∃ k : Nat, k ≤ l.length ∧ vi = .int .i64 k ∧ Hid (∃ D R, Both w wr p q D R k)) (fun vi _ => l.length - (intOf vi).toNat)
      case atStart => exact ⟨0, Nat.zero_le _, rfl, ⟨_, _, HBO.out⟩⟩
      case round =>
        obtain ⟨k, hk, rfl, HI⟩ := hrel
        obtain ⟨D, R, hB⟩ := HI.out
        have HU : Hid _ := hB
        clear hB HI HBO
        by_cases hlt : k < l.length
        · obtain ⟨b, off, rfl, hop⟩ := op_at HL.out rfl k hlt
          have hpl : l[k].p.length ≤ 100000000000 := by have := HL2.out l[k] (List.getElem_mem hlt); omega
          have hsz6 : (Try.prog.info? 36).map (·.size) = some l[k].cells.length := Try.opSize
          generalize l[k] = o at *
          have hr := (hop wr HU.out.bel).1
          have HO : Hid _ := step_any HU.out (by omega) o (hop wr HU.out.bel).2 hpl
          clear hop hpl
          go_wp2_with (refine wpList_load_mid rfl 36 _ rfl b (off + k * 6) rfl o.cells _ hr Try.underlying36 rfl hsz6 ?_)
          refine Calls.mono HO.out ?_
          rintro e w5 ⟨rfl, D5, R5, hB5⟩
          have H5 : Hid _ := hB5
          clear hB5 hr HO hsz6
          go_wp2_with fail
          go_roundw
          case rel => exact ⟨k + 1, by omega, by go_num, ⟨D5, R5, H5.out⟩⟩
          case measure => simp [intOf]; omega
        · obtain rfl : k = l.length := by omega
          have HAL : Hid _ := alike_any HU.out (by omega)
          go_wp2_with fail
          refine Calls.mono HAL.out ?_
          rintro e w5 ⟨rfl, hb5⟩
          have H5 : Hid (Below w.heap.size w w5) := Below.step HU.out.bel hb5
          clear hb5 HAL
          go_wp2_with fail
          go_ret
          exact ⟨rfl, H5.out⟩
    · go_enter Try.func3, Try.ntmps3
      go_wp2_with fail
      refine Calls.mono HY.out ?_
      rintro e w2 ⟨rfl, hb1⟩
      have H1 : Hid _ := hb1
      clear hb1 HY
      have HN : Hid _ := new_no room w2 hq
      go_wp2_with fail
      refine Calls.mono HN.out ?_
      rintro e w3 ⟨rfl, hw3⟩
      subst w3
      have HN2 : Hid _ := refNew_no room w2 hq
      go_wp2_with fail
      refine Calls.mono HN2.out ?_
      rintro e w3 ⟨rfl, hw3⟩
      subst w3
      go_wp2_with fail
      refine Calls.mono (lives_yes w2) ?_
      rintro e w3 ⟨rfl, hb3⟩
      have H3 : Hid (Below w.heap.size w w3) := Below.step H1.out hb3
      clear hb3
      go_wp2_with fail
      go_ret
      exact ⟨rfl, H3.out⟩
  · go_enter Try.func3, Try.ntmps3
    go_wp2_with fail
    refine Calls.mono HY.out ?_
    rintro e w1 ⟨rfl, hb1⟩
    have H1 : Hid _ := hb1
    clear hb1
    go_wp2_with fail
    go_ret
    exact ⟨rfl, H1.out⟩
end Go.Proofs.Ytnapgjojhkghfaa
