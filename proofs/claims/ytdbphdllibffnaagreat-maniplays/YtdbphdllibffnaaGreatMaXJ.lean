/- manifest: Put where a file of the name New is there. -/
import Derived.Test.YtdbphdllibffnaaGreatMaWJ
namespace Go.Proofs.YtdbphdllibffnaaGreat
open Go.RowKit Go.Shelf
set_option maxRecDepth 8000

/-- The write that takes a file New away. -/
def remK (D : DkD) : Int × DkD := D.act (D.errO newN) (D.files.eraseIdx (dropI D.files newN))
/-- All four writes. -/
def tail4 (bs : List Int) (D : DkD) : Int × DkD := thenK (remK D) (tailK bs 3)

theorem remK_ok {D : DkD} (h : DkOk D) : DkOk (remK D).2 := h.act _ _ (fun _ => h.fok.erase _)
theorem remK_writes (D : DkD) : (remK D).2.writes ≤ D.writes + 1 := act_writes ..

theorem rem_next {bs : List Int} {D D' : DkD} {R : Int × DkD} (hR : R = tail4 bs D) (hs : remK D = (0, D')) : R = tailK bs 3 D' := by
  rw [hR]
  unfold tail4
  rw [hs]
  rfl

theorem rem_stop {bs : List Int} {D D' : DkD} {E : Int} {R : Int × DkD} (hR : R = tail4 bs D) (hs : remK D = (E, D')) (hE : E ≠ 0) : R = (E, D') := by
  rw [hR]
  unfold tail4
  rw [hs]
  unfold thenK
  rw [if_neg hE]

set_option maxHeartbeats 4000000 in
theorem mput_yes {w : World} {p : Nat} {fv : Value} {ms : List FiM} {D : DkD} (h : IsDk w p fv ms D) (ok : DkOk D) (hw : D.writes ≤ 4611686018427387000) (hno : hasF D.files newN = true) (m : MaD) (hm : m.Fits) (hy : mayM m = true) :
    Calls Tryz.prog 17 #[.pointer (some ⟨p, 0, none⟩), m.val] w (ActTo w p fv ms (tail4 (maF m) D)) := by
  obtain ⟨W, eW⟩ : ∃ W, W = w.alloc (.cells #[.int .u32 m.boot, .int .u32 m.acc, .int .u32 m.cur, .int .i64 m.snap, .int .i64 m.log] 35) := ⟨_, rfl⟩
  have hbW : Below w.heap.size w W := by rw [eW]; exact one_allocK _ _
  have hrow : W.heap[w.heap.size]? = some (.cells #[.int .u32 m.boot, .int .u32 m.acc, .int .u32 m.cur, .int .i64 m.snap, .int .i64 m.log] 35 (0, 0)) := by rw [eW]; exact heap_alloc_new w _
  obtain ⟨R, hR⟩ : ∃ R, R = tail4 (maF m) D := ⟨_, rfl⟩
  rw [← hR]
  have HRR : Hid _ := hR
  have HE : Hid _ := eW
  have HNO : Hid _ := isNone_dk (h.later hbW) ok
  have HX : Hid (IsDk w p fv ms D ∧ DkOk D ∧ D.writes ≤ 4611686018427387000 ∧ hasF D.files newN = true ∧ m.Fits ∧ mayM m = true ∧ Below w.heap.size w W ∧ W.heap[w.heap.size]? = some (.cells #[.int .u32 m.boot, .int .u32 m.acc, .int .u32 m.cur, .int .i64 m.snap, .int .i64 m.log] 35 (0, 0))) := ⟨h, ok, hw, hno, hm, hy, hbW, hrow⟩
  have hlW := lt_of_block hrow
  clear h ok hw hno hm hy hbW hrow eW hR
  go_enter Tryz.func17, Tryz.ntmps17
  go_upto_region 1 with fail
  rw [← HE.out]
  go_wp2_with fail
  refine Calls.mono HNO.out ?_
  rintro e w1 ⟨rfl, hb1⟩
  have hrow1 : w1.heap[w.heap.size]? = some (.cells #[.int .u32 m.boot, .int .u32 m.acc, .int .u32 m.cur, .int .i64 m.snap, .int .i64 m.log] 35 (0, 0)) := (Below.kept hb1).heap HX.out.2.2.2.2.2.2.2 (fun e => by omega)
  have hl1 := lt_of_block hrow1
  have d0 := cell_of_row w1 _ 0 _ _ _ hrow1
  have d1 := cell_of_row w1 _ 1 _ _ _ hrow1
  have d2 := cell_of_row w1 _ 2 _ _ _ hrow1
  have d3 := cell_of_row w1 _ 3 _ _ _ hrow1
  have d4 := cell_of_row w1 _ 4 _ _ _ hrow1
  simp only [List.getElem?_toArray, List.getElem?_cons_zero, List.getElem?_cons_succ] at d0 d1 d2 d3 d4
  have HB1 : Hid (Below w.heap.size w w1) := Below.step HX.out.2.2.2.2.2.2.1 hb1
  have HWR : Hid _ := mwrite_yes m HX.out.2.2.2.2.1 HX.out.2.2.2.2.2.1 w1
  rw [maF_len] at HWR
  clear hb1 hrow1 HNO
  go_wp2_with fail
  refine Calls.mono HWR.out ?_
  rintro e w2 ⟨g, rfl, hg, ho2, hb2⟩
  have HB2 : Hid (Below w.heap.size w w2) := Below.step HB1.out hb2
  have HO2 : Hid (Owns w2 0 (.slice (some ⟨g, 0, none⟩) 38 38) (maF m) ∧ w.heap.size ≤ g ∧ g < w2.heap.size) := ⟨owns_mono ho2 (Nat.zero_le _), by have := HB1.out.size; omega, (ho2.lt g rfl).2⟩
  have HWS : Hid _ := writes_yes (HX.out.1.later HB2.out) HX.out.2.1 HX.out.2.2.2.1 (some ⟨g, 0, none⟩) 38 38
  clear ho2 hb2 hg HWR d0 d1 d2 d3 d4
  go_wp2_with fail
  refine Calls.mono HWS.out ?_
  rintro e w3 ⟨g4, c4, cur4, rfl, ⟨hc4, hc5⟩, hall⟩
  obtain ⟨hg4, hb3, r0, r1, r2, v0, v1, v2, v3⟩ := hall.out
  have H3 : Hid (Below w2.heap.size w2 w3 ∧ w3.heap[w2.heap.size]? = some (.cells #[.pointer (some ⟨p, 0, none⟩)] 25 (0, 0)) ∧ w3.heap[w2.heap.size + 1]? = some (.cells #[.slice (some ⟨g, 0, none⟩) 38 38] 36 (0, 0)) ∧ w3.heap[g4]? = some (.cells cur4 81 (0, 0)) ∧ cur4[0]? = some (wfn4 w2.heap.size) ∧ cur4[1]? = some (wfn1 w2.heap.size) ∧ cur4[2]? = some (wfn2 w2.heap.size) ∧ cur4[3]? = some (wfn3 w2.heap.size) ∧ w2.heap.size ≤ g4) := ⟨hb3, r0, r1, r2, v0, v1, v2, v3, hg4⟩
  have H0 : Hid (PuK w3 p fv ms w3 D fv ms 0 D.writes) := ⟨DkTo.refl (HX.out.1.later (Below.step HB2.out hb3)), HX.out.2.1, by simp⟩
  have HW3 : Hid (Below w.heap.size w w3) := Below.step HB2.out hb3
  have HFT : Hid (∀ j ∈ foot p fv ms, j < w.heap.size) := fun j hj => HX.out.1.lt hj
  clear hb3 r0 r1 r2 HWS hall v0 v1 v2 v3 hg4
  obtain ⟨B, hB⟩ : ∃ B, B = w2.heap.size := ⟨_, rfl⟩
  have HBB : Hid _ := hB
  rw [← hB] at H3
  have HBW : Hid (w.heap.size ≤ B) := by show _ ≤ _; rw [hB]; exact HB2.out.size
  clear hB
  go_wp2_with fail
  go_loopw [8, 9, 24] (fun _ _ vi wr => ∃ k : Nat, k ≤ 4 ∧ vi = .int .i64 k ∧ Hid (∃ D' fv' ms', PuK w3 p fv ms wr D' fv' ms' k D.writes ∧ (k = 0 → R = tail4 (maF m) D') ∧ (1 ≤ k → R = tailK (maF m) (4 - k) D'))) (fun _ _ vi _ => 4 - (intOf vi).toNat)
  case atStart => exact ⟨0, by omega, rfl, ⟨D, fv, ms, H0.out, fun _ => HRR.out, fun e => by omega⟩⟩
  case round =>
    obtain ⟨k, hk, rfl, HI⟩ := hrel
    clear H0
    obtain ⟨D', fv', ms', hpu, hk0, hk1⟩ := HI.out
    have hkp := hpu.to'.kept
    have hsz3 := hkp.size
    have hB2 : g4 < w3.heap.size := lt_of_block H3.out.2.2.2.1
    have hkeep : ∀ i, ¬ (B + i ∈ foot p fv ms) := fun i e => by
      have := HFT.out _ e
      have := HBW.out
      omega
    have s0 : wr.heap[B]? = some (.cells #[.pointer (some ⟨p, 0, none⟩)] 25 (0, 0)) := hkp.heap H3.out.2.1 (hkeep 0)
    have s1 : wr.heap[B + 1]? = some (.cells #[.slice (some ⟨g, 0, none⟩) 38 38] 36 (0, 0)) := hkp.heap H3.out.2.2.1 (hkeep 1)
    have s2 : wr.heap[g4]? = some (.cells cur4 81 (0, 0)) := hkp.heap H3.out.2.2.2.1 (fun e => by have h8 := HFT.out _ e; have h9 := H3.out.2.2.2.2.2.2.2.2; have := HBW.out; omega)
    have t0 : wr.cell? ⟨B, 0, none⟩ = some (.pointer (some ⟨p, 0, none⟩)) := cell_of_row wr _ 0 _ _ _ s0
    have t1 : wr.cell? ⟨B + 1, 0, none⟩ = some (.slice (some ⟨g, 0, none⟩) 38 38) := cell_of_row wr _ 0 _ _ _ s1
    have u0 : wr.cell? ⟨g4, 0, none⟩ = some (wfn4 B) := (cell_of_row wr _ 0 _ _ _ s2).trans H3.out.2.2.2.2.1
    have u1 : wr.cell? ⟨g4, 1, none⟩ = some (wfn1 B) := (cell_of_row wr _ 1 _ _ _ s2).trans H3.out.2.2.2.2.2.1
    have u2 : wr.cell? ⟨g4, 2, none⟩ = some (wfn2 B) := (cell_of_row wr _ 2 _ _ _ s2).trans H3.out.2.2.2.2.2.2.1
    have u3 : wr.cell? ⟨g4, 3, none⟩ = some (wfn3 B) := (cell_of_row wr _ 3 _ _ _ s2).trans H3.out.2.2.2.2.2.2.2.1
    have hlB := lt_of_block s2
    have hok := hpu.ok
    have hwr : D'.writes ≤ 4611686018427387904 := by have := hpu.writes; have := HX.out.2.2.1; omega
    by_cases hlt : k < 4
    · rcases (show k = 0 ∨ k = 1 ∨ k = 2 ∨ k = 3 by omega) with rfl | rfl | rfl | rfl
      · skip
        have HCL : Hid (Calls Tryz.prog 97 #[.pointer (some ⟨B, 0, none⟩)] wr fun e w' => e = .returned (.int .i64 (remK D').1) ∧ Hid (∃ fv1 ms1, PuK w3 p fv ms w' (remK D').2 fv1 ms1 (0 + 1) D.writes)) := by
          refine (wr4_any hpu.to'.is hok hwr B t0).mono ?_
          rintro e w' ⟨rfl, fv1, ms1, ht⟩
          exact ⟨by rw [show remK D' = D'.act (D'.errO newN) (D'.files.eraseIdx (dropI D'.files newN)) from rfl], fv1, ms1, by rw [show remK D' = D'.act (D'.errO newN) (D'.files.eraseIdx (dropI D'.files newN)) from rfl]; exact hpu.to'.trans ht, remK_ok hok, by have := remK_writes D'; have := hpu.writes; omega⟩
        obtain ⟨E, D1, hE⟩ : ∃ E D1, remK D' = (E, D1) := ⟨_, _, rfl⟩
        rw [hE] at HCL
        have HEE : Hid _ := hE
        have HRQ : Hid (R = tail4 (maF m) D') := hk0 rfl
        have HP0 : Hid _ := hpu
        clear hE hk1 hpu hk0 HI s0 s1 s2 hkp hkeep hok hwr 
        by_cases he : E = 0
        · subst he
          go_wp2_with fail
          refine Calls.mono HCL.out ?_
          rintro e w5 ⟨rfl, H5⟩
          have HRN : Hid (R = tailK (maF m) (4 - (0 + 1)) D1) := rem_next HRQ.out HEE.out
          go_wp2_with fail
          go_roundw
          case rel =>
            obtain ⟨fv1, ms1, h6⟩ := H5.out
            exact ⟨0 + 1, by omega, by go_num, ⟨D1, fv1, ms1, h6, fun e => by omega, fun _ => HRN.out⟩⟩
          case measure => simp [intOf]
        · have hb : (E != 0) = true := by simpa using he
          have HRS : Hid (R = (E, D1)) := rem_stop HRQ.out HEE.out he
          clear he
          go_wp2_with fail
          refine Calls.mono HCL.out ?_
          rintro e w5 ⟨rfl, H5⟩
          go_wp2_with fail
          go_ret
          obtain ⟨fv1, ms1, h6⟩ := H5.out
          exact ⟨by rw [HRS.out]; rfl, fv1, ms1, by rw [HRS.out]; exact DkTo.after HW3.out h6.to'⟩
      · have hgf : g ∉ foot p fv ms := fun e => by have := HFT.out _ e; have := HO2.out.2.1; omega
        have hsee : Sees wr (.slice (some ⟨g, 0, none⟩) 38 38) (maF m) := by
          have h7 := Sees.own ((HO2.out.1.kept (Below.kept H3.out.1) (fun q e e' => by have h8 : g = q := Option.some.inj e; have := HO2.out.2.2; have := HBB.out; omega)).kept hkp (fun q e e' => hgf (by rw [show g = q from Option.some.inj e]; exact e')))
          exact h7
        have HCL : Hid (Calls Tryz.prog 91 #[.pointer (some ⟨B, 0, none⟩), .pointer (some ⟨B + 1, 0, none⟩)] wr fun e w' => e = .returned (.int .i64 (stepK (maF m) 0 D').1) ∧ Hid (∃ fv1 ms1, PuK w3 p fv ms w' (stepK (maF m) 0 D').2 fv1 ms1 (1 + 1) D.writes)) := by
          refine (wr1_any hpu.to'.is hok hwr B (.slice (some ⟨g, 0, none⟩) 38 38) (maF m) t0 t1 hsee (fun _ q e => ⟨by rw [show q = g from (Option.some.inj e).symm]; have := HO2.out.2.2; have := H3.out.1.size; omega, by rw [show q = g from (Option.some.inj e).symm]; intro e7; rcases hpu.to'.foot g e7 with e8 | e8; exact hgf e8; have := HO2.out.2.2; have := H3.out.1.size; have := HBB.out; omega⟩) (by rw [maF_len]; omega)).mono ?_
          rintro e w' ⟨rfl, fv1, ms1, ht⟩
          exact ⟨by rw [show stepK (maF m) 0 D' = D'.act (D'.errA newN (maF m).length) (appF D'.files newN (maF m)) from rfl], fv1, ms1, by rw [show stepK (maF m) 0 D' = D'.act (D'.errA newN (maF m).length) (appF D'.files newN (maF m)) from rfl]; exact hpu.to'.trans ht, stepK_ok hok _ _, by have := stepK_writes D' (maF m) 0; have := hpu.writes; omega⟩
        obtain ⟨E, D1, hE⟩ : ∃ E D1, stepK (maF m) 0 D' = (E, D1) := ⟨_, _, rfl⟩
        rw [hE] at HCL
        have HEE : Hid _ := hE
        have HRQ : Hid (R = tailK (maF m) (4 - 1) D') := hk1 (by omega)
        have HP0 : Hid _ := hpu
        clear hE hk1 hpu hk0 HI s0 s1 s2 hkp hkeep hok hwr hsee hgf
        by_cases he : E = 0
        · subst he
          go_wp2_with fail
          refine Calls.mono HCL.out ?_
          rintro e w5 ⟨rfl, H5⟩
          have HRN : Hid (R = tailK (maF m) (4 - (1 + 1)) D1) := tail_next (j := 2) HRQ.out HEE.out
          go_wp2_with fail
          go_roundw
          case rel =>
            obtain ⟨fv1, ms1, h6⟩ := H5.out
            exact ⟨1 + 1, by omega, by go_num, ⟨D1, fv1, ms1, h6, fun e => by omega, fun _ => HRN.out⟩⟩
          case measure => simp [intOf]
        · have hb : (E != 0) = true := by simpa using he
          have HRS : Hid (R = (E, D1)) := tail_stop (j := 2) HRQ.out HEE.out he
          clear he
          go_wp2_with fail
          refine Calls.mono HCL.out ?_
          rintro e w5 ⟨rfl, H5⟩
          go_wp2_with fail
          go_ret
          obtain ⟨fv1, ms1, h6⟩ := H5.out
          exact ⟨by rw [HRS.out]; rfl, fv1, ms1, by rw [HRS.out]; exact DkTo.after HW3.out h6.to'⟩
      · skip
        have HCL : Hid (Calls Tryz.prog 92 #[.pointer (some ⟨B, 0, none⟩)] wr fun e w' => e = .returned (.int .i64 (stepK (maF m) 1 D').1) ∧ Hid (∃ fv1 ms1, PuK w3 p fv ms w' (stepK (maF m) 1 D').2 fv1 ms1 (2 + 1) D.writes)) := by
          refine (wr2_any hpu.to'.is hok hwr B t0).mono ?_
          rintro e w' ⟨rfl, fv1, ms1, ht⟩
          exact ⟨by rw [show stepK (maF m) 1 D' = D'.act (D'.errO newN) (updF D'.files newN durF) from rfl], fv1, ms1, by rw [show stepK (maF m) 1 D' = D'.act (D'.errO newN) (updF D'.files newN durF) from rfl]; exact hpu.to'.trans ht, stepK_ok hok _ _, by have := stepK_writes D' (maF m) 1; have := hpu.writes; omega⟩
        obtain ⟨E, D1, hE⟩ : ∃ E D1, stepK (maF m) 1 D' = (E, D1) := ⟨_, _, rfl⟩
        rw [hE] at HCL
        have HEE : Hid _ := hE
        have HRQ : Hid (R = tailK (maF m) (4 - 2) D') := hk1 (by omega)
        have HP0 : Hid _ := hpu
        clear hE hk1 hpu hk0 HI s0 s1 s2 hkp hkeep hok hwr 
        by_cases he : E = 0
        · subst he
          go_wp2_with fail
          refine Calls.mono HCL.out ?_
          rintro e w5 ⟨rfl, H5⟩
          have HRN : Hid (R = tailK (maF m) (4 - (2 + 1)) D1) := tail_next (j := 1) HRQ.out HEE.out
          go_wp2_with fail
          go_roundw
          case rel =>
            obtain ⟨fv1, ms1, h6⟩ := H5.out
            exact ⟨2 + 1, by omega, by go_num, ⟨D1, fv1, ms1, h6, fun e => by omega, fun _ => HRN.out⟩⟩
          case measure => simp [intOf]
        · have hb : (E != 0) = true := by simpa using he
          have HRS : Hid (R = (E, D1)) := tail_stop (j := 1) HRQ.out HEE.out he
          clear he
          go_wp2_with fail
          refine Calls.mono HCL.out ?_
          rintro e w5 ⟨rfl, H5⟩
          go_wp2_with fail
          go_ret
          obtain ⟨fv1, ms1, h6⟩ := H5.out
          exact ⟨by rw [HRS.out]; rfl, fv1, ms1, by rw [HRS.out]; exact DkTo.after HW3.out h6.to'⟩
      · skip
        have HCL : Hid (Calls Tryz.prog 93 #[.pointer (some ⟨B, 0, none⟩)] wr fun e w' => e = .returned (.int .i64 (stepK (maF m) 2 D').1) ∧ Hid (∃ fv1 ms1, PuK w3 p fv ms w' (stepK (maF m) 2 D').2 fv1 ms1 (3 + 1) D.writes)) := by
          refine (wr3_any hpu.to'.is hok hwr B t0).mono ?_
          rintro e w' ⟨rfl, fv1, ms1, ht⟩
          exact ⟨by rw [show stepK (maF m) 2 D' = D'.act (D'.errR newN manN) (renF D'.files newN manN) from rfl], fv1, ms1, by rw [show stepK (maF m) 2 D' = D'.act (D'.errR newN manN) (renF D'.files newN manN) from rfl]; exact hpu.to'.trans ht, stepK_ok hok _ _, by have := stepK_writes D' (maF m) 2; have := hpu.writes; omega⟩
        obtain ⟨E, D1, hE⟩ : ∃ E D1, stepK (maF m) 2 D' = (E, D1) := ⟨_, _, rfl⟩
        rw [hE] at HCL
        have HEE : Hid _ := hE
        have HRQ : Hid (R = tailK (maF m) (4 - 3) D') := hk1 (by omega)
        have HP0 : Hid _ := hpu
        clear hE hk1 hpu hk0 HI s0 s1 s2 hkp hkeep hok hwr 
        by_cases he : E = 0
        · subst he
          go_wp2_with fail
          refine Calls.mono HCL.out ?_
          rintro e w5 ⟨rfl, H5⟩
          have HRN : Hid (R = tailK (maF m) (4 - (3 + 1)) D1) := tail_next (j := 0) HRQ.out HEE.out
          go_wp2_with fail
          go_roundw
          case rel =>
            obtain ⟨fv1, ms1, h6⟩ := H5.out
            exact ⟨3 + 1, by omega, by go_num, ⟨D1, fv1, ms1, h6, fun e => by omega, fun _ => HRN.out⟩⟩
          case measure => simp [intOf]
        · have hb : (E != 0) = true := by simpa using he
          have HRS : Hid (R = (E, D1)) := tail_stop (j := 0) HRQ.out HEE.out he
          clear he
          go_wp2_with fail
          refine Calls.mono HCL.out ?_
          rintro e w5 ⟨rfl, H5⟩
          go_wp2_with fail
          go_ret
          obtain ⟨fv1, ms1, h6⟩ := H5.out
          exact ⟨by rw [HRS.out]; rfl, fv1, ms1, by rw [HRS.out]; exact DkTo.after HW3.out h6.to'⟩
    · obtain rfl : k = 4 := by omega
      have HRF : Hid (R = (0, D')) := hk1 (by omega)
      have HP0 : Hid _ := hpu
      clear hk1 hpu hk0 HI s0 s1 s2 hkp hkeep hok hwr
      go_wp2_with fail
      go_ret
      exact ⟨by rw [HRF.out]; rfl, fv', ms', by rw [HRF.out]; exact DkTo.after HW3.out HP0.out.to'⟩
end Go.Proofs.YtdbphdllibffnaaGreat
