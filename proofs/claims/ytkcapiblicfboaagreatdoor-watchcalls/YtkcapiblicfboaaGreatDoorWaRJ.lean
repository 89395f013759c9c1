/- What the document's Below and Join answer. -/
import Derived.Test.YtkcapiblicfboaaGreatDoorPaMJ
import Derived.Test.YtkcapiblicfboaaGreatDoorWaBJ
import Derived.Test.YtkcapiblicfboaaGreatDoorWaMJ
import Derived.Test.YtkcapiblicfboaaGreatDoorPaNJ
namespace Go.Proofs.YtkcapiblicfboaaGreatDoor
open Go.RowKit Go.Shelf
set_option maxRecDepth 8000

theorem take_list (s : ByteArray) (k : Nat) : (s.extract 0 k).toList = s.data.toList.take k := by
  rw [toList_eq, Lib.extract_eq]; simp

set_option maxHeartbeats 1000000 in
theorem belowR_any (s q : ByteArray) (w : World) (hs : s.size ≤ 4294967295) (hq : q.size ≤ 4294967295) :
    Calls Tryz.prog 83 #[.string s, .string q] w fun e w' => e = .returned (.bool (belowB s.data.toList q.data.toList)) ∧ Below w.heap.size w w' := by
  have e1 := eq_list' s [47]
  have e2 := eq_list' q [47]
  cases hi : isPb s.data.toList with
  | false =>
    have hb : belowB s.data.toList q.data.toList = false := by unfold belowB; rw [hi]; rfl
    rw [hb]
    clear hb e1 e2
    go_enter Tryz.func83, Tryz.ntmps83
    go_wp2_with fail
    refine (is_any s hs _).mono ?_
    rintro e w1 ⟨rfl, hb1⟩
    rw [hi]
    go_wp2
    go_ret
    exact ⟨rfl, hb1⟩
  | true =>
    cases hj : isPb q.data.toList with
    | false =>
      have hb : belowB s.data.toList q.data.toList = false := by unfold belowB; rw [hi, hj]; rfl
      rw [hb]
      clear hb e1 e2
      go_enter Tryz.func83, Tryz.ntmps83
      go_wp2_with fail
      refine (is_any s hs _).mono ?_
      rintro e w1 ⟨rfl, hb1⟩
      rw [hi]
      go_wp2_with fail
      refine (is_any q hq _).mono ?_
      rintro e w2 ⟨rfl, hb2⟩
      rw [hj]
      go_wp2
      go_ret
      exact ⟨rfl, hb1.trans (hb2.mono hb1.size)⟩
    | true =>
      by_cases h47 : s.data.toList = [47]
      · have hb : belowB s.data.toList q.data.toList = false := by unfold belowB; rw [hi, hj, decide_eq_false (fun h => h h47)]; rfl
        rw [hb]
        rw [decide_eq_true h47] at e1
        clear hb e2 h47
        go_enter Tryz.func83, Tryz.ntmps83
        go_wp2_with fail
        refine (is_any s hs _).mono ?_
        rintro e w1 ⟨rfl, hb1⟩
        rw [hi]
        go_wp2_with fail
        refine (is_any q hq _).mono ?_
        rintro e w2 ⟨rfl, hb2⟩
        rw [hj]
        go_wp2
        go_ret
        exact ⟨rfl, hb1.trans (hb2.mono hb1.size)⟩
      · rw [decide_eq_false h47] at e1
        have hb : belowB s.data.toList q.data.toList = (decide (q.data.toList = [47]) || decide (q.data.toList.length < s.data.toList.length ∧ s.data.toList.take q.data.toList.length = q.data.toList ∧ s.data.toList.getD q.data.toList.length 0 = 47)) := by
          unfold belowB; rw [hi, hj, decide_eq_true h47]; simp
        by_cases hq47 : q.data.toList = [47]
        · rw [decide_eq_true hq47] at e2 hb
          rw [hb, Bool.true_or]
          clear hb h47 hq47
          go_enter Tryz.func83, Tryz.ntmps83
          go_wp2_with fail
          refine (is_any s hs _).mono ?_
          rintro e w1 ⟨rfl, hb1⟩
          rw [hi]
          go_wp2_with fail
          refine (is_any q hq _).mono ?_
          rintro e w2 ⟨rfl, hb2⟩
          rw [hj]
          go_wp2
          go_ret
          exact ⟨rfl, hb1.trans (hb2.mono hb1.size)⟩
        · rw [decide_eq_false hq47] at e2 hb
          rw [Bool.false_or] at hb
          rw [hb]
          have hz := size_list s
          have hz2 := size_list q
          by_cases hlt : q.size < s.size
          · have ht := take_list s q.size
            have hby := byte_at s q.size hlt
            have heq : ((s.extract 0 q.size).toList == q.toList) = decide (s.data.toList.take q.data.toList.length = q.data.toList) := by
              rw [ht, toList_eq, hz2, Bool.eq_iff_iff]; simp
            have h47b : ((s[q.size].toNat : Int) == 47) = decide (s.data.toList.getD q.data.toList.length 0 = 47) := by
              rw [hby, hz2, Bool.eq_iff_iff, beq_iff_eq, decide_eq_true_eq]
              constructor
              · intro h; exact UInt8.toNat_inj.1 (by show (s.data.toList.getD q.data.toList.length 0).toNat = 47; omega)
              · intro h; rw [h]; rfl
            by_cases c1 : s.data.toList.take q.data.toList.length = q.data.toList
            · rw [decide_eq_true c1] at heq
              by_cases c2 : s.data.toList.getD q.data.toList.length 0 = 47
              · rw [decide_eq_true c2] at h47b
                rw [decide_eq_true ⟨by omega, c1, c2⟩]
                clear hb h47 hq47 ht hby hz hz2 c1 c2
                go_enter Tryz.func83, Tryz.ntmps83
                go_wp2_with fail
                refine (is_any s hs _).mono ?_
                rintro e w1 ⟨rfl, hb1⟩
                rw [hi]
                go_wp2_with fail
                refine (is_any q hq _).mono ?_
                rintro e w2 ⟨rfl, hb2⟩
                rw [hj]
                go_wp2
                go_ret
                exact ⟨rfl, hb1.trans (hb2.mono hb1.size)⟩
              · rw [decide_eq_false c2] at h47b
                rw [decide_eq_false (fun h => c2 h.2.2)]
                clear hb h47 hq47 ht hby hz hz2 c1 c2
                go_enter Tryz.func83, Tryz.ntmps83
                go_wp2_with fail
                refine (is_any s hs _).mono ?_
                rintro e w1 ⟨rfl, hb1⟩
                rw [hi]
                go_wp2_with fail
                refine (is_any q hq _).mono ?_
                rintro e w2 ⟨rfl, hb2⟩
                rw [hj]
                go_wp2
                go_ret
                exact ⟨rfl, hb1.trans (hb2.mono hb1.size)⟩
            · rw [decide_eq_false c1] at heq
              rw [decide_eq_false (fun h => c1 h.2.1)]
              clear hb h47 hq47 ht hby hz hz2 c1
              go_enter Tryz.func83, Tryz.ntmps83
              go_wp2_with fail
              refine (is_any s hs _).mono ?_
              rintro e w1 ⟨rfl, hb1⟩
              rw [hi]
              go_wp2_with fail
              refine (is_any q hq _).mono ?_
              rintro e w2 ⟨rfl, hb2⟩
              rw [hj]
              go_wp2
              go_ret
              exact ⟨rfl, hb1.trans (hb2.mono hb1.size)⟩
          · rw [decide_eq_false (fun h => by omega)]
            clear hb h47 hq47 hz hz2
            go_enter Tryz.func83, Tryz.ntmps83
            go_wp2_with fail
            refine (is_any s hs _).mono ?_
            rintro e w1 ⟨rfl, hb1⟩
            rw [hi]
            go_wp2_with fail
            refine (is_any q hq _).mono ?_
            rintro e w2 ⟨rfl, hb2⟩
            rw [hj]
            go_wp2
            go_ret
            exact ⟨rfl, hb1.trans (hb2.mono hb1.size)⟩

end Go.Proofs.YtkcapiblicfboaaGreatDoor

/- What the document's Is, IsChange, Meets and Goes of layer 18 answer. -/
namespace Go.Proofs.YtkcapiblicfboaaGreatDoor
open Go.RowKit Go.Shelf
set_option maxRecDepth 8000
set_option linter.unusedSimpArgs false

theorem refPath18 (s : ByteArray) (w : World) (hl : s.size ≤ 4294967295) :
    Calls Tryz.prog 82 #[.string s] w fun e w' => e = .returned (.bool (isPb s.data.toList)) ∧ Below w.heap.size w w' := by
  have HC : Hid _ := checkR_any s hl w
  cases hb : isPb s.data.toList
  · have he : checkV s.data.toList = .tuple #[.int .i64 (faultL s.data.toList : Nat), .int .i64 50] := by unfold checkV; rw [hb]; rfl
    rw [he] at HC
    clear he hb
    go_enter Tryz.func82, Tryz.ntmps82
    go_wp2_with fail
    refine Calls.mono HC.out ?_
    rintro e w1 ⟨rfl, hb1⟩
    go_wp2
    all_goals (go_ret; exact ⟨rfl, hb1⟩)
  · have he : checkV s.data.toList = .tuple #[.int .i64 0, .int .i64 0] := by unfold checkV; rw [hb]; rfl
    rw [he] at HC
    clear he hb
    go_enter Tryz.func82, Tryz.ntmps82
    go_wp2_with fail
    refine Calls.mono HC.out ?_
    rintro e w1 ⟨rfl, hb1⟩
    go_wp2
    all_goals (go_ret; exact ⟨rfl, hb1⟩)

set_option maxHeartbeats 1000000 in
theorem refIs18 (x : WaT) (w : World) (hl : x.2.2.size ≤ 4294967295) :
    Calls Tryz.prog 53 #[.agg (waCs x)] w fun e w' => e = .returned (.bool (waOk x)) ∧ Below w.heap.size w w' := by
  obtain ⟨cl, kd, p⟩ := x
  have hB : Below w.heap.size w (w.alloc (.cells (waCs (cl, kd, p)) 57)) := (Below.refl _ w).alloc (Nat.le_refl _) _
  have HB0 : Hid (Below w.heap.size w (w.alloc (.cells (waCs (cl, kd, p)) 57))) := hB
  have HC : Hid (Calls Tryz.prog 82 #[.string p] (w.alloc (.cells (waCs (cl, kd, p)) 57)) fun e w' => e = .returned (.bool (isPb p.data.toList)) ∧ Hid (Below w.heap.size w w')) :=
    (refPath18 p _ hl).mono (fun e w' hh => ⟨hh.1, hB.trans (hh.2.mono hB.size)⟩)
  clear hB
  by_cases h1 : 1 ≤ kd
  · have d1 : decide (1 ≤ kd) = true := by simpa using h1
    by_cases h4 : kd ≤ 4
    · have d4 : decide (kd ≤ 4) = true := by simpa using h4
      have hv : waOk (cl, kd, p) = isPb p.data.toList := by unfold waOk; rw [d1, d4]; simp
      rw [hv]
      generalize isPb p.data.toList = b at *
      clear hv h1 h4
      go_enter Tryz.func53, Tryz.ntmps53
      go_wp2_with (go_at_call 82; refine Calls.mono HC.out ?_; rintro e w1 ⟨rfl, HB⟩)
      all_goals (go_ret; exact ⟨rfl, HB.out⟩)
    · have d4 : decide (kd ≤ 4) = false := by simpa using h4
      have hv : waOk (cl, kd, p) = false := by unfold waOk; rw [d1, d4]; simp
      rw [hv]
      clear hv h1 h4 HC
      go_enter Tryz.func53, Tryz.ntmps53
      go_wp2
      all_goals (go_ret; exact ⟨rfl, HB0.out⟩)
  · have d1 : decide (1 ≤ kd) = false := by simpa using h1
    have hv : waOk (cl, kd, p) = false := by unfold waOk; rw [d1]; simp
    rw [hv]
    clear hv h1 HC
    go_enter Tryz.func53, Tryz.ntmps53
    go_wp2
    all_goals (go_ret; exact ⟨rfl, HB0.out⟩)

set_option maxHeartbeats 1000000 in
theorem refIsChange18 (c : ChT) (w : World) (hl : c.2.size ≤ 4294967295) :
    Calls Tryz.prog 54 #[.agg (chCs c)] w fun e w' => e = .returned (.bool (chOk c)) ∧ Below w.heap.size w w' := by
  obtain ⟨kd, p⟩ := c
  have hB : Below w.heap.size w (w.alloc (.cells (chCs (kd, p)) 59)) := (Below.refl _ w).alloc (Nat.le_refl _) _
  have HB0 : Hid (Below w.heap.size w (w.alloc (.cells (chCs (kd, p)) 59))) := hB
  have HC : Hid (Calls Tryz.prog 82 #[.string p] (w.alloc (.cells (chCs (kd, p)) 59)) fun e w' => e = .returned (.bool (isPb p.data.toList)) ∧ Hid (Below w.heap.size w w')) :=
    (refPath18 p _ hl).mono (fun e w' hh => ⟨hh.1, hB.trans (hh.2.mono hB.size)⟩)
  clear hB
  by_cases h1 : 1 ≤ kd
  · have d1 : decide (1 ≤ kd) = true := by simpa using h1
    by_cases h4 : kd ≤ 4
    · have d4 : decide (kd ≤ 4) = true := by simpa using h4
      have hv : chOk (kd, p) = isPb p.data.toList := by unfold chOk; rw [d1, d4]; rfl
      rw [hv]
      generalize isPb p.data.toList = b at *
      clear hv h1 h4
      go_enter Tryz.func54, Tryz.ntmps54
      go_wp2_with (go_at_call 82; refine Calls.mono HC.out ?_; rintro e w1 ⟨rfl, HB⟩)
      all_goals (go_ret; exact ⟨rfl, HB.out⟩)
    · have d4 : decide (kd ≤ 4) = false := by simpa using h4
      have hv : chOk (kd, p) = false := by unfold chOk; rw [d1, d4]; rfl
      rw [hv]
      clear hv h1 h4 HC
      go_enter Tryz.func54, Tryz.ntmps54
      go_wp2
      all_goals (go_ret; exact ⟨rfl, HB0.out⟩)
  · have d1 : decide (1 ≤ kd) = false := by simpa using h1
    have hv : chOk (kd, p) = false := by unfold chOk; rw [d1]; rfl
    rw [hv]
    clear hv h1 HC
    go_enter Tryz.func54, Tryz.ntmps54
    go_wp2
    all_goals (go_ret; exact ⟨rfl, HB0.out⟩)

theorem refGoes18 (x : WaT) (w : World) (hk : x.2.1 = 1 ∨ x.2.1 = 2 ∨ x.2.1 = 3 ∨ x.2.1 = 4) :
    Calls Tryz.prog 56 #[.agg (waCs x)] w fun e w' => e = .returned (.bool (goB x)) ∧ Below w.heap.size w w' := by
  obtain ⟨cl, kd, p⟩ := x
  have HB : Hid (Below w.heap.size w (w.alloc (.cells (waCs (cl, kd, p)) 57))) := (Below.refl _ w).alloc (Nat.le_refl _) _
  rcases hk with hk | hk | hk | hk <;>
  · replace hk : kd = _ := hk
    subst hk
    go_enter Tryz.func56, Tryz.ntmps56
    go_wp2
    all_goals (go_ret; exact ⟨rfl, HB.out⟩)

set_option maxHeartbeats 2000000 in
theorem refMeets18 (c : ChT) (x : WaT) (w : World) (hk : x.2.1 = 1 ∨ x.2.1 = 2 ∨ x.2.1 = 3 ∨ x.2.1 = 4) (hc : c.2.size ≤ 4294967295) (hp : x.2.2.size ≤ 4294967295) :
    Calls Tryz.prog 55 #[.agg (chCs c), .agg (waCs x)] w fun e w' => e = .returned (.bool (metB c x)) ∧ Below w.heap.size w w' := by
  obtain ⟨cl, kd, p⟩ := x
  obtain ⟨ck, q⟩ := c
  have hB : Below w.heap.size w ((w.alloc (.cells (chCs (ck, q)) 59)).alloc (.cells (waCs (cl, kd, p)) 57)) := ((Below.refl _ w).alloc (Nat.le_refl _) _).alloc (by simp) _
  have HB : Hid (Below w.heap.size w ((w.alloc (.cells (chCs (ck, q)) 59)).alloc (.cells (waCs (cl, kd, p)) 57))) := hB
  have HD : Hid (Calls Tryz.prog 83 #[.string q, .string p] ((w.alloc (.cells (chCs (ck, q)) 59)).alloc (.cells (waCs (cl, kd, p)) 57)) fun e w' => e = .returned (.bool (belowB q.data.toList p.data.toList)) ∧ Hid (Below w.heap.size w w')) :=
    (belowR_any q p _ hc hp).mono (fun e w' hh => ⟨hh.1, hB.trans (hh.2.mono hB.size)⟩)
  clear hB
  obtain ⟨bs, hbs⟩ : ∃ bs, bs = smP (ck, q) p := ⟨_, rfl⟩
  have hq : (q.toList == p.toList) = bs := hbs.symm
  rcases hk with hk | hk | hk | hk
  · replace hk : kd = 1 := hk
    subst hk
    rw [metKind.1, ← hbs]
    show Calls _ _ _ _ (fun e w' => e = .returned (.bool (bs && (ck != 4))) ∧ _)
    have h4 : (ck != 4) = !(ck == 4) := rfl
    rw [h4]
    generalize hk4 : (ck == 4) = b4
    clear hbs h4 HD
    cases bs <;> cases b4 <;>
    · go_enter Tryz.func55, Tryz.ntmps55
      go_wp2
      all_goals (go_ret; exact ⟨rfl, HB.out⟩)
  · replace hk : kd = 2 := hk
    subst hk
    rw [metKind.2.1, ← hbs]
    show Calls _ _ _ _ (fun e w' => e = .returned (.bool (bs && ((ck == 2) || (ck == 4)))) ∧ _)
    generalize hk4 : (ck == 4) = b4
    generalize hk2 : (ck == 2) = b2
    clear hbs HD
    cases bs <;> cases b4 <;> cases b2 <;>
    · go_enter Tryz.func55, Tryz.ntmps55
      go_wp2
      all_goals (go_ret; exact ⟨rfl, HB.out⟩)
  · replace hk : kd = 3 := hk
    subst hk
    rw [metKind.2.2.1, ← hbs]
    generalize hk4 : (ck == 4) = b4
    clear hbs HD
    cases bs <;> cases b4 <;>
    · go_enter Tryz.func55, Tryz.ntmps55
      go_wp2
      all_goals (go_ret; exact ⟨rfl, HB.out⟩)
  · replace hk : kd = 4 := hk
    subst hk
    rw [metKind.2.2.2, ← hbs]
    show Calls _ _ _ _ (fun e w' => e = .returned (.bool ((ck != 4) && (bs || belowB q.data.toList p.data.toList))) ∧ _)
    have h4 : (ck != 4) = !(ck == 4) := rfl
    rw [h4]
    generalize belowB q.data.toList p.data.toList = bb at *
    generalize hk4 : (ck == 4) = b4
    clear hbs h4 HB
    cases bs <;> cases b4 <;>
    · go_enter Tryz.func55, Tryz.ntmps55
      go_wp2_with (go_at_call 83; refine Calls.mono HD.out ?_; rintro e w1 ⟨rfl, HB⟩)
      all_goals (go_ret; exact ⟨rfl, HB.out⟩)

end Go.Proofs.YtkcapiblicfboaaGreatDoor
