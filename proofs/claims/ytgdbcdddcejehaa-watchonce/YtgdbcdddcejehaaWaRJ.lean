/- What the document's Is, IsChange, Meets and Goes of layer 18 answer. -/
import Derived.Test.YtgdbcdddcejehaaWaMJ
import Derived.Test.YtgdbcdddcejehaaPaNJ
import Derived.Test.YtgdbcdddcejehaaPbAJ
namespace Go.Proofs.Ytgdbcdddcejehaa
open Go.RowKit Go.Shelf
set_option maxRecDepth 8000
set_option linter.unusedSimpArgs false

theorem refPath18 (s : ByteArray) (w : World) (hl : s.size ≤ 4294967295) :
    Calls Try.prog 22 #[.string s] w fun e w' => e = .returned (.bool (isPb s.data.toList)) ∧ Below w.heap.size w w' := by
  have HC : Hid _ := checkR_any s hl w
  cases hb : isPb s.data.toList
  · have he : checkV s.data.toList = .tuple #[.int .i64 (faultL s.data.toList : Nat), .int .i64 50] := by unfold checkV; rw [hb]; rfl
    rw [he] at HC
    clear he hb
    go_enter Try.func22, Try.ntmps22
    go_wp2_with fail
    refine Calls.mono HC.out ?_
    rintro e w1 ⟨rfl, hb1⟩
    go_wp2
    all_goals (go_ret; exact ⟨rfl, hb1⟩)
  · have he : checkV s.data.toList = .tuple #[.int .i64 0, .int .i64 0] := by unfold checkV; rw [hb]; rfl
    rw [he] at HC
    clear he hb
    go_enter Try.func22, Try.ntmps22
    go_wp2_with fail
    refine Calls.mono HC.out ?_
    rintro e w1 ⟨rfl, hb1⟩
    go_wp2
    all_goals (go_ret; exact ⟨rfl, hb1⟩)

set_option maxHeartbeats 1000000 in
theorem refIs18 (x : WaT) (w : World) (hl : x.2.2.size ≤ 4294967295) :
    Calls Try.prog 10 #[.agg (waCs x)] w fun e w' => e = .returned (.bool (waOk x)) ∧ Below w.heap.size w w' := by
  obtain ⟨cl, kd, p⟩ := x
  have hB : Below w.heap.size w (w.alloc (.cells (waCs (cl, kd, p)) 30)) := (Below.refl _ w).alloc (Nat.le_refl _) _
  have HB0 : Hid (Below w.heap.size w (w.alloc (.cells (waCs (cl, kd, p)) 30))) := hB
  have HC : Hid (Calls Try.prog 22 #[.string p] (w.alloc (.cells (waCs (cl, kd, p)) 30)) fun e w' => e = .returned (.bool (isPb p.data.toList)) ∧ Hid (Below w.heap.size w w')) :=
    (refPath18 p _ hl).mono (fun e w' hh => ⟨hh.1, hB.trans (hh.2.mono hB.size)⟩)
  clear hB
  by_cases h1 : 1 ≤ kd
  · have d1 : decide (1 ≤ kd) = true := by simpa using h1
    by_cases h4 : kd ≤ 4
    · have d4 : decide (kd ≤ 4) = true := by simpa using h4
      have hv : waOk (cl, kd, p) = isPb p.data.toList := by unfold waOk; rw [d1, d4]; simp
      rw [hv]
      generalize isPb p.data.toList = b at *
      clear hv h1 h4
      go_enter Try.func10, Try.ntmps10
      go_wp2_with (go_at_call 22; refine Calls.mono HC.out ?_; rintro e w1 ⟨rfl, HB⟩)
      all_goals (go_ret; exact ⟨rfl, HB.out⟩)
    · have d4 : decide (kd ≤ 4) = false := by simpa using h4
      have hv : waOk (cl, kd, p) = false := by unfold waOk; rw [d1, d4]; simp
      rw [hv]
      clear hv h1 h4 HC
      go_enter Try.func10, Try.ntmps10
      go_wp2
      all_goals (go_ret; exact ⟨rfl, HB0.out⟩)
  · have d1 : decide (1 ≤ kd) = false := by simpa using h1
    have hv : waOk (cl, kd, p) = false := by unfold waOk; rw [d1]; simp
    rw [hv]
    clear hv h1 HC
    go_enter Try.func10, Try.ntmps10
    go_wp2
    all_goals (go_ret; exact ⟨rfl, HB0.out⟩)

set_option maxHeartbeats 1000000 in
theorem refIsChange18 (c : ChT) (w : World) (hl : c.2.size ≤ 4294967295) :
    Calls Try.prog 13 #[.agg (chCs c)] w fun e w' => e = .returned (.bool (chOk c)) ∧ Below w.heap.size w w' := by
  obtain ⟨kd, p⟩ := c
  have hB : Below w.heap.size w (w.alloc (.cells (chCs (kd, p)) 32)) := (Below.refl _ w).alloc (Nat.le_refl _) _
  have HB0 : Hid (Below w.heap.size w (w.alloc (.cells (chCs (kd, p)) 32))) := hB
  have HC : Hid (Calls Try.prog 22 #[.string p] (w.alloc (.cells (chCs (kd, p)) 32)) fun e w' => e = .returned (.bool (isPb p.data.toList)) ∧ Hid (Below w.heap.size w w')) :=
    (refPath18 p _ hl).mono (fun e w' hh => ⟨hh.1, hB.trans (hh.2.mono hB.size)⟩)
  clear hB
  by_cases h1 : 1 ≤ kd
  · have d1 : decide (1 ≤ kd) = true := by simpa using h1
    by_cases h4 : kd ≤ 4
    · have d4 : decide (kd ≤ 4) = true := by simpa using h4
      have hv : chOk (kd, p) = isPb p.data.toList := by unfold chOk; rw [d1, d4]; rfl
      rw [hv]
      generalize isPb p.data.toList = b at *
      clear hv h1 h4
      go_enter Try.func13, Try.ntmps13
      go_wp2_with (go_at_call 22; refine Calls.mono HC.out ?_; rintro e w1 ⟨rfl, HB⟩)
      all_goals (go_ret; exact ⟨rfl, HB.out⟩)
    · have d4 : decide (kd ≤ 4) = false := by simpa using h4
      have hv : chOk (kd, p) = false := by unfold chOk; rw [d1, d4]; rfl
      rw [hv]
      clear hv h1 h4 HC
      go_enter Try.func13, Try.ntmps13
      go_wp2
      all_goals (go_ret; exact ⟨rfl, HB0.out⟩)
  · have d1 : decide (1 ≤ kd) = false := by simpa using h1
    have hv : chOk (kd, p) = false := by unfold chOk; rw [d1]; rfl
    rw [hv]
    clear hv h1 HC
    go_enter Try.func13, Try.ntmps13
    go_wp2
    all_goals (go_ret; exact ⟨rfl, HB0.out⟩)

theorem refGoes18 (x : WaT) (w : World) (hk : x.2.1 = 1 ∨ x.2.1 = 2 ∨ x.2.1 = 3 ∨ x.2.1 = 4) :
    Calls Try.prog 15 #[.agg (waCs x)] w fun e w' => e = .returned (.bool (goB x)) ∧ Below w.heap.size w w' := by
  obtain ⟨cl, kd, p⟩ := x
  have HB : Hid (Below w.heap.size w (w.alloc (.cells (waCs (cl, kd, p)) 30))) := (Below.refl _ w).alloc (Nat.le_refl _) _
  rcases hk with hk | hk | hk | hk <;>
  · replace hk : kd = _ := hk
    subst hk
    go_enter Try.func15, Try.ntmps15
    go_wp2
    all_goals (go_ret; exact ⟨rfl, HB.out⟩)

set_option maxHeartbeats 2000000 in
theorem refMeets18 (c : ChT) (x : WaT) (w : World) (hk : x.2.1 = 1 ∨ x.2.1 = 2 ∨ x.2.1 = 3 ∨ x.2.1 = 4) (hc : c.2.size ≤ 4294967295) (hp : x.2.2.size ≤ 4294967295) :
    Calls Try.prog 14 #[.agg (chCs c), .agg (waCs x)] w fun e w' => e = .returned (.bool (metB c x)) ∧ Below w.heap.size w w' := by
  obtain ⟨cl, kd, p⟩ := x
  obtain ⟨ck, q⟩ := c
  have hB : Below w.heap.size w ((w.alloc (.cells (chCs (ck, q)) 32)).alloc (.cells (waCs (cl, kd, p)) 30)) := ((Below.refl _ w).alloc (Nat.le_refl _) _).alloc (by simp) _
  have HB : Hid (Below w.heap.size w ((w.alloc (.cells (chCs (ck, q)) 32)).alloc (.cells (waCs (cl, kd, p)) 30))) := hB
  have HD : Hid (Calls Try.prog 26 #[.string q, .string p] ((w.alloc (.cells (chCs (ck, q)) 32)).alloc (.cells (waCs (cl, kd, p)) 30)) fun e w' => e = .returned (.bool (belowB q.data.toList p.data.toList)) ∧ Hid (Below w.heap.size w w')) :=
    (belowR_any q p _ hc hp).mono (fun e w' hh => ⟨hh.1, hB.trans (hh.2.mono hB.size)⟩)
  clear hB
  obtain ⟨bs, hbs⟩ : ∃ bs, bs = smP (ck, q) p := ⟨_, rfl⟩
  have hq : (q.toList == p.toList) = bs := hbs.symm
  rcases hk with hk | hk | hk | hk
  · replace hk : kd = 1 := hk
    subst hk
    rw [metKind.1, ← hbs]
    show Calls _ _ _ _ (fun e w' => e = .returned (.bool (bs && (ck != 4))) ∧ _)
    have h4 : (ck != 4) = !(ck == 4) := rfl
    rw [h4]
    generalize hk4 : (ck == 4) = b4
    clear hbs h4 HD
    cases bs <;> cases b4 <;>
    · go_enter Try.func14, Try.ntmps14
      go_wp2
      all_goals (go_ret; exact ⟨rfl, HB.out⟩)
  · replace hk : kd = 2 := hk
    subst hk
    rw [metKind.2.1, ← hbs]
    show Calls _ _ _ _ (fun e w' => e = .returned (.bool (bs && ((ck == 2) || (ck == 4)))) ∧ _)
    generalize hk4 : (ck == 4) = b4
    generalize hk2 : (ck == 2) = b2
    clear hbs HD
    cases bs <;> cases b4 <;> cases b2 <;>
    · go_enter Try.func14, Try.ntmps14
      go_wp2
      all_goals (go_ret; exact ⟨rfl, HB.out⟩)
  · replace hk : kd = 3 := hk
    subst hk
    rw [metKind.2.2.1, ← hbs]
    generalize hk4 : (ck == 4) = b4
    clear hbs HD
    cases bs <;> cases b4 <;>
    · go_enter Try.func14, Try.ntmps14
      go_wp2
      all_goals (go_ret; exact ⟨rfl, HB.out⟩)
  · replace hk : kd = 4 := hk
    subst hk
    rw [metKind.2.2.2, ← hbs]
    show Calls _ _ _ _ (fun e w' => e = .returned (.bool ((ck != 4) && (bs || belowB q.data.toList p.data.toList))) ∧ _)
    have h4 : (ck != 4) = !(ck == 4) := rfl
    rw [h4]
    generalize belowB q.data.toList p.data.toList = bb at *
    generalize hk4 : (ck == 4) = b4
    clear hbs h4 HB
    cases bs <;> cases b4 <;>
    · go_enter Try.func14, Try.ntmps14
      go_wp2_with (go_at_call 26; refine Calls.mono HD.out ?_; rintro e w1 ⟨rfl, HB⟩)
      all_goals (go_ret; exact ⟨rfl, HB.out⟩)

end Go.Proofs.Ytgdbcdddcejehaa
