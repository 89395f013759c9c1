/- ManiFirst, walked. -/
import Derived.Test.YtkpdckpcnnmdkaaMaMJ
namespace Go.Proofs.Ytkpdckpcnnmdkaa
open Go.RowKit Go.Shelf
set_option maxRecDepth 8000

theorem tailK_ok (bs : List Int) : ∀ (j : Nat) {D : DkD}, DkOk D → DkOk (tailK bs j D).2
  | 0, _, h => h
  | j + 1, D, h => by
    show DkOk (thenK _ _).2
    unfold thenK
    split
    · exact tailK_ok bs j (stepK_ok h bs _)
    · exact stepK_ok h bs _

theorem tailK_writes (bs : List Int) : ∀ (j : Nat) (D : DkD), (tailK bs j D).2.writes ≤ D.writes + j
  | 0, D => by simp [tailK]
  | j + 1, D => by
    show (thenK _ _).2.writes ≤ _
    have h1 := stepK_writes D bs (2 - j)
    unfold thenK
    split
    · have := tailK_writes bs j (stepK bs (2 - j) D).2
      omega
    · omega

theorem off_wr (D : DkD) {k : Nat} (h : D.writes ≤ k) : D.off.writes ≤ k := by
  have h9 : D.off.writes = D.writes := by unfold DkD.off; split <;> rfl
  rw [h9]; exact h
theorem left_wr (D : DkD) (ks : List Int) {k : Nat} (h : D.off.writes ≤ k) : (leftM D ks).writes ≤ k := by
  have h9 : (leftM D ks).writes = D.off.writes := by unfold leftM DkD.start; split <;> rfl
  rw [h9]; exact h

abbrev zM : MaD := ⟨0, 0, 0, 0, 0⟩

set_option maxHeartbeats 4000000 in
theorem first_walk (m : MaD) (hm : m.Fits) (n : Int) (hn : n ≤ 9223372036854775807) (v : Value) (ks : List Int) (w : World) (hk : SeesN w v ks) (hkb : ks ≠ [] → ∀ k, v.ownBlock = some k → k < w.heap.size) :
    Calls Try.prog 4 #[m.val, .int .i64 n, v] w fun r w' => r = .returned (.bool true) ∧ Below w.heap.size w w' := by
  have HK : Hid (SeesN w v ks ∧ (ks ≠ [] → ∀ k, v.ownBlock = some k → k < w.heap.size)) := ⟨hk, hkb⟩
  obtain ⟨ka, kc, rfl, hk1, hk2, _⟩ := hk
  unfold maxLen at hk2
  have HM : Hid _ := hm
  obtain ⟨V, eV⟩ : ∃ V, V = w.alloc (.cells #[.int .u32 m.boot, .int .u32 m.acc, .int .u32 m.cur, .int .i64 m.snap, .int .i64 m.log] 24) := ⟨_, rfl⟩
  have hbV : Below w.heap.size w V := by rw [eV]; exact one_allocK _ _
  have rV : V.heap[w.heap.size]? = some (.cells #[.int .u32 m.boot, .int .u32 m.acc, .int .u32 m.cur, .int .i64 m.snap, .int .i64 m.log] 24 (0, 0)) := by rw [eV]; exact heap_alloc_new w _
  have HV : Hid (Below w.heap.size w V ∧ V.heap[w.heap.size]? = some (.cells #[.int .u32 m.boot, .int .u32 m.acc, .int .u32 m.cur, .int .i64 m.snap, .int .i64 m.log] 24 (0, 0))) := ⟨hbV, rV⟩
  have HE : Hid _ := eV
  have HBX : Hid (∀ wr, Below V.heap.size V wr → wr.heap[w.heap.size]? = some (.cells #[.int .u32 m.boot, .int .u32 m.acc, .int .u32 m.cur, .int .i64 m.snap, .int .i64 m.log] 24 (0, 0))) := fun wr hb => (Below.kept hb).heap rV (fun e => by have := lt_of_block rV; omega)
  have hlV := lt_of_block rV
  obtain ⟨KL, hKL⟩ : ∃ KL, KL = ks.length := ⟨_, rfl⟩
  rw [← hKL] at hk1 HK ⊢
  have HKL : Hid _ := hKL
  clear hbV rV eV hkb hm hKL
  by_cases hlong : (KL : Int) ≥ 2147483647
  · have hd : decide ((KL : Int) ≥ 2147483647) = true := decide_eq_true hlong
    go_enter Try.func4, Try.ntmps4
    go_upto_region 1 with fail
    rw [← HE.out]
    go_wp2_with fail
    go_ret
    exact ⟨rfl, HV.out.1⟩
  · have hd : decide ((KL : Int) ≥ 2147483647) = false := decide_eq_false hlong
    go_enter Try.func4, Try.ntmps4
    go_upto_region 1 with fail
    rw [← HE.out]
    go_wp2_with fail
    refine Calls.mono (lives_m V) ?_
    rintro e w1 ⟨rfl, hb1⟩
    have H1 : Hid (Below V.heap.size V w1) := hb1
    have HN : Hid _ := new_yes 1000 w1 ⟨by decide, by decide⟩
    clear hb1 HE
    go_wp2_with fail
    refine Calls.mono HN.out ?_
    rintro e w2 ⟨rfl, hw2⟩
    have H2 : Hid (Run V w1.heap.size w2 (.slice none 0 0) [] (newD 1000) 0) := by
      have hb2 : Below w1.heap.size w1 w2 := by rw [hw2]; exact one_allocK _ _
      refine ⟨by rw [hw2]; exact isDk_new w1 1000, dkOk_new 1000 (by decide) (by decide), by simp, Below.step H1.out hb2, fun j hj => ?_⟩
      simp [foot, Value.ownBlock] at hj
      rw [hj]
      exact H1.out.size
    clear hw2 HN H1
    obtain ⟨p, hp⟩ : ∃ p, p = w1.heap.size := ⟨_, rfl⟩
    rw [← hp] at H2
    rw [← hp]
    clear hp
    have HAR : Hid _ := arm_any H2.out.is n
    have hl2 := lt_of_block H2.out.is.row
    go_wp2_with fail
    refine Calls.mono HAR.out ?_
    rintro e w3 ⟨rfl, ht3⟩
    obtain ⟨D0, hD0⟩ : ∃ D0, D0 = (newD 1000).arm n := ⟨_, rfl⟩
    have HD0 : Hid (D0.files = [] ∧ D0.on = true ∧ D0.room = 1000 ∧ D0.writes = 0) := by rw [hD0]; exact ⟨rfl, rfl, rfl, rfl⟩
    have H3 : Hid (Run V p w3 (.slice none 0 0) [] D0 0) := by
      rw [hD0]
      exact H2.out.to ht3 (DkOk.arm H2.out.ok n hn) (by show (0 : Int) ≤ ((0 : Nat) : Int); decide)
    have r3 := HBX.out w3 H3.out.bel
    have c0 := cell_of_row w3 _ 0 _ _ _ r3
    have c1 := cell_of_row w3 _ 1 _ _ _ r3
    have c2 := cell_of_row w3 _ 2 _ _ _ r3
    have c3 := cell_of_row w3 _ 3 _ _ _ r3
    have c4 := cell_of_row w3 _ 4 _ _ _ r3
    simp only [List.getElem?_toArray, List.getElem?_cons_zero, List.getElem?_cons_succ] at c0 c1 c2 c3 c4
    have hl3 := lt_of_block r3
    -- the Put, whatever it answers
    have HPU : Hid (Calls Try.prog 9 #[.pointer (some ⟨p, 0, none⟩), .agg #[.int .u32 m.boot, .int .u32 m.acc, .int .u32 m.cur, .int .i64 m.snap, .int .i64 m.log]] w3 fun e w' => ∃ (E : Int) (D4 : DkD) (fv4 : Value) (ms4 : List FiM) (S : Bool), e = .returned (.int .i64 E) ∧ S = decide (E = 0) ∧ Hid (Run V p w' fv4 ms4 D4 3 ∧ (S = false → (leftM D4 ks).errO manN = 20) ∧ (S = true → mayM m = true ∧ (leftM D4 ks).files = [⟨manN, maF m, (maF m).length⟩]))) := by
      cases hy : mayM m
      · refine (mput_bad H3.out.is H3.out.ok m hy).mono ?_
        rintro e w' ⟨rfl, hb'⟩
        have hr := H3.out.later hb'
        refine ⟨110, D0, _, _, false, rfl, by decide, ⟨hr.is, hr.ok, by have := hr.writes; omega, hr.bel, hr.apart⟩, fun _ => ?_, fun e => by cases e⟩
        refine gone _ (left_files _ _).2 (.inl ?_)
        rw [(left_files _ _).1, HD0.out.1]
        rfl
      · refine (mput_no H3.out.is H3.out.ok (by rw [HD0.out.2.2.2]; decide) (by rw [HD0.out.1]; exact has_none _) m HM.out hy).mono ?_
        rintro e w' ⟨rfl, fv4, ms4, ht⟩
        have hpf' := put_first D0 (maF m) HD0.out.1 HD0.out.2.1 HD0.out.2.2.1 (maF_len m) ks
        have hw4 : (tailK (maF m) 3 D0).2.writes ≤ ((3 : Nat) : Int) := by
          have h9 := tailK_writes (maF m) 3 D0
          rw [HD0.out.2.2.2] at h9
          simpa using h9
        refine ⟨_, (tailK (maF m) 3 D0).2, fv4, ms4, decide ((tailK (maF m) 3 D0).1 = 0), rfl, rfl, H3.out.to ht (tailK_ok _ _ H3.out.ok) hw4, fun e => ?_, fun e => ?_⟩
        · rcases hpf' with ⟨_, h5⟩ | ⟨h5, _⟩
          · exact h5
          · exact absurd h5 (of_decide_eq_false e)
        · rcases hpf' with ⟨h5, _⟩ | ⟨_, _, h6⟩
          · exact absurd (of_decide_eq_true e) h5
          · exact ⟨rfl, h6⟩
    clear ht3 HAR H2 hD0 r3
    go_wp2_with fail
    refine Calls.mono HPU.out ?_
    rintro e w4 ⟨E, D4, fv4, ms4, S, rfl, hS, H4⟩
    have HOF : Hid _ := off_any H4.out.1.is
    have hl4 := lt_of_block H4.out.1.is.row
    have HS : Hid _ := hS
    clear HPU c0 c1 c2 c3 c4 hS
    go_wp2_with fail
    refine Calls.mono HOF.out ?_
    rintro e w5 ⟨rfl, ht5⟩
    have H5 : Hid (Run V p w5 fv4 ms4 D4.off 3) := H4.out.1.to ht5 (DkOk.off H4.out.1.ok) (off_wr D4 H4.out.1.writes)
    have HST : Hid _ := start_any H5.out.is H5.out.ok (.slice ka KL kc) ks (HK.out.1.kept (Below.kept (Below.step HV.out.1 H5.out.bel)) (fun hy k e e' => by have := HK.out.2 hy k e; omega)) (fun hy k e hm => by have h1 := HK.out.2 hy k e; have h2 := H5.out.apart k hm; have h3 := HV.out.1.size; omega)
    have hl5 := lt_of_block H5.out.is.row
    clear ht5 HOF
    go_wp2_with fail
    refine Calls.mono HST.out ?_
    rintro e w6 ⟨rfl, ms6, ht6⟩
    have H6 : Hid (Run V p w6 fv4 ms6 (leftM D4 ks) 3) := H5.out.to ht6 (DkOk.start H5.out.ok ks) (left_wr D4 ks H5.out.writes)
    have hl6 := lt_of_block H6.out.is.row
    clear ht6 HST H5
    cases S
    · have HGE : Hid _ := mget_none H6.out.is H6.out.ok (H4.out.2.1 rfl)
      have hE0 : (E == 0) = false := by
        have h9 := HS.out
        have h10 : ¬ E = 0 := of_decide_eq_false h9.symm
        simpa using h10
      go_wp2_with fail
      refine Calls.mono HGE.out ?_
      rintro e w7 ⟨rfl, hb7⟩
      obtain ⟨W8, eW8⟩ : ∃ W8, W8 = w7.alloc (.cells #[.int .u32 0, .int .u32 0, .int .u32 0, .int .i64 0, .int .i64 0] 24) := ⟨_, rfl⟩
      have hb8 : Below w7.heap.size w7 W8 := by rw [eW8]; exact one_allocK _ _
      have r8 : W8.heap[w7.heap.size]? = some (.cells #[.int .u32 0, .int .u32 0, .int .u32 0, .int .i64 0, .int .i64 0] 24 (0, 0)) := by rw [eW8]; exact heap_alloc_new w7 _
      have HB8 : Hid (Below V.heap.size V W8) := Below.step H6.out.bel (Below.step hb7 hb8)
      have z8 := HBX.out W8 HB8.out
      have q0 := cell_of_row W8 _ 0 _ _ _ r8
      have q1 := cell_of_row W8 _ 1 _ _ _ r8
      have q2 := cell_of_row W8 _ 2 _ _ _ r8
      have q3 := cell_of_row W8 _ 3 _ _ _ r8
      have q4 := cell_of_row W8 _ 4 _ _ _ r8
      have z0 := cell_of_row W8 _ 0 _ _ _ z8
      have z1 := cell_of_row W8 _ 1 _ _ _ z8
      have z2 := cell_of_row W8 _ 2 _ _ _ z8
      have z3 := cell_of_row W8 _ 3 _ _ _ z8
      have z4 := cell_of_row W8 _ 4 _ _ _ z8
      simp only [List.getElem?_toArray, List.getElem?_cons_zero, List.getElem?_cons_succ] at q0 q1 q2 q3 q4 z0 z1 z2 z3 z4
      have hl8 := lt_of_block r8
      have hlz8 := lt_of_block z8
      have hq1 : ∀ W : World, (binOp .eql 24 (.agg #[.int .u32 0, .int .u32 0, .int .u32 0, .int .i64 0, .int .i64 0]) (.agg #[.int .u32 m.boot, .int .u32 m.acc, .int .u32 m.cur, .int .i64 m.snap, .int .i64 m.log])).run Try.prog W = .ok (.bool (eqM zM m)) W := fun W => eqMan zM m W
      have hq2 : ∀ W : World, (binOp .eql 24 (.agg #[.int .u32 0, .int .u32 0, .int .u32 0, .int .i64 0, .int .i64 0]) (.agg #[.int .u32 0, .int .u32 0, .int .u32 0, .int .i64 0, .int .i64 0])).run Try.prog W = .ok (.bool (eqM zM zM)) W := fun W => eqMan zM zM W
      rw [eqM_self] at hq2
      have HE8 : Hid _ := eW8
      clear hb7 hb8 r8 z8 eW8 HGE
      go_upto_region 12 with fail
      rw [← HE8.out]
      obtain ⟨bb, hbb⟩ : ∃ bb, bb = eqM zM m := ⟨_, rfl⟩
      rw [← hbb] at hq1
      clear hbb
      cases bb
      · go_wp2_with fail
        go_ret
        exact ⟨rfl, Below.step HV.out.1 HB8.out⟩
      · go_wp2_with fail
        go_ret
        exact ⟨rfl, Below.step HV.out.1 HB8.out⟩
    · have hE0 : (E == 0) = true := by
        have h9 := HS.out
        have h10 : E = 0 := of_decide_eq_true h9.symm
        simpa using h10
      obtain ⟨hmy, hfl⟩ := H4.out.2.2 rfl
      obtain ⟨t1, t2⟩ := there (leftM D4 ks) (left_files _ _).2 (maF m) _ hfl
      have HGE : Hid _ := mget_good H6.out.is H6.out.ok t1 m HM.out hmy t2
      clear hmy hfl t1 t2
      go_wp2_with fail
      refine Calls.mono HGE.out ?_
      rintro e w7 ⟨rfl, hb7⟩
      obtain ⟨W8, eW8⟩ : ∃ W8, W8 = w7.alloc (.cells #[.int .u32 m.boot, .int .u32 m.acc, .int .u32 m.cur, .int .i64 m.snap, .int .i64 m.log] 24) := ⟨_, rfl⟩
      have hb8 : Below w7.heap.size w7 W8 := by rw [eW8]; exact one_allocK _ _
      have r8 : W8.heap[w7.heap.size]? = some (.cells #[.int .u32 m.boot, .int .u32 m.acc, .int .u32 m.cur, .int .i64 m.snap, .int .i64 m.log] 24 (0, 0)) := by rw [eW8]; exact heap_alloc_new w7 _
      have HB8 : Hid (Below V.heap.size V W8) := Below.step H6.out.bel (Below.step hb7 hb8)
      have z8 := HBX.out W8 HB8.out
      have q0 := cell_of_row W8 _ 0 _ _ _ r8
      have q1 := cell_of_row W8 _ 1 _ _ _ r8
      have q2 := cell_of_row W8 _ 2 _ _ _ r8
      have q3 := cell_of_row W8 _ 3 _ _ _ r8
      have q4 := cell_of_row W8 _ 4 _ _ _ r8
      have z0 := cell_of_row W8 _ 0 _ _ _ z8
      have z1 := cell_of_row W8 _ 1 _ _ _ z8
      have z2 := cell_of_row W8 _ 2 _ _ _ z8
      have z3 := cell_of_row W8 _ 3 _ _ _ z8
      have z4 := cell_of_row W8 _ 4 _ _ _ z8
      simp only [List.getElem?_toArray, List.getElem?_cons_zero, List.getElem?_cons_succ] at q0 q1 q2 q3 q4 z0 z1 z2 z3 z4
      have hl8 := lt_of_block r8
      have hlz8 := lt_of_block z8
      have hq1 : ∀ W : World, (binOp .eql 24 (.agg #[.int .u32 m.boot, .int .u32 m.acc, .int .u32 m.cur, .int .i64 m.snap, .int .i64 m.log]) (.agg #[.int .u32 m.boot, .int .u32 m.acc, .int .u32 m.cur, .int .i64 m.snap, .int .i64 m.log])).run Try.prog W = .ok (.bool (eqM m m)) W := fun W => eqMan m m W
      have hq2 : ∀ W : World, (binOp .eql 24 (.agg #[.int .u32 m.boot, .int .u32 m.acc, .int .u32 m.cur, .int .i64 m.snap, .int .i64 m.log]) (.agg #[.int .u32 0, .int .u32 0, .int .u32 0, .int .i64 0, .int .i64 0])).run Try.prog W = .ok (.bool (eqM m zM)) W := fun W => eqMan m zM W
      rw [eqM_self] at hq1
      have HE8 : Hid _ := eW8
      clear hb7 hb8 r8 z8 eW8 HGE
      go_upto_region 12 with fail
      rw [← HE8.out]
      go_wp2_with fail
      go_ret
      exact ⟨rfl, Below.step HV.out.1 HB8.out⟩
end Go.Proofs.Ytkpdckpcnnmdkaa
