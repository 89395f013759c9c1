/- May of the document; ManiFalls, walked. -/
import Derived.Test.YtkpdckpcnnmdkaaMaRJ
namespace Go.Proofs.Ytkpdckpcnnmdkaa
open Go.RowKit Go.Shelf
set_option maxRecDepth 8000

theorem rMay_m (m : MaD) (w : World) : Calls Try.prog 10 #[m.val] w fun e w' => e = .returned (.bool (mayM m)) ∧ Below w.heap.size w w' := by
  obtain ⟨W, eW⟩ : ∃ W, W = w.alloc (.cells #[.int .u32 m.boot, .int .u32 m.acc, .int .u32 m.cur, .int .i64 m.snap, .int .i64 m.log] 24) := ⟨_, rfl⟩
  have HB : Hid (Below w.heap.size w W) := by rw [eW]; exact one_allocK _ _
  rw [eW] at HB
  clear eW
  unfold mayM
  by_cases h1 : m.cur ≤ m.acc
  · have d1 : decide (m.cur ≤ m.acc) = true := decide_eq_true h1
    by_cases h2 : m.acc ≤ 2147483647
    · have d2 : decide (m.acc ≤ 2147483647) = true := decide_eq_true h2
      by_cases h3 : 0 ≤ m.snap
      · have d3 : decide (0 ≤ m.snap) = true := decide_eq_true h3
        have d3' : decide (m.snap ≥ 0) = true := decide_eq_true h3
        have d4' : decide (m.log ≥ 0) = decide (0 ≤ m.log) := rfl
        rw [d1, d2, d3]
        obtain ⟨boot, acc, cur, snap, log⟩ := m
        simp only at *
        go_enter Try.func10, Try.ntmps10
        go_wp2_with fail
        go_ret
        exact ⟨by simp, HB.out⟩
      · have d3 : decide (0 ≤ m.snap) = false := decide_eq_false h3
        have d3' : decide (m.snap ≥ 0) = false := decide_eq_false h3
        rw [d1, d2, d3]
        obtain ⟨boot, acc, cur, snap, log⟩ := m
        simp only at *
        go_enter Try.func10, Try.ntmps10
        go_wp2_with fail
        go_ret
        exact ⟨by simp, HB.out⟩
    · have d2 : decide (m.acc ≤ 2147483647) = false := decide_eq_false h2
      rw [d1, d2]
      obtain ⟨boot, acc, cur, snap, log⟩ := m
      simp only at *
      go_enter Try.func10, Try.ntmps10
      go_wp2_with fail
      go_ret
      exact ⟨by simp, HB.out⟩
  · have d1 : decide (m.cur ≤ m.acc) = false := decide_eq_false h1
    rw [d1]
    obtain ⟨boot, acc, cur, snap, log⟩ := m
    simp only at *
    go_enter Try.func10, Try.ntmps10
    go_wp2_with fail
    go_ret
    exact ⟨by simp, HB.out⟩

abbrev fallC (a b : MaD) (n : Int) (v : Value) : Array Value := #[.int .u32 a.boot, .int .u32 a.acc, .int .u32 a.cur, .int .i64 a.snap, .int .i64 a.log, .int .u32 b.boot, .int .u32 b.acc, .int .u32 b.cur, .int .i64 b.snap, .int .i64 b.log, .int .i64 n, v]

/-- The third Put. -/
theorem third_put {V w : World} {p : Nat} {fv : Value} {ms : List FiM} {D : DkD} (h : Run V p w fv ms D 9) (hd : Fine D) {zs : List Int} (hk : Kept1 zs D ∧ zs.length = 38) :
    Calls Try.prog 9 #[.pointer (some ⟨p, 0, none⟩), smpM.val] w fun e w' => e = .returned (.int .i64 0) ∧ Hid (∃ D6 fv6 ms6, Run V p w' fv6 ms6 D6 20 ∧ D6.files = [mF (maF smpM)] ∧ D6.on = true) := by
  have hw := h.writes
  rcases hk.1 with hf | ⟨b, d, hf⟩
  · have h1 := put_again D zs (maF smpM) hf hd hk.2 (maF_len smpM)
    refine (mput_no h.is h.ok (by omega) (by rw [hf]; exact has_m1 _ _) smpM smp_fits smp_may).mono ?_
    rintro e w' ⟨rfl, fv6, ms6, ht⟩
    refine ⟨by rw [h1.1], _, fv6, ms6, h.to ht (tailK_ok _ _ h.ok) ?_, h1.2.1, h1.2.2⟩
    have := tailK_writes (maF smpM) 3 D
    omega
  · have h1 := put_clean D zs (maF smpM) b d hf hd hk.2 (maF_len smpM)
    refine (mput_yes h.is h.ok (by omega) (by rw [hf]; exact has_m2 _ _ _ _) smpM smp_fits smp_may).mono ?_
    rintro e w' ⟨rfl, fv6, ms6, ht⟩
    have hok : DkOk (tail4 (maF smpM) D).2 := by
      unfold tail4 thenK
      split
      · exact tailK_ok _ _ (remK_ok h.ok)
      · exact remK_ok h.ok
    have hwr : (tail4 (maF smpM) D).2.writes ≤ D.writes + 4 := by
      have h8 := remK_writes D
      unfold tail4 thenK
      split
      · have := tailK_writes (maF smpM) 3 (remK D).2
        omega
      · omega
    exact ⟨by rw [h1.1], _, fv6, ms6, h.to ht hok (by omega), h1.2.1, h1.2.2⟩

theorem kept_there {zs : List Int} {D : DkD} (hon : D.on = true) (h : Kept1 zs D) : D.errO manN = 0 ∧ ∃ f, D.files[pl D.files manN]? = some f ∧ f.bytes = zs := by
  have hh : ∃ fs, D.files = mF zs :: fs := by
    rcases h with h | ⟨b, d, h⟩
    · exact ⟨_, h⟩
    · exact ⟨_, h⟩
  obtain ⟨fs, hf⟩ := hh
  refine ⟨?_, ?_⟩
  · unfold DkD.errO
    rw [hon, isNm_man, hf, has_m0]
    rfl
  · rw [hf, pl_m0]
    exact ⟨_, rfl, rfl⟩

set_option maxHeartbeats 8000000 in
theorem falls_walk (a b : MaD) (ha : a.Fits) (hb : b.Fits) (n : Int) (hn : n ≤ 9223372036854775807) (v : Value) (ks : List Int) (w : World) (hk : SeesN w v ks) (hkb : ks ≠ [] → ∀ k, v.ownBlock = some k → k < w.heap.size) :
    Calls Try.prog 3 #[.agg (fallC a b n v)] w fun r w' => r = .returned (.bool true) ∧ Below w.heap.size w w' := by
  have HK : Hid (SeesN w v ks ∧ (ks ≠ [] → ∀ k, v.ownBlock = some k → k < w.heap.size)) := ⟨hk, hkb⟩
  obtain ⟨ka, kc, rfl, hk1, hk2, _⟩ := hk
  unfold maxLen at hk2
  have HMa : Hid _ := ha
  have HMb : Hid _ := hb
  obtain ⟨KL, hKL⟩ : ∃ KL, KL = ks.length := ⟨_, rfl⟩
  rw [← hKL] at hk1 HK ⊢
  have HKL : Hid _ := hKL
  obtain ⟨V, eV⟩ : ∃ V, V = w.alloc (.cells (fallC a b n (.slice ka KL kc)) 27) := ⟨_, rfl⟩
  have hbV : Below w.heap.size w V := by rw [eV]; exact one_allocK _ _
  have rV : V.heap[w.heap.size]? = some (.cells (fallC a b n (.slice ka KL kc)) 27 (0, 0)) := by rw [eV]; exact heap_alloc_new w _
  have HV : Hid (Below w.heap.size w V ∧ V.heap[w.heap.size]? = some (.cells (fallC a b n (.slice ka KL kc)) 27 (0, 0))) := ⟨hbV, rV⟩
  have HE : Hid _ := eV
  have HBX : Hid (∀ wr, Below V.heap.size V wr → wr.heap[w.heap.size]? = some (.cells (fallC a b n (.slice ka KL kc)) 27 (0, 0))) := fun wr hb => (Below.kept hb).heap rV (fun e => by have := lt_of_block rV; omega)
  have hlV := lt_of_block rV
  have cV : V.cell? ⟨w.heap.size, 11, none⟩ = some (.slice ka KL kc) := cell_of_row V _ 11 _ _ _ rV
  clear hbV rV eV hkb ha hb hKL
  by_cases hlong : (KL : Int) ≥ 2147483647
  · have hd : decide ((KL : Int) ≥ 2147483647) = true := decide_eq_true hlong
    go_enter Try.func3, Try.ntmps3
    go_upto_region 1 with fail
    rw [← HE.out]
    go_wp2_with fail
    go_ret
    exact ⟨rfl, HV.out.1⟩
  · have hd : decide ((KL : Int) ≥ 2147483647) = false := decide_eq_false hlong
    go_enter Try.func3, Try.ntmps3
    go_upto_region 1 with fail
    rw [← HE.out]
    clear HE
    go_wp2_with fail
    refine Calls.mono (lives_m V) ?_
    rintro e w1 ⟨rfl, hb1⟩
    have H1 : Hid (Below V.heap.size V w1) := hb1
    have HN : Hid _ := new_yes 1000 w1 ⟨by decide, by decide⟩
    clear hb1 cV
    go_wp2_with fail
    refine Calls.mono HN.out ?_
    rintro e w2 ⟨rfl, hw2⟩
    have H2 : Hid (Run V w1.heap.size w2 (.slice none 0 0) [] (newD 1000) 0) := by
      have hb2 : Below w1.heap.size w1 w2 := by rw [hw2]; exact one_allocK _ _
      refine ⟨by rw [hw2]; exact isDk_new w1 1000, dkOk_new 1000 (by decide) (by decide), by simp, Below.step H1.out hb2, fun j hj => ?_⟩
      simp [foot, Value.ownBlock] at hj
      rw [hj]
      exact H1.out.size
    clear hw2 HN H1
    obtain ⟨p, hp⟩ : ∃ p, p = w1.heap.size := ⟨_, rfl⟩
    rw [← hp] at H2
    rw [← hp]
    clear hp
    have r2 := HBX.out w2 H2.out.bel
    have c0 := cell_of_row w2 _ 0 _ _ _ r2
    have c1 := cell_of_row w2 _ 1 _ _ _ r2
    have c2 := cell_of_row w2 _ 2 _ _ _ r2
    have c3 := cell_of_row w2 _ 3 _ _ _ r2
    have c4 := cell_of_row w2 _ 4 _ _ _ r2
    simp only [fallC, List.getElem?_toArray, List.getElem?_cons_zero, List.getElem?_cons_succ] at c0 c1 c2 c3 c4
    have hl2 := lt_of_block r2
    clear r2
    cases hy : mayM a
    · have HPB : Hid _ := mput_bad H2.out.is H2.out.ok a hy
      have HY : Hid _ := hy
      clear hy
      go_wp2_with fail
      refine Calls.mono HPB.out ?_
      rintro e w3 ⟨rfl, hb3⟩
      have H3 : Hid (Run V p w3 (.slice none 0 0) [] (newD 1000) 0) := H2.out.later hb3
      have r3 := HBX.out w3 H3.out.bel
      clear c0 c1 c2 c3 c4 hb3
      have c0 := cell_of_row w3 _ 0 _ _ _ r3
      have c1 := cell_of_row w3 _ 1 _ _ _ r3
      have c2 := cell_of_row w3 _ 2 _ _ _ r3
      have c3 := cell_of_row w3 _ 3 _ _ _ r3
      have c4 := cell_of_row w3 _ 4 _ _ _ r3
      simp only [fallC, List.getElem?_toArray, List.getElem?_cons_zero, List.getElem?_cons_succ] at c0 c1 c2 c3 c4
      have hl3 := lt_of_block r3
      have HMY : Hid _ := rMay_m a w3
      rw [HY.out] at HMY
      clear r3 HPB
      go_wp2_with fail
      refine Calls.mono HMY.out ?_
      rintro e w4 ⟨rfl, hb4⟩
      have H4 : Hid (Run V p w4 (.slice none 0 0) [] (newD 1000) 0) := H3.out.later hb4
      have HWR : Hid _ := dWrites_any H4.out.is
      clear hb4 HMY
      go_wp2_with fail
      refine Calls.mono HWR.out ?_
      rintro e w5 ⟨rfl, hw5⟩
      subst w5
      go_wp2_with fail
      go_ret
      exact ⟨rfl, Below.step HV.out.1 H4.out.bel⟩
    have HPU : Hid (Calls Try.prog 9 #[.pointer (some ⟨p, 0, none⟩), .agg #[.int .u32 a.boot, .int .u32 a.acc, .int .u32 a.cur, .int .i64 a.snap, .int .i64 a.log]] w2 fun e w' => e = .returned (.int .i64 0) ∧ Hid (∃ (D1 : DkD) (fv1 : Value) (ms1 : List FiM), Run V p w' fv1 ms1 D1 3 ∧ D1.files = [mF (maF a)] ∧ D1.on = true ∧ D1.room = 1000)) := by
      refine (mput_no H2.out.is H2.out.ok (by decide) (has_none newN) a HMa.out hy).mono ?_
      rintro e w' ⟨rfl, fv4, ms4, ht⟩
      have h9 := tailK_writes (maF a) 3 (newD 1000)
      have h8 := tailK_ok (maF a) 3 H2.out.ok
      rw [put_plain (newD 1000) (maF a) rfl rfl rfl (maF_len a) rfl] at ht h8 h9 ⊢
      refine ⟨rfl, _, fv4, ms4, H2.out.to ht h8 h9, ?_, rfl, rfl⟩
      show [(⟨manN, maF a, ((maF a).length : Int)⟩ : FiD)] = _
      rw [maF_len]
      rfl
    have HY : Hid _ := hy
    clear hy
    go_wp2_with fail
    refine Calls.mono HPU.out ?_
    rintro e w3 ⟨rfl, HH3⟩
    obtain ⟨D1, fv1, ms1, hr3, hf3, ho3, hm3⟩ := HH3.out
    have H3 : Hid (Run V p w3 fv1 ms1 D1 3 ∧ D1.files = [mF (maF a)] ∧ D1.on = true ∧ D1.room = 1000) := ⟨hr3, hf3, ho3, hm3⟩
    have r3 := HBX.out w3 hr3.bel
    have c10 : w3.cell? ⟨w.heap.size, 10, none⟩ = some (.int .i64 n) := cell_of_row w3 _ 10 _ _ _ r3
    have hl3 := lt_of_block r3
    have HAR : Hid _ := arm_any H3.out.1.is n
    clear c0 c1 c2 c3 c4 hl2 H2 HPU HH3 hr3 hf3 ho3 hm3 r3
    go_wp2_with fail
    refine Calls.mono HAR.out ?_
    rintro e w4 ⟨rfl, ht4⟩
    have H4 : Hid (Run V p w4 fv1 ms1 (D1.arm n) 3 ∧ (D1.arm n).files = [mF (maF a)] ∧ (D1.arm n).on = true ∧ (D1.arm n).room = 1000) := by
      have e1 : D1.arm n = { D1 with armed := max n (-1) } := by unfold DkD.arm; rw [if_pos H3.out.2.2.1]
      have hw : (D1.arm n).writes ≤ ((3 : Nat) : Int) := by rw [e1]; exact H3.out.1.writes
      exact ⟨H3.out.1.to ht4 (DkOk.arm H3.out.1.ok n hn) hw, by rw [e1]; exact H3.out.2.1, by rw [e1]; exact H3.out.2.2.1, by rw [e1]; exact H3.out.2.2.2⟩
    obtain ⟨D2, hD2⟩ : ∃ D2, D2 = D1.arm n := ⟨_, rfl⟩
    rw [← hD2] at H4
    clear ht4 hD2 c10 HAR H3 hl3
    have r4 := HBX.out w4 H4.out.1.bel
    have c5 := cell_of_row w4 _ 5 _ _ _ r4
    have c6 := cell_of_row w4 _ 6 _ _ _ r4
    have c7 := cell_of_row w4 _ 7 _ _ _ r4
    have c8 := cell_of_row w4 _ 8 _ _ _ r4
    have c9 := cell_of_row w4 _ 9 _ _ _ r4
    simp only [fallC, List.getElem?_toArray, List.getElem?_cons_zero, List.getElem?_cons_succ] at c5 c6 c7 c8 c9
    have hl4 := lt_of_block r4
    have HPU : Hid (Calls Try.prog 9 #[.pointer (some ⟨p, 0, none⟩), .agg #[.int .u32 b.boot, .int .u32 b.acc, .int .u32 b.cur, .int .i64 b.snap, .int .i64 b.log]] w4 fun e w' => ∃ (E : Int) (D4 : DkD) (fv4 : Value) (ms4 : List FiM) (S : Bool), e = .returned (.int .i64 E) ∧ S = decide (E = 0) ∧ Hid (Run V p w' fv4 ms4 D4 9 ∧ Fine (leftM D4 ks) ∧ (S = false → Kept1 (maF a) (leftM D4 ks)) ∧ (S = true → mayM b = true ∧ (leftM D4 ks).files = [mF (maF b)]))) := by
      cases hy : mayM b
      · refine (mput_bad H4.out.1.is H4.out.1.ok b hy).mono ?_
        rintro e w' ⟨rfl, hb'⟩
        have hr := H4.out.1.later hb'
        refine ⟨110, D2, _, _, false, rfl, by decide, ⟨hr.is, hr.ok, by have := hr.writes; omega, hr.bel, hr.apart⟩, left_fine D2 ks (.inl H4.out.2.2.1) H4.out.2.2.2, fun _ => left_kept _ (maF_len a) D2 ks (.inl H4.out.2.1), fun e => by cases e⟩
      · refine (mput_no H4.out.1.is H4.out.1.ok (by have := H4.out.1.writes; omega) (by rw [H4.out.2.1]; exact has_m1 _ _) b HMb.out hy).mono ?_
        rintro e w' ⟨rfl, fv4, ms4, ht⟩
        have hpo := put_over D2 (maF a) (maF b) H4.out.2.1 H4.out.2.2.1 H4.out.2.2.2 (maF_len a) (maF_len b) ks
        have hw4 : (tailK (maF b) 3 D2).2.writes ≤ ((9 : Nat) : Int) := by
          have h9 := tailK_writes (maF b) 3 D2
          have h8 := H4.out.1.writes
          omega
        refine ⟨_, (tailK (maF b) 3 D2).2, fv4, ms4, decide ((tailK (maF b) 3 D2).1 = 0), rfl, rfl, H4.out.1.to ht (tailK_ok _ _ H4.out.1.ok) hw4, hpo.1, fun e => ?_, fun e => ?_⟩
        · rcases hpo.2 with ⟨_, h5⟩ | ⟨h5, _⟩
          · exact h5
          · exact absurd h5 (of_decide_eq_false e)
        · rcases hpo.2 with ⟨h5, _⟩ | ⟨_, h6⟩
          · exact absurd (of_decide_eq_true e) h5
          · exact ⟨rfl, h6⟩
    clear r4
    go_wp2_with fail
    refine Calls.mono HPU.out ?_
    rintro e w5 ⟨E, D4, fv4, ms4, S, rfl, hS, H5⟩
    have HOF : Hid _ := off_any H5.out.1.is
    have HS : Hid _ := hS
    clear HPU c5 c6 c7 c8 c9 hS H4 hl4
    go_wp2_with fail
    refine Calls.mono HOF.out ?_
    rintro e w5' ⟨rfl, ht5⟩
    have H5' : Hid (Run V p w5' fv4 ms4 D4.off 9) := H5.out.1.to ht5 (DkOk.off H5.out.1.ok) (off_wr D4 H5.out.1.writes)
    have HST : Hid _ := start_any H5'.out.is H5'.out.ok (.slice ka KL kc) ks (HK.out.1.kept (Below.kept (Below.step HV.out.1 H5'.out.bel)) (fun hy k e e' => by have := HK.out.2 hy k e; omega)) (fun hy k e hm => by have h1 := HK.out.2 hy k e; have h2 := H5'.out.apart k hm; have h3 := HV.out.1.size; omega)
    have r5 := HBX.out w5' H5'.out.bel
    have c11 : w5'.cell? ⟨w.heap.size, 11, none⟩ = some (.slice ka KL kc) := cell_of_row w5' _ 11 _ _ _ r5
    have hl5 := lt_of_block r5
    clear ht5 HOF r5
    go_wp2_with fail
    refine Calls.mono HST.out ?_
    rintro e w6 ⟨rfl, ms6, ht6⟩
    have H6 : Hid (Run V p w6 fv4 ms6 (leftM D4 ks) 9) := H5'.out.to ht6 (DkOk.start H5'.out.ok ks) (left_wr D4 ks H5'.out.writes)
    have HF5 : Hid (Fine (leftM D4 ks)) := H5.out.2.1
    clear ht6 HST H5' c11 hl5
    cases S
    · have hE0 : (E == 0) = false := by
        have h10 : ¬ E = 0 := of_decide_eq_false HS.out.symm
        simpa using h10
      have hE1 : (E != 0) = true := by
        have h10 : ¬ E = 0 := of_decide_eq_false HS.out.symm
        simpa using h10
      have HK5 : Hid (Kept1 (maF a) (leftM D4 ks) ∧ (maF a).length = 38) := ⟨H5.out.2.2.1 rfl, maF_len a⟩
      have HL : Hid ((leftM D4 ks).errO manN = 0 ∧ mayM a = true ∧ ∃ f, (leftM D4 ks).files[pl (leftM D4 ks).files manN]? = some f ∧ f.bytes = maF a) := by
        have h9 := kept_there HF5.out.on HK5.out.1
        exact ⟨h9.1, HY.out, h9.2⟩
      clear H5 HS
      have HGE : Hid _ := mget_good H6.out.is H6.out.ok HL.out.1 a HMa.out HL.out.2.1 HL.out.2.2
      go_wp2_with fail
      refine Calls.mono HGE.out ?_
      rintro e w7 ⟨rfl, hb7⟩
      obtain ⟨W8, eW8⟩ : ∃ W8, W8 = w7.alloc (.cells #[.int .u32 a.boot, .int .u32 a.acc, .int .u32 a.cur, .int .i64 a.snap, .int .i64 a.log] 24) := ⟨_, rfl⟩
      have hb8 : Below w7.heap.size w7 W8 := by rw [eW8]; exact one_allocK _ _
      have r8 : W8.heap[w7.heap.size]? = some (.cells #[.int .u32 a.boot, .int .u32 a.acc, .int .u32 a.cur, .int .i64 a.snap, .int .i64 a.log] 24 (0, 0)) := by rw [eW8]; exact heap_alloc_new w7 _
      have H8 : Hid (Run V p W8 fv4 ms6 (leftM D4 ks) 9) := (H6.out.later hb7).later hb8
      have rz8 := HBX.out W8 H8.out.bel
      have q0 := cell_of_row W8 _ 0 _ _ _ r8
      have q1 := cell_of_row W8 _ 1 _ _ _ r8
      have q2 := cell_of_row W8 _ 2 _ _ _ r8
      have q3 := cell_of_row W8 _ 3 _ _ _ r8
      have q4 := cell_of_row W8 _ 4 _ _ _ r8
      simp only [List.getElem?_toArray, List.getElem?_cons_zero, List.getElem?_cons_succ] at q0 q1 q2 q3 q4
      have z0 := cell_of_row W8 _ 0 _ _ _ rz8
      have z1 := cell_of_row W8 _ 1 _ _ _ rz8
      have z2 := cell_of_row W8 _ 2 _ _ _ rz8
      have z3 := cell_of_row W8 _ 3 _ _ _ rz8
      have z4 := cell_of_row W8 _ 4 _ _ _ rz8
      have z5 := cell_of_row W8 _ 5 _ _ _ rz8
      have z6 := cell_of_row W8 _ 6 _ _ _ rz8
      have z7 := cell_of_row W8 _ 7 _ _ _ rz8
      have z8 := cell_of_row W8 _ 8 _ _ _ rz8
      have z9 := cell_of_row W8 _ 9 _ _ _ rz8
      simp only [fallC, List.getElem?_toArray, List.getElem?_cons_zero, List.getElem?_cons_succ] at z0 z1 z2 z3 z4 z5 z6 z7 z8 z9
      have hl8 := lt_of_block r8
      have hlz8 := lt_of_block rz8
      have HE8 : Hid _ := eW8
      have hqx : ∀ W : World, (binOp .neq 24 (.agg #[.int .u32 a.boot, .int .u32 a.acc, .int .u32 a.cur, .int .i64 a.snap, .int .i64 a.log]) (.agg #[.int .u32 a.boot, .int .u32 a.acc, .int .u32 a.cur, .int .i64 a.snap, .int .i64 a.log])).run Try.prog W = .ok (.bool false) W := fun W => by
        have h9 := neqMan a a W
        rw [eqM_self] at h9
        exact h9
      clear hb7 hb8 r8 rz8 eW8 HGE H6
      go_upto_region 15 with fail
      rw [← HE8.out]
      clear HE8
      go_upto_region 19 with fail
      go_wp2_with fail
      refine Calls.mono (sample_m W8) ?_
      rintro e w9 ⟨rfl, hb9⟩
      have HP3 : Hid (Calls Try.prog 9 #[.pointer (some ⟨p, 0, none⟩), .agg #[.int .u32 3, .int .u32 2, .int .u32 1, .int .i64 4, .int .i64 5]] w9 fun e w' => e = .returned (.int .i64 0) ∧ Hid (∃ D6 fv6 ms6, Run V p w' fv6 ms6 D6 20 ∧ D6.files = [mF (maF smpM)] ∧ D6.on = true)) := third_put (H8.out.later hb9) HF5.out HK5.out
      clear hb9 H8 q0 q1 q2 q3 q4 z0 z1 z2 z3 z4 z5 z6 z7 z8 z9 hl8 hlz8
      go_wp2_with fail
      refine Calls.mono HP3.out ?_
      rintro e w10 ⟨rfl, HH6⟩
      obtain ⟨D6, fv6, ms6, hr6, hf6, ho6⟩ := HH6.out
      have HR6 : Hid (Run V p w10 fv6 ms6 D6 20 ∧ D6.files = [mF (maF smpM)]) := ⟨hr6, hf6⟩
      obtain ⟨t1, t2⟩ := there D6 ho6 (maF smpM) 38 hf6
      have HG6 : Hid _ := mget_good hr6.is hr6.ok t1 smpM smp_fits smp_may t2
      clear HP3 HH6 hr6 hf6 ho6 t1 t2
      go_wp2_with fail
      refine Calls.mono HG6.out ?_
      rintro e w11 ⟨rfl, hb11⟩
      obtain ⟨WA, eWA⟩ : ∃ WA, WA = w11.alloc (.cells #[.int .u32 3, .int .u32 2, .int .u32 1, .int .i64 4, .int .i64 5] 24) := ⟨_, rfl⟩
      have hbA : Below w11.heap.size w11 WA := by rw [eWA]; exact one_allocK _ _
      have rA : WA.heap[w11.heap.size]? = some (.cells #[.int .u32 3, .int .u32 2, .int .u32 1, .int .i64 4, .int .i64 5] 24 (0, 0)) := by rw [eWA]; exact heap_alloc_new w11 _
      have HA : Hid (Run V p WA fv6 ms6 D6 20 ∧ D6.files = [mF (maF smpM)]) := ⟨(HR6.out.1.later hb11).later hbA, HR6.out.2⟩
      have HEA : Hid _ := eWA
      obtain ⟨bn, hbn⟩ : ∃ bn, bn = w11.heap.size := ⟨_, rfl⟩
      rw [← hbn] at rA
      have k0 : WA.drew.cell? ⟨bn, 0, none⟩ = some (.int .u32 3) := cell_of_row WA _ 0 _ _ _ rA
      have k1 : WA.drew.cell? ⟨bn, 1, none⟩ = some (.int .u32 2) := cell_of_row WA _ 1 _ _ _ rA
      have k2 : WA.drew.cell? ⟨bn, 2, none⟩ = some (.int .u32 1) := cell_of_row WA _ 2 _ _ _ rA
      have k3 : WA.drew.cell? ⟨bn, 3, none⟩ = some (.int .i64 4) := cell_of_row WA _ 3 _ _ _ rA
      have k4 : WA.drew.cell? ⟨bn, 4, none⟩ = some (.int .i64 5) := cell_of_row WA _ 4 _ _ _ rA
      have hlb : bn < WA.heap.size := lt_of_block rA
      have HSN : Hid (Calls Try.prog 16 #[] WA.drew fun e w' => e = .returned (.agg #[.int .u32 3, .int .u32 2, .int .u32 1, .int .i64 4, .int .i64 5]) ∧ (w'.cell? ⟨bn, 0, none⟩ = some (.int .u32 3) ∧ w'.cell? ⟨bn, 1, none⟩ = some (.int .u32 2) ∧ w'.cell? ⟨bn, 2, none⟩ = some (.int .u32 1) ∧ w'.cell? ⟨bn, 3, none⟩ = some (.int .i64 4) ∧ w'.cell? ⟨bn, 4, none⟩ = some (.int .i64 5)) ∧ Hid (Below WA.heap.size WA w')) := by
        refine (sample_m WA.drew).mono ?_
        rintro e w' ⟨rfl, hb'⟩
        exact ⟨rfl, ⟨cell_later k0 hb' (Nat.le_refl _), cell_later k1 hb' (Nat.le_refl _), cell_later k2 hb' (Nat.le_refl _), cell_later k3 hb' (Nat.le_refl _), cell_later k4 hb' (Nat.le_refl _)⟩, Below.step (below_drewN (Below.refl _ _) 1) hb'⟩
      have HNM : Hid (∀ X : World, Hid (Below WA.heap.size WA X) → (X.cell? ⟨bn, 0, none⟩ = some (.int .u32 3) ∧ X.cell? ⟨bn, 1, none⟩ = some (.int .u32 2) ∧ X.cell? ⟨bn, 2, none⟩ = some (.int .u32 1) ∧ X.cell? ⟨bn, 3, none⟩ = some (.int .i64 4) ∧ X.cell? ⟨bn, 4, none⟩ = some (.int .i64 5)) → Calls Try.prog 17 #[.pointer (some ⟨p, 0, none⟩)] X fun e w' => e = .returned (.slice (some ⟨X.heap.size, 0, none⟩) 1 1) ∧ (w'.cell? ⟨bn, 0, none⟩ = some (.int .u32 3) ∧ w'.cell? ⟨bn, 1, none⟩ = some (.int .u32 2) ∧ w'.cell? ⟨bn, 2, none⟩ = some (.int .u32 1) ∧ w'.cell? ⟨bn, 3, none⟩ = some (.int .i64 4) ∧ w'.cell? ⟨bn, 4, none⟩ = some (.int .i64 5)) ∧ Hid (Below w.heap.size w w')) := fun X hX hc => by
        have hr := HA.out.1.later hX.out
        have h9 := dNames_any hr.is hr.ok
        rw [HA.out.2] at h9
        refine h9.mono ?_
        rintro e w' ⟨rfl, _, hb'⟩
        obtain ⟨j0, j1, j2, j3, j4⟩ := hc
        exact ⟨rfl, ⟨cell_later j0 hb' (Nat.le_refl _), cell_later j1 hb' (Nat.le_refl _), cell_later j2 hb' (Nat.le_refl _), cell_later j3 hb' (Nat.le_refl _), cell_later j4 hb' (Nat.le_refl _)⟩, Below.step (Below.step HV.out.1 hr.bel) hb'⟩
      have hq2 : ∀ W : World, (binOp .eql 24 (.agg #[.int .u32 3, .int .u32 2, .int .u32 1, .int .i64 4, .int .i64 5]) (.agg #[.int .u32 3, .int .u32 2, .int .u32 1, .int .i64 4, .int .i64 5])).run Try.prog W = .ok (.bool true) W := fun W => by
        have h9 := eqMan smpM smpM W
        rw [eqM_self] at h9
        exact h9
      clear hb11 hbA rA eWA HG6 HR6 HA
      go_upto_region 21 with fail
      rw [← HEA.out, ← hbn]
      clear hbn HEA
      refine wp_region_held_drew (S := (fun w' => w'.cell? ⟨bn, 0, none⟩ = some (.int .u32 3) ∧ w'.cell? ⟨bn, 1, none⟩ = some (.int .u32 2) ∧ w'.cell? ⟨bn, 2, none⟩ = some (.int .u32 1) ∧ w'.cell? ⟨bn, 3, none⟩ = some (.int .i64 4) ∧ w'.cell? ⟨bn, 4, none⟩ = some (.int .i64 5))) (by kernel_rfl) ?_ (fun hHeld => ?_)
      · exact ⟨k0, k1, k2, k3, k4⟩
      refine wpAnyH_take (i := 0) (oi := { dst := some 114, op := Op.move (Operand.tmp 11), type := 30, pos := "law.go:201", after := #[], guard := none }) (v := ?_) rfl (by kernel_rfl) (by kernel_rfl) (by kernel_rfl) (fun _ _ _ h => h) (Or.inl ⟨by rfl, ?_⟩) (by assumption) ?_
      rotate_left
      · (intro w hSw; (try dsimp only at hSw); go_simp) <;> with_reducible rfl
      try simp only [Act.put, List.setIfInBounds_toArray, List.set_cons_zero, List.set_cons_succ]
      refine wpAnyH_take (i := 1) (oi := { dst := some 115, op := Op.binOp BinOp.eql 30 (Operand.tmp 114) (Operand.const (Value.int IntKind.i64 0)) 30, type := 4, pos := "law.go:201", after := #[{ on := 0, ground := Ground.data }], guard := none }) (v := ?_) rfl (by kernel_rfl) (by kernel_rfl) (by kernel_rfl) (fun _ _ _ h => h) (Or.inl ⟨by rfl, ?_⟩) (by assumption) ?_
      rotate_left
      · (intro w hSw; (try dsimp only at hSw); go_simp) <;> with_reducible rfl
      try simp only [Act.put, List.setIfInBounds_toArray, List.set_cons_zero, List.set_cons_succ]
      refine wpAnyH_take (i := 2) (oi := { dst := some 116, op := Op.move (Operand.tmp 115), type := 4, pos := "law.go:201", after := #[{ on := 1, ground := Ground.data }], guard := none }) (v := ?_) rfl (by kernel_rfl) (by kernel_rfl) (by kernel_rfl) (fun _ _ _ h => h) (Or.inl ⟨by rfl, ?_⟩) (by assumption) ?_
      rotate_left
      · (intro w hSw; (try dsimp only at hSw); go_simp) <;> with_reducible rfl
      try simp only [Act.put, List.setIfInBounds_toArray, List.set_cons_zero, List.set_cons_succ]
      refine wpAnyH_take (i := 3) (oi := { dst := some 117, op := Op.move (Operand.tmp 14), type := 30, pos := "law.go:201", after := #[{ on := 2, ground := Ground.guard }], guard := some (2, true) }) (v := ?_) rfl (by kernel_rfl) (by kernel_rfl) (by kernel_rfl) (fun _ _ _ h => h) (Or.inl ⟨by rfl, ?_⟩) (by assumption) ?_
      rotate_left
      · (intro w hSw; (try dsimp only at hSw); go_simp) <;> with_reducible rfl
      try simp only [Act.put, List.setIfInBounds_toArray, List.set_cons_zero, List.set_cons_succ]
      refine wpAnyH_take (i := 4) (oi := { dst := some 118, op := Op.binOp BinOp.eql 30 (Operand.tmp 117) (Operand.const (Value.int IntKind.i64 0)) 30, type := 4, pos := "law.go:201", after := #[{ on := 3, ground := Ground.data }, { on := 2, ground := Ground.guard }], guard := some (2, true) }) (v := ?_) rfl (by kernel_rfl) (by kernel_rfl) (by kernel_rfl) (fun _ _ _ h => h) (Or.inl ⟨by rfl, ?_⟩) (by assumption) ?_
      rotate_left
      · (intro w hSw; (try dsimp only at hSw); go_simp) <;> with_reducible rfl
      try simp only [Act.put, List.setIfInBounds_toArray, List.set_cons_zero, List.set_cons_succ]
      refine wpAnyH_take (i := 5) (oi := { dst := some 119, op := Op.pick (Operand.tmp 116) (Operand.tmp 118) (Operand.const (Value.bool false)), type := 4, pos := "law.go:201", after := #[{ on := 2, ground := Ground.data }, { on := 4, ground := Ground.data }], guard := none }) (v := ?_) rfl (by kernel_rfl) (by kernel_rfl) (by kernel_rfl) (fun _ _ _ h => h) (Or.inl ⟨by rfl, ?_⟩) (by assumption) ?_
      rotate_left
      · (intro w hSw; (try dsimp only at hSw); go_simp) <;> with_reducible rfl
      try simp only [Act.put, List.setIfInBounds_toArray, List.set_cons_zero, List.set_cons_succ]
      refine wpAnyH_take (i := 6) (oi := { dst := some 120, op := Op.move (Operand.tmp 119), type := 4, pos := "law.go:201", after := #[{ on := 5, ground := Ground.data }, { on := 2, ground := Ground.chain }], guard := none }) (v := ?_) rfl (by kernel_rfl) (by kernel_rfl) (by kernel_rfl) (fun _ _ _ h => h) (Or.inl ⟨by rfl, ?_⟩) (by assumption) ?_
      rotate_left
      · (intro w hSw; (try dsimp only at hSw); go_simp) <;> with_reducible rfl
      try simp only [Act.put, List.setIfInBounds_toArray, List.set_cons_zero, List.set_cons_succ]
      refine wpAnyH_take (i := 7) (oi := { dst := some 121, op := Op.move (Operand.tmp 13), type := 4, pos := "law.go:201", after := #[{ on := 6, ground := Ground.guard }], guard := some (6, true) }) (v := ?_) rfl (by kernel_rfl) (by kernel_rfl) (by kernel_rfl) (fun _ _ _ h => h) (Or.inl ⟨by rfl, ?_⟩) (by assumption) ?_
      rotate_left
      · (intro w hSw; (try dsimp only at hSw); go_simp) <;> with_reducible rfl
      try simp only [Act.put, List.setIfInBounds_toArray, List.set_cons_zero, List.set_cons_succ]
      refine wpAnyH_take (i := 8) (oi := { dst := some 122, op := Op.pick (Operand.tmp 120) (Operand.tmp 121) (Operand.const (Value.bool false)), type := 4, pos := "law.go:201", after := #[{ on := 6, ground := Ground.data }, { on := 7, ground := Ground.data }], guard := none }) (v := ?_) rfl (by kernel_rfl) (by kernel_rfl) (by kernel_rfl) (fun _ _ _ h => h) (Or.inl ⟨by rfl, ?_⟩) (by assumption) ?_
      rotate_left
      · (intro w hSw; (try dsimp only at hSw); go_simp) <;> with_reducible rfl
      try simp only [Act.put, List.setIfInBounds_toArray, List.set_cons_zero, List.set_cons_succ]
      refine wpAnyH_take (i := 9) (oi := { dst := some 123, op := Op.move (Operand.tmp 122), type := 4, pos := "law.go:201", after := #[{ on := 8, ground := Ground.data }, { on := 6, ground := Ground.chain }], guard := none }) (v := ?_) rfl (by kernel_rfl) (by kernel_rfl) (by kernel_rfl) (fun _ _ _ h => h) (Or.inl ⟨by rfl, ?_⟩) (by assumption) ?_
      rotate_left
      · (intro w hSw; (try dsimp only at hSw); go_simp) <;> with_reducible rfl
      try simp only [Act.put, List.setIfInBounds_toArray, List.set_cons_zero, List.set_cons_succ]
      refine wpAnyH_take (i := 10) (oi := { dst := some 124, op := Op.load 24 (Operand.tmp 12), type := 24, pos := "law.go:201", after := #[{ on := 9, ground := Ground.guard }], guard := some (9, true) }) (v := ?_) rfl (by kernel_rfl) (by kernel_rfl) (by kernel_rfl) (fun _ _ _ h => h) (Or.inl ⟨by rfl, ?_⟩) (by assumption) ?_
      rotate_left
      · (intro w hSw; (try dsimp only at hSw); go_simp) <;> with_reducible rfl
      try simp only [Act.put, List.setIfInBounds_toArray, List.set_cons_zero, List.set_cons_succ]
      refine wpAnyH_ready (rs := [11]) (by kernel_rfl) (by simp) ?_
      refine AllReadyH.cons (o := { dst := some 125, op := Op.call { callee := Callee.value (Operand.func 16), args := #[], argTypes := #[] }, type := 24, pos := "law.go:201", after := #[{ on := 9, ground := Ground.chain }, { on := 9, ground := Ground.guard }], guard := some (9, true) }) rfl (fun K hK => ?_) AllReadyH.nil
      go_simp
      refine Calls.mono HSN.out ?_
      rintro e wA ⟨rfl, hsA, HBA⟩
      refine hK.out _ _ hsA (fun hHeld => ?_)
      clear hK K
      refine wpAnyH_take (i := 12) (oi := { dst := some 126, op := Op.binOp BinOp.eql 24 (Operand.tmp 124) (Operand.tmp 125) 24, type := 4, pos := "law.go:201", after := #[{ on := 10, ground := Ground.data }, { on := 11, ground := Ground.data }, { on := 9, ground := Ground.guard }], guard := some (9, true) }) (v := ?_) rfl (by kernel_rfl) (by kernel_rfl) (by kernel_rfl) (fun _ _ _ h => h) (Or.inl ⟨by rfl, ?_⟩) (by assumption) ?_
      rotate_left
      · (intro w hSw; (try dsimp only at hSw); go_simp) <;> with_reducible rfl
      try simp only [Act.put, List.setIfInBounds_toArray, List.set_cons_zero, List.set_cons_succ]
      refine wpAnyH_take (i := 13) (oi := { dst := some 127, op := Op.pick (Operand.tmp 123) (Operand.tmp 126) (Operand.const (Value.bool false)), type := 4, pos := "law.go:201", after := #[{ on := 9, ground := Ground.data }, { on := 12, ground := Ground.data }], guard := none }) (v := ?_) rfl (by kernel_rfl) (by kernel_rfl) (by kernel_rfl) (fun _ _ _ h => h) (Or.inl ⟨by rfl, ?_⟩) (by assumption) ?_
      rotate_left
      · (intro w hSw; (try dsimp only at hSw); go_simp) <;> with_reducible rfl
      try simp only [Act.put, List.setIfInBounds_toArray, List.set_cons_zero, List.set_cons_succ]
      refine wpAnyH_take (i := 14) (oi := { dst := some 128, op := Op.move (Operand.tmp 127), type := 4, pos := "law.go:201", after := #[{ on := 13, ground := Ground.data }, { on := 11, ground := Ground.chain }], guard := none }) (v := ?_) rfl (by kernel_rfl) (by kernel_rfl) (by kernel_rfl) (fun _ _ _ h => h) (Or.inl ⟨by rfl, ?_⟩) (by assumption) ?_
      rotate_left
      · (intro w hSw; (try dsimp only at hSw); go_simp) <;> with_reducible rfl
      try simp only [Act.put, List.setIfInBounds_toArray, List.set_cons_zero, List.set_cons_succ]
      refine wpAnyH_take (i := 15) (oi := { dst := some 129, op := Op.move (Operand.tmp 4), type := 29, pos := "law.go:201", after := #[{ on := 14, ground := Ground.guard }], guard := some (14, true) }) (v := ?_) rfl (by kernel_rfl) (by kernel_rfl) (by kernel_rfl) (fun _ _ _ h => h) (Or.inl ⟨by rfl, ?_⟩) (by assumption) ?_
      rotate_left
      · (intro w hSw; (try dsimp only at hSw); go_simp) <;> with_reducible rfl
      try simp only [Act.put, List.setIfInBounds_toArray, List.set_cons_zero, List.set_cons_succ]
      refine wpAnyH_ready (rs := [16]) (by kernel_rfl) (by simp) ?_
      refine AllReadyH.cons (o := { dst := some 130, op := Op.call { callee := Callee.value (Operand.func 17), args := #[Operand.tmp 129], argTypes := #[29] }, type := 41, pos := "law.go:201", after := #[{ on := 15, ground := Ground.data }, { on := 14, ground := Ground.chain }, { on := 14, ground := Ground.guard }], guard := some (14, true) }) rfl (fun K hK => ?_) AllReadyH.nil
      go_simp
      refine Calls.mono (HNM.out _ HBA hHeld) ?_
      rintro e wB ⟨rfl, hsB, HBB⟩
      refine hK.out _ _ hsB (fun hHeld => ?_)
      clear hK K
      refine wpAnyH_take (i := 17) (oi := { dst := some 131, op := Op.call { callee := Callee.builtin Builtin.len, args := #[Operand.tmp 130], argTypes := #[41] }, type := 3, pos := "law.go:201", after := #[{ on := 16, ground := Ground.data }, { on := 14, ground := Ground.guard }], guard := some (14, true) }) (v := ?_) rfl (by kernel_rfl) (by kernel_rfl) (by kernel_rfl) (fun _ _ _ h => h) (Or.inl ⟨by rfl, ?_⟩) (by assumption) ?_
      rotate_left
      · (intro w hSw; (try dsimp only at hSw); go_simp) <;> with_reducible rfl
      try simp only [Act.put, List.setIfInBounds_toArray, List.set_cons_zero, List.set_cons_succ]
      refine wpAnyH_take (i := 18) (oi := { dst := some 132, op := Op.binOp BinOp.eql 3 (Operand.tmp 131) (Operand.const (Value.int IntKind.i64 1)) 3, type := 4, pos := "law.go:201", after := #[{ on := 17, ground := Ground.data }, { on := 14, ground := Ground.guard }], guard := some (14, true) }) (v := ?_) rfl (by kernel_rfl) (by kernel_rfl) (by kernel_rfl) (fun _ _ _ h => h) (Or.inl ⟨by rfl, ?_⟩) (by assumption) ?_
      rotate_left
      · (intro w hSw; (try dsimp only at hSw); go_simp) <;> with_reducible rfl
      try simp only [Act.put, List.setIfInBounds_toArray, List.set_cons_zero, List.set_cons_succ]
      refine wpAnyH_take (i := 19) (oi := { dst := some 133, op := Op.pick (Operand.tmp 128) (Operand.tmp 132) (Operand.const (Value.bool false)), type := 4, pos := "law.go:201", after := #[{ on := 14, ground := Ground.data }, { on := 18, ground := Ground.data }], guard := none }) (v := ?_) rfl (by kernel_rfl) (by kernel_rfl) (by kernel_rfl) (fun _ _ _ h => h) (Or.inl ⟨by rfl, ?_⟩) (by assumption) ?_
      rotate_left
      · (intro w hSw; (try dsimp only at hSw); go_simp) <;> with_reducible rfl
      try simp only [Act.put, List.setIfInBounds_toArray, List.set_cons_zero, List.set_cons_succ]
      refine wpAnyH_take (i := 20) (oi := { dst := some 2, op := Op.assign (Operand.tmp 133), type := 4, pos := "law.go:201", after := #[{ on := 19, ground := Ground.data }, { on := 16, ground := Ground.chain }, { on := 0, ground := Ground.phase }, { on := 1, ground := Ground.phase }, { on := 2, ground := Ground.phase }, { on := 3, ground := Ground.phase }, { on := 4, ground := Ground.phase }, { on := 5, ground := Ground.phase }, { on := 6, ground := Ground.phase }, { on := 7, ground := Ground.phase }, { on := 8, ground := Ground.phase }, { on := 9, ground := Ground.phase }, { on := 10, ground := Ground.phase }, { on := 11, ground := Ground.phase }, { on := 12, ground := Ground.phase }, { on := 13, ground := Ground.phase }, { on := 14, ground := Ground.phase }, { on := 15, ground := Ground.phase }, { on := 16, ground := Ground.phase }, { on := 17, ground := Ground.phase }, { on := 18, ground := Ground.phase }, { on := 19, ground := Ground.phase }], guard := none }) (v := ?_) rfl (by kernel_rfl) (by kernel_rfl) (by kernel_rfl) (fun _ _ _ h => h) (Or.inl ⟨by rfl, ?_⟩) (by assumption) ?_
      rotate_left
      · (intro w hSw; (try dsimp only at hSw); go_simp) <;> with_reducible rfl
      try simp only [Act.put, List.setIfInBounds_toArray, List.set_cons_zero, List.set_cons_succ]
      refine wpAnyH_done (by kernel_rfl) ?_ _
      go_wp2_with fail
      go_ret
      exact ⟨rfl, HBB.out⟩
    · have h10 : E = 0 := of_decide_eq_true HS.out.symm
      subst h10
      have HK5 : Hid (Kept1 (maF b) (leftM D4 ks) ∧ (maF b).length = 38) := ⟨.inl (H5.out.2.2.2 rfl).2, maF_len b⟩
      have HL : Hid ((leftM D4 ks).errO manN = 0 ∧ mayM b = true ∧ ∃ f, (leftM D4 ks).files[pl (leftM D4 ks).files manN]? = some f ∧ f.bytes = maF b) := by
        have h9 := kept_there HF5.out.on HK5.out.1
        exact ⟨h9.1, (H5.out.2.2.2 rfl).1, h9.2⟩
      clear H5 HS
      have HGE : Hid _ := mget_good H6.out.is H6.out.ok HL.out.1 b HMb.out HL.out.2.1 HL.out.2.2
      go_wp2_with fail
      refine Calls.mono HGE.out ?_
      rintro e w7 ⟨rfl, hb7⟩
      obtain ⟨W8, eW8⟩ : ∃ W8, W8 = w7.alloc (.cells #[.int .u32 b.boot, .int .u32 b.acc, .int .u32 b.cur, .int .i64 b.snap, .int .i64 b.log] 24) := ⟨_, rfl⟩
      have hb8 : Below w7.heap.size w7 W8 := by rw [eW8]; exact one_allocK _ _
      have r8 : W8.heap[w7.heap.size]? = some (.cells #[.int .u32 b.boot, .int .u32 b.acc, .int .u32 b.cur, .int .i64 b.snap, .int .i64 b.log] 24 (0, 0)) := by rw [eW8]; exact heap_alloc_new w7 _
      have H8 : Hid (Run V p W8 fv4 ms6 (leftM D4 ks) 9) := (H6.out.later hb7).later hb8
      have rz8 := HBX.out W8 H8.out.bel
      have q0 := cell_of_row W8 _ 0 _ _ _ r8
      have q1 := cell_of_row W8 _ 1 _ _ _ r8
      have q2 := cell_of_row W8 _ 2 _ _ _ r8
      have q3 := cell_of_row W8 _ 3 _ _ _ r8
      have q4 := cell_of_row W8 _ 4 _ _ _ r8
      simp only [List.getElem?_toArray, List.getElem?_cons_zero, List.getElem?_cons_succ] at q0 q1 q2 q3 q4
      have z0 := cell_of_row W8 _ 0 _ _ _ rz8
      have z1 := cell_of_row W8 _ 1 _ _ _ rz8
      have z2 := cell_of_row W8 _ 2 _ _ _ rz8
      have z3 := cell_of_row W8 _ 3 _ _ _ rz8
      have z4 := cell_of_row W8 _ 4 _ _ _ rz8
      have z5 := cell_of_row W8 _ 5 _ _ _ rz8
      have z6 := cell_of_row W8 _ 6 _ _ _ rz8
      have z7 := cell_of_row W8 _ 7 _ _ _ rz8
      have z8 := cell_of_row W8 _ 8 _ _ _ rz8
      have z9 := cell_of_row W8 _ 9 _ _ _ rz8
      simp only [fallC, List.getElem?_toArray, List.getElem?_cons_zero, List.getElem?_cons_succ] at z0 z1 z2 z3 z4 z5 z6 z7 z8 z9
      have hl8 := lt_of_block r8
      have hlz8 := lt_of_block rz8
      have HE8 : Hid _ := eW8
      have hqx : ∀ W : World, (binOp .neq 24 (.agg #[.int .u32 b.boot, .int .u32 b.acc, .int .u32 b.cur, .int .i64 b.snap, .int .i64 b.log]) (.agg #[.int .u32 b.boot, .int .u32 b.acc, .int .u32 b.cur, .int .i64 b.snap, .int .i64 b.log])).run Try.prog W = .ok (.bool false) W := fun W => by
        have h9 := neqMan b b W
        rw [eqM_self] at h9
        exact h9
      have hqy : ∀ W : World, (binOp .neq 24 (.agg #[.int .u32 b.boot, .int .u32 b.acc, .int .u32 b.cur, .int .i64 b.snap, .int .i64 b.log]) (.agg #[.int .u32 a.boot, .int .u32 a.acc, .int .u32 a.cur, .int .i64 a.snap, .int .i64 a.log])).run Try.prog W = .ok (.bool (!eqM b a)) W := fun W => neqMan b a W
      clear hb7 hb8 r8 rz8 eW8 HGE H6
      go_upto_region 15 with fail
      rw [← HE8.out]
      clear HE8
      obtain ⟨bb, hbb⟩ : ∃ bb, bb = eqM b a := ⟨_, rfl⟩
      rw [← hbb] at hqy
      clear hbb
      cases bb
      · go_upto_region 19 with fail
        go_wp2_with fail
        refine Calls.mono (sample_m W8) ?_
        rintro e w9 ⟨rfl, hb9⟩
        have HP3 : Hid (Calls Try.prog 9 #[.pointer (some ⟨p, 0, none⟩), .agg #[.int .u32 3, .int .u32 2, .int .u32 1, .int .i64 4, .int .i64 5]] w9 fun e w' => e = .returned (.int .i64 0) ∧ Hid (∃ D6 fv6 ms6, Run V p w' fv6 ms6 D6 20 ∧ D6.files = [mF (maF smpM)] ∧ D6.on = true)) := third_put (H8.out.later hb9) HF5.out HK5.out
        clear hb9 H8 q0 q1 q2 q3 q4 z0 z1 z2 z3 z4 z5 z6 z7 z8 z9 hl8 hlz8
        go_wp2_with fail
        refine Calls.mono HP3.out ?_
        rintro e w10 ⟨rfl, HH6⟩
        obtain ⟨D6, fv6, ms6, hr6, hf6, ho6⟩ := HH6.out
        have HR6 : Hid (Run V p w10 fv6 ms6 D6 20 ∧ D6.files = [mF (maF smpM)]) := ⟨hr6, hf6⟩
        obtain ⟨t1, t2⟩ := there D6 ho6 (maF smpM) 38 hf6
        have HG6 : Hid _ := mget_good hr6.is hr6.ok t1 smpM smp_fits smp_may t2
        clear HP3 HH6 hr6 hf6 ho6 t1 t2
        go_wp2_with fail
        refine Calls.mono HG6.out ?_
        rintro e w11 ⟨rfl, hb11⟩
        obtain ⟨WA, eWA⟩ : ∃ WA, WA = w11.alloc (.cells #[.int .u32 3, .int .u32 2, .int .u32 1, .int .i64 4, .int .i64 5] 24) := ⟨_, rfl⟩
        have hbA : Below w11.heap.size w11 WA := by rw [eWA]; exact one_allocK _ _
        have rA : WA.heap[w11.heap.size]? = some (.cells #[.int .u32 3, .int .u32 2, .int .u32 1, .int .i64 4, .int .i64 5] 24 (0, 0)) := by rw [eWA]; exact heap_alloc_new w11 _
        have HA : Hid (Run V p WA fv6 ms6 D6 20 ∧ D6.files = [mF (maF smpM)]) := ⟨(HR6.out.1.later hb11).later hbA, HR6.out.2⟩
        have HEA : Hid _ := eWA
        obtain ⟨bn, hbn⟩ : ∃ bn, bn = w11.heap.size := ⟨_, rfl⟩
        rw [← hbn] at rA
        have k0 : WA.drew.cell? ⟨bn, 0, none⟩ = some (.int .u32 3) := cell_of_row WA _ 0 _ _ _ rA
        have k1 : WA.drew.cell? ⟨bn, 1, none⟩ = some (.int .u32 2) := cell_of_row WA _ 1 _ _ _ rA
        have k2 : WA.drew.cell? ⟨bn, 2, none⟩ = some (.int .u32 1) := cell_of_row WA _ 2 _ _ _ rA
        have k3 : WA.drew.cell? ⟨bn, 3, none⟩ = some (.int .i64 4) := cell_of_row WA _ 3 _ _ _ rA
        have k4 : WA.drew.cell? ⟨bn, 4, none⟩ = some (.int .i64 5) := cell_of_row WA _ 4 _ _ _ rA
        have hlb : bn < WA.heap.size := lt_of_block rA
        have HSN : Hid (Calls Try.prog 16 #[] WA.drew fun e w' => e = .returned (.agg #[.int .u32 3, .int .u32 2, .int .u32 1, .int .i64 4, .int .i64 5]) ∧ (w'.cell? ⟨bn, 0, none⟩ = some (.int .u32 3) ∧ w'.cell? ⟨bn, 1, none⟩ = some (.int .u32 2) ∧ w'.cell? ⟨bn, 2, none⟩ = some (.int .u32 1) ∧ w'.cell? ⟨bn, 3, none⟩ = some (.int .i64 4) ∧ w'.cell? ⟨bn, 4, none⟩ = some (.int .i64 5)) ∧ Hid (Below WA.heap.size WA w')) := by
          refine (sample_m WA.drew).mono ?_
          rintro e w' ⟨rfl, hb'⟩
          exact ⟨rfl, ⟨cell_later k0 hb' (Nat.le_refl _), cell_later k1 hb' (Nat.le_refl _), cell_later k2 hb' (Nat.le_refl _), cell_later k3 hb' (Nat.le_refl _), cell_later k4 hb' (Nat.le_refl _)⟩, Below.step (below_drewN (Below.refl _ _) 1) hb'⟩
        have HNM : Hid (∀ X : World, Hid (Below WA.heap.size WA X) → (X.cell? ⟨bn, 0, none⟩ = some (.int .u32 3) ∧ X.cell? ⟨bn, 1, none⟩ = some (.int .u32 2) ∧ X.cell? ⟨bn, 2, none⟩ = some (.int .u32 1) ∧ X.cell? ⟨bn, 3, none⟩ = some (.int .i64 4) ∧ X.cell? ⟨bn, 4, none⟩ = some (.int .i64 5)) → Calls Try.prog 17 #[.pointer (some ⟨p, 0, none⟩)] X fun e w' => e = .returned (.slice (some ⟨X.heap.size, 0, none⟩) 1 1) ∧ (w'.cell? ⟨bn, 0, none⟩ = some (.int .u32 3) ∧ w'.cell? ⟨bn, 1, none⟩ = some (.int .u32 2) ∧ w'.cell? ⟨bn, 2, none⟩ = some (.int .u32 1) ∧ w'.cell? ⟨bn, 3, none⟩ = some (.int .i64 4) ∧ w'.cell? ⟨bn, 4, none⟩ = some (.int .i64 5)) ∧ Hid (Below w.heap.size w w')) := fun X hX hc => by
          have hr := HA.out.1.later hX.out
          have h9 := dNames_any hr.is hr.ok
          rw [HA.out.2] at h9
          refine h9.mono ?_
          rintro e w' ⟨rfl, _, hb'⟩
          obtain ⟨j0, j1, j2, j3, j4⟩ := hc
          exact ⟨rfl, ⟨cell_later j0 hb' (Nat.le_refl _), cell_later j1 hb' (Nat.le_refl _), cell_later j2 hb' (Nat.le_refl _), cell_later j3 hb' (Nat.le_refl _), cell_later j4 hb' (Nat.le_refl _)⟩, Below.step (Below.step HV.out.1 hr.bel) hb'⟩
        have hq2 : ∀ W : World, (binOp .eql 24 (.agg #[.int .u32 3, .int .u32 2, .int .u32 1, .int .i64 4, .int .i64 5]) (.agg #[.int .u32 3, .int .u32 2, .int .u32 1, .int .i64 4, .int .i64 5])).run Try.prog W = .ok (.bool true) W := fun W => by
          have h9 := eqMan smpM smpM W
          rw [eqM_self] at h9
          exact h9
        clear hb11 hbA rA eWA HG6 HR6 HA
        go_upto_region 21 with fail
        rw [← HEA.out, ← hbn]
        clear hbn HEA
        refine wp_region_held_drew (S := (fun w' => w'.cell? ⟨bn, 0, none⟩ = some (.int .u32 3) ∧ w'.cell? ⟨bn, 1, none⟩ = some (.int .u32 2) ∧ w'.cell? ⟨bn, 2, none⟩ = some (.int .u32 1) ∧ w'.cell? ⟨bn, 3, none⟩ = some (.int .i64 4) ∧ w'.cell? ⟨bn, 4, none⟩ = some (.int .i64 5))) (by kernel_rfl) ?_ (fun hHeld => ?_)
        · exact ⟨k0, k1, k2, k3, k4⟩
        refine wpAnyH_take (i := 0) (oi := { dst := some 114, op := Op.move (Operand.tmp 11), type := 30, pos := "law.go:201", after := #[], guard := none }) (v := ?_) rfl (by kernel_rfl) (by kernel_rfl) (by kernel_rfl) (fun _ _ _ h => h) (Or.inl ⟨by rfl, ?_⟩) (by assumption) ?_
        rotate_left
        · (intro w hSw; (try dsimp only at hSw); go_simp) <;> with_reducible rfl
        try simp only [Act.put, List.setIfInBounds_toArray, List.set_cons_zero, List.set_cons_succ]
        refine wpAnyH_take (i := 1) (oi := { dst := some 115, op := Op.binOp BinOp.eql 30 (Operand.tmp 114) (Operand.const (Value.int IntKind.i64 0)) 30, type := 4, pos := "law.go:201", after := #[{ on := 0, ground := Ground.data }], guard := none }) (v := ?_) rfl (by kernel_rfl) (by kernel_rfl) (by kernel_rfl) (fun _ _ _ h => h) (Or.inl ⟨by rfl, ?_⟩) (by assumption) ?_
        rotate_left
        · (intro w hSw; (try dsimp only at hSw); go_simp) <;> with_reducible rfl
        try simp only [Act.put, List.setIfInBounds_toArray, List.set_cons_zero, List.set_cons_succ]
        refine wpAnyH_take (i := 2) (oi := { dst := some 116, op := Op.move (Operand.tmp 115), type := 4, pos := "law.go:201", after := #[{ on := 1, ground := Ground.data }], guard := none }) (v := ?_) rfl (by kernel_rfl) (by kernel_rfl) (by kernel_rfl) (fun _ _ _ h => h) (Or.inl ⟨by rfl, ?_⟩) (by assumption) ?_
        rotate_left
        · (intro w hSw; (try dsimp only at hSw); go_simp) <;> with_reducible rfl
        try simp only [Act.put, List.setIfInBounds_toArray, List.set_cons_zero, List.set_cons_succ]
        refine wpAnyH_take (i := 3) (oi := { dst := some 117, op := Op.move (Operand.tmp 14), type := 30, pos := "law.go:201", after := #[{ on := 2, ground := Ground.guard }], guard := some (2, true) }) (v := ?_) rfl (by kernel_rfl) (by kernel_rfl) (by kernel_rfl) (fun _ _ _ h => h) (Or.inl ⟨by rfl, ?_⟩) (by assumption) ?_
        rotate_left
        · (intro w hSw; (try dsimp only at hSw); go_simp) <;> with_reducible rfl
        try simp only [Act.put, List.setIfInBounds_toArray, List.set_cons_zero, List.set_cons_succ]
        refine wpAnyH_take (i := 4) (oi := { dst := some 118, op := Op.binOp BinOp.eql 30 (Operand.tmp 117) (Operand.const (Value.int IntKind.i64 0)) 30, type := 4, pos := "law.go:201", after := #[{ on := 3, ground := Ground.data }, { on := 2, ground := Ground.guard }], guard := some (2, true) }) (v := ?_) rfl (by kernel_rfl) (by kernel_rfl) (by kernel_rfl) (fun _ _ _ h => h) (Or.inl ⟨by rfl, ?_⟩) (by assumption) ?_
        rotate_left
        · (intro w hSw; (try dsimp only at hSw); go_simp) <;> with_reducible rfl
        try simp only [Act.put, List.setIfInBounds_toArray, List.set_cons_zero, List.set_cons_succ]
        refine wpAnyH_take (i := 5) (oi := { dst := some 119, op := Op.pick (Operand.tmp 116) (Operand.tmp 118) (Operand.const (Value.bool false)), type := 4, pos := "law.go:201", after := #[{ on := 2, ground := Ground.data }, { on := 4, ground := Ground.data }], guard := none }) (v := ?_) rfl (by kernel_rfl) (by kernel_rfl) (by kernel_rfl) (fun _ _ _ h => h) (Or.inl ⟨by rfl, ?_⟩) (by assumption) ?_
        rotate_left
        · (intro w hSw; (try dsimp only at hSw); go_simp) <;> with_reducible rfl
        try simp only [Act.put, List.setIfInBounds_toArray, List.set_cons_zero, List.set_cons_succ]
        refine wpAnyH_take (i := 6) (oi := { dst := some 120, op := Op.move (Operand.tmp 119), type := 4, pos := "law.go:201", after := #[{ on := 5, ground := Ground.data }, { on := 2, ground := Ground.chain }], guard := none }) (v := ?_) rfl (by kernel_rfl) (by kernel_rfl) (by kernel_rfl) (fun _ _ _ h => h) (Or.inl ⟨by rfl, ?_⟩) (by assumption) ?_
        rotate_left
        · (intro w hSw; (try dsimp only at hSw); go_simp) <;> with_reducible rfl
        try simp only [Act.put, List.setIfInBounds_toArray, List.set_cons_zero, List.set_cons_succ]
        refine wpAnyH_take (i := 7) (oi := { dst := some 121, op := Op.move (Operand.tmp 13), type := 4, pos := "law.go:201", after := #[{ on := 6, ground := Ground.guard }], guard := some (6, true) }) (v := ?_) rfl (by kernel_rfl) (by kernel_rfl) (by kernel_rfl) (fun _ _ _ h => h) (Or.inl ⟨by rfl, ?_⟩) (by assumption) ?_
        rotate_left
        · (intro w hSw; (try dsimp only at hSw); go_simp) <;> with_reducible rfl
        try simp only [Act.put, List.setIfInBounds_toArray, List.set_cons_zero, List.set_cons_succ]
        refine wpAnyH_take (i := 8) (oi := { dst := some 122, op := Op.pick (Operand.tmp 120) (Operand.tmp 121) (Operand.const (Value.bool false)), type := 4, pos := "law.go:201", after := #[{ on := 6, ground := Ground.data }, { on := 7, ground := Ground.data }], guard := none }) (v := ?_) rfl (by kernel_rfl) (by kernel_rfl) (by kernel_rfl) (fun _ _ _ h => h) (Or.inl ⟨by rfl, ?_⟩) (by assumption) ?_
        rotate_left
        · (intro w hSw; (try dsimp only at hSw); go_simp) <;> with_reducible rfl
        try simp only [Act.put, List.setIfInBounds_toArray, List.set_cons_zero, List.set_cons_succ]
        refine wpAnyH_take (i := 9) (oi := { dst := some 123, op := Op.move (Operand.tmp 122), type := 4, pos := "law.go:201", after := #[{ on := 8, ground := Ground.data }, { on := 6, ground := Ground.chain }], guard := none }) (v := ?_) rfl (by kernel_rfl) (by kernel_rfl) (by kernel_rfl) (fun _ _ _ h => h) (Or.inl ⟨by rfl, ?_⟩) (by assumption) ?_
        rotate_left
        · (intro w hSw; (try dsimp only at hSw); go_simp) <;> with_reducible rfl
        try simp only [Act.put, List.setIfInBounds_toArray, List.set_cons_zero, List.set_cons_succ]
        refine wpAnyH_take (i := 10) (oi := { dst := some 124, op := Op.load 24 (Operand.tmp 12), type := 24, pos := "law.go:201", after := #[{ on := 9, ground := Ground.guard }], guard := some (9, true) }) (v := ?_) rfl (by kernel_rfl) (by kernel_rfl) (by kernel_rfl) (fun _ _ _ h => h) (Or.inl ⟨by rfl, ?_⟩) (by assumption) ?_
        rotate_left
        · (intro w hSw; (try dsimp only at hSw); go_simp) <;> with_reducible rfl
        try simp only [Act.put, List.setIfInBounds_toArray, List.set_cons_zero, List.set_cons_succ]
        refine wpAnyH_ready (rs := [11]) (by kernel_rfl) (by simp) ?_
        refine AllReadyH.cons (o := { dst := some 125, op := Op.call { callee := Callee.value (Operand.func 16), args := #[], argTypes := #[] }, type := 24, pos := "law.go:201", after := #[{ on := 9, ground := Ground.chain }, { on := 9, ground := Ground.guard }], guard := some (9, true) }) rfl (fun K hK => ?_) AllReadyH.nil
        go_simp
        refine Calls.mono HSN.out ?_
        rintro e wA ⟨rfl, hsA, HBA⟩
        refine hK.out _ _ hsA (fun hHeld => ?_)
        clear hK K
        refine wpAnyH_take (i := 12) (oi := { dst := some 126, op := Op.binOp BinOp.eql 24 (Operand.tmp 124) (Operand.tmp 125) 24, type := 4, pos := "law.go:201", after := #[{ on := 10, ground := Ground.data }, { on := 11, ground := Ground.data }, { on := 9, ground := Ground.guard }], guard := some (9, true) }) (v := ?_) rfl (by kernel_rfl) (by kernel_rfl) (by kernel_rfl) (fun _ _ _ h => h) (Or.inl ⟨by rfl, ?_⟩) (by assumption) ?_
        rotate_left
        · (intro w hSw; (try dsimp only at hSw); go_simp) <;> with_reducible rfl
        try simp only [Act.put, List.setIfInBounds_toArray, List.set_cons_zero, List.set_cons_succ]
        refine wpAnyH_take (i := 13) (oi := { dst := some 127, op := Op.pick (Operand.tmp 123) (Operand.tmp 126) (Operand.const (Value.bool false)), type := 4, pos := "law.go:201", after := #[{ on := 9, ground := Ground.data }, { on := 12, ground := Ground.data }], guard := none }) (v := ?_) rfl (by kernel_rfl) (by kernel_rfl) (by kernel_rfl) (fun _ _ _ h => h) (Or.inl ⟨by rfl, ?_⟩) (by assumption) ?_
        rotate_left
        · (intro w hSw; (try dsimp only at hSw); go_simp) <;> with_reducible rfl
        try simp only [Act.put, List.setIfInBounds_toArray, List.set_cons_zero, List.set_cons_succ]
        refine wpAnyH_take (i := 14) (oi := { dst := some 128, op := Op.move (Operand.tmp 127), type := 4, pos := "law.go:201", after := #[{ on := 13, ground := Ground.data }, { on := 11, ground := Ground.chain }], guard := none }) (v := ?_) rfl (by kernel_rfl) (by kernel_rfl) (by kernel_rfl) (fun _ _ _ h => h) (Or.inl ⟨by rfl, ?_⟩) (by assumption) ?_
        rotate_left
        · (intro w hSw; (try dsimp only at hSw); go_simp) <;> with_reducible rfl
        try simp only [Act.put, List.setIfInBounds_toArray, List.set_cons_zero, List.set_cons_succ]
        refine wpAnyH_take (i := 15) (oi := { dst := some 129, op := Op.move (Operand.tmp 4), type := 29, pos := "law.go:201", after := #[{ on := 14, ground := Ground.guard }], guard := some (14, true) }) (v := ?_) rfl (by kernel_rfl) (by kernel_rfl) (by kernel_rfl) (fun _ _ _ h => h) (Or.inl ⟨by rfl, ?_⟩) (by assumption) ?_
        rotate_left
        · (intro w hSw; (try dsimp only at hSw); go_simp) <;> with_reducible rfl
        try simp only [Act.put, List.setIfInBounds_toArray, List.set_cons_zero, List.set_cons_succ]
        refine wpAnyH_ready (rs := [16]) (by kernel_rfl) (by simp) ?_
        refine AllReadyH.cons (o := { dst := some 130, op := Op.call { callee := Callee.value (Operand.func 17), args := #[Operand.tmp 129], argTypes := #[29] }, type := 41, pos := "law.go:201", after := #[{ on := 15, ground := Ground.data }, { on := 14, ground := Ground.chain }, { on := 14, ground := Ground.guard }], guard := some (14, true) }) rfl (fun K hK => ?_) AllReadyH.nil
        go_simp
        refine Calls.mono (HNM.out _ HBA hHeld) ?_
        rintro e wB ⟨rfl, hsB, HBB⟩
        refine hK.out _ _ hsB (fun hHeld => ?_)
        clear hK K
        refine wpAnyH_take (i := 17) (oi := { dst := some 131, op := Op.call { callee := Callee.builtin Builtin.len, args := #[Operand.tmp 130], argTypes := #[41] }, type := 3, pos := "law.go:201", after := #[{ on := 16, ground := Ground.data }, { on := 14, ground := Ground.guard }], guard := some (14, true) }) (v := ?_) rfl (by kernel_rfl) (by kernel_rfl) (by kernel_rfl) (fun _ _ _ h => h) (Or.inl ⟨by rfl, ?_⟩) (by assumption) ?_
        rotate_left
        · (intro w hSw; (try dsimp only at hSw); go_simp) <;> with_reducible rfl
        try simp only [Act.put, List.setIfInBounds_toArray, List.set_cons_zero, List.set_cons_succ]
        refine wpAnyH_take (i := 18) (oi := { dst := some 132, op := Op.binOp BinOp.eql 3 (Operand.tmp 131) (Operand.const (Value.int IntKind.i64 1)) 3, type := 4, pos := "law.go:201", after := #[{ on := 17, ground := Ground.data }, { on := 14, ground := Ground.guard }], guard := some (14, true) }) (v := ?_) rfl (by kernel_rfl) (by kernel_rfl) (by kernel_rfl) (fun _ _ _ h => h) (Or.inl ⟨by rfl, ?_⟩) (by assumption) ?_
        rotate_left
        · (intro w hSw; (try dsimp only at hSw); go_simp) <;> with_reducible rfl
        try simp only [Act.put, List.setIfInBounds_toArray, List.set_cons_zero, List.set_cons_succ]
        refine wpAnyH_take (i := 19) (oi := { dst := some 133, op := Op.pick (Operand.tmp 128) (Operand.tmp 132) (Operand.const (Value.bool false)), type := 4, pos := "law.go:201", after := #[{ on := 14, ground := Ground.data }, { on := 18, ground := Ground.data }], guard := none }) (v := ?_) rfl (by kernel_rfl) (by kernel_rfl) (by kernel_rfl) (fun _ _ _ h => h) (Or.inl ⟨by rfl, ?_⟩) (by assumption) ?_
        rotate_left
        · (intro w hSw; (try dsimp only at hSw); go_simp) <;> with_reducible rfl
        try simp only [Act.put, List.setIfInBounds_toArray, List.set_cons_zero, List.set_cons_succ]
        refine wpAnyH_take (i := 20) (oi := { dst := some 2, op := Op.assign (Operand.tmp 133), type := 4, pos := "law.go:201", after := #[{ on := 19, ground := Ground.data }, { on := 16, ground := Ground.chain }, { on := 0, ground := Ground.phase }, { on := 1, ground := Ground.phase }, { on := 2, ground := Ground.phase }, { on := 3, ground := Ground.phase }, { on := 4, ground := Ground.phase }, { on := 5, ground := Ground.phase }, { on := 6, ground := Ground.phase }, { on := 7, ground := Ground.phase }, { on := 8, ground := Ground.phase }, { on := 9, ground := Ground.phase }, { on := 10, ground := Ground.phase }, { on := 11, ground := Ground.phase }, { on := 12, ground := Ground.phase }, { on := 13, ground := Ground.phase }, { on := 14, ground := Ground.phase }, { on := 15, ground := Ground.phase }, { on := 16, ground := Ground.phase }, { on := 17, ground := Ground.phase }, { on := 18, ground := Ground.phase }, { on := 19, ground := Ground.phase }], guard := none }) (v := ?_) rfl (by kernel_rfl) (by kernel_rfl) (by kernel_rfl) (fun _ _ _ h => h) (Or.inl ⟨by rfl, ?_⟩) (by assumption) ?_
        rotate_left
        · (intro w hSw; (try dsimp only at hSw); go_simp) <;> with_reducible rfl
        try simp only [Act.put, List.setIfInBounds_toArray, List.set_cons_zero, List.set_cons_succ]
        refine wpAnyH_done (by kernel_rfl) ?_ _
        go_wp2_with fail
        go_ret
        exact ⟨rfl, HBB.out⟩
      · go_upto_region 19 with fail
        go_wp2_with fail
        refine Calls.mono (sample_m W8) ?_
        rintro e w9 ⟨rfl, hb9⟩
        have HP3 : Hid (Calls Try.prog 9 #[.pointer (some ⟨p, 0, none⟩), .agg #[.int .u32 3, .int .u32 2, .int .u32 1, .int .i64 4, .int .i64 5]] w9 fun e w' => e = .returned (.int .i64 0) ∧ Hid (∃ D6 fv6 ms6, Run V p w' fv6 ms6 D6 20 ∧ D6.files = [mF (maF smpM)] ∧ D6.on = true)) := third_put (H8.out.later hb9) HF5.out HK5.out
        clear hb9 H8 q0 q1 q2 q3 q4 z0 z1 z2 z3 z4 z5 z6 z7 z8 z9 hl8 hlz8
        go_wp2_with fail
        refine Calls.mono HP3.out ?_
        rintro e w10 ⟨rfl, HH6⟩
        obtain ⟨D6, fv6, ms6, hr6, hf6, ho6⟩ := HH6.out
        have HR6 : Hid (Run V p w10 fv6 ms6 D6 20 ∧ D6.files = [mF (maF smpM)]) := ⟨hr6, hf6⟩
        obtain ⟨t1, t2⟩ := there D6 ho6 (maF smpM) 38 hf6
        have HG6 : Hid _ := mget_good hr6.is hr6.ok t1 smpM smp_fits smp_may t2
        clear HP3 HH6 hr6 hf6 ho6 t1 t2
        go_wp2_with fail
        refine Calls.mono HG6.out ?_
        rintro e w11 ⟨rfl, hb11⟩
        obtain ⟨WA, eWA⟩ : ∃ WA, WA = w11.alloc (.cells #[.int .u32 3, .int .u32 2, .int .u32 1, .int .i64 4, .int .i64 5] 24) := ⟨_, rfl⟩
        have hbA : Below w11.heap.size w11 WA := by rw [eWA]; exact one_allocK _ _
        have rA : WA.heap[w11.heap.size]? = some (.cells #[.int .u32 3, .int .u32 2, .int .u32 1, .int .i64 4, .int .i64 5] 24 (0, 0)) := by rw [eWA]; exact heap_alloc_new w11 _
        have HA : Hid (Run V p WA fv6 ms6 D6 20 ∧ D6.files = [mF (maF smpM)]) := ⟨(HR6.out.1.later hb11).later hbA, HR6.out.2⟩
        have HEA : Hid _ := eWA
        obtain ⟨bn, hbn⟩ : ∃ bn, bn = w11.heap.size := ⟨_, rfl⟩
        rw [← hbn] at rA
        have k0 : WA.drew.cell? ⟨bn, 0, none⟩ = some (.int .u32 3) := cell_of_row WA _ 0 _ _ _ rA
        have k1 : WA.drew.cell? ⟨bn, 1, none⟩ = some (.int .u32 2) := cell_of_row WA _ 1 _ _ _ rA
        have k2 : WA.drew.cell? ⟨bn, 2, none⟩ = some (.int .u32 1) := cell_of_row WA _ 2 _ _ _ rA
        have k3 : WA.drew.cell? ⟨bn, 3, none⟩ = some (.int .i64 4) := cell_of_row WA _ 3 _ _ _ rA
        have k4 : WA.drew.cell? ⟨bn, 4, none⟩ = some (.int .i64 5) := cell_of_row WA _ 4 _ _ _ rA
        have hlb : bn < WA.heap.size := lt_of_block rA
        have HSN : Hid (Calls Try.prog 16 #[] WA.drew fun e w' => e = .returned (.agg #[.int .u32 3, .int .u32 2, .int .u32 1, .int .i64 4, .int .i64 5]) ∧ (w'.cell? ⟨bn, 0, none⟩ = some (.int .u32 3) ∧ w'.cell? ⟨bn, 1, none⟩ = some (.int .u32 2) ∧ w'.cell? ⟨bn, 2, none⟩ = some (.int .u32 1) ∧ w'.cell? ⟨bn, 3, none⟩ = some (.int .i64 4) ∧ w'.cell? ⟨bn, 4, none⟩ = some (.int .i64 5)) ∧ Hid (Below WA.heap.size WA w')) := by
          refine (sample_m WA.drew).mono ?_
          rintro e w' ⟨rfl, hb'⟩
          exact ⟨rfl, ⟨cell_later k0 hb' (Nat.le_refl _), cell_later k1 hb' (Nat.le_refl _), cell_later k2 hb' (Nat.le_refl _), cell_later k3 hb' (Nat.le_refl _), cell_later k4 hb' (Nat.le_refl _)⟩, Below.step (below_drewN (Below.refl _ _) 1) hb'⟩
        have HNM : Hid (∀ X : World, Hid (Below WA.heap.size WA X) → (X.cell? ⟨bn, 0, none⟩ = some (.int .u32 3) ∧ X.cell? ⟨bn, 1, none⟩ = some (.int .u32 2) ∧ X.cell? ⟨bn, 2, none⟩ = some (.int .u32 1) ∧ X.cell? ⟨bn, 3, none⟩ = some (.int .i64 4) ∧ X.cell? ⟨bn, 4, none⟩ = some (.int .i64 5)) → Calls Try.prog 17 #[.pointer (some ⟨p, 0, none⟩)] X fun e w' => e = .returned (.slice (some ⟨X.heap.size, 0, none⟩) 1 1) ∧ (w'.cell? ⟨bn, 0, none⟩ = some (.int .u32 3) ∧ w'.cell? ⟨bn, 1, none⟩ = some (.int .u32 2) ∧ w'.cell? ⟨bn, 2, none⟩ = some (.int .u32 1) ∧ w'.cell? ⟨bn, 3, none⟩ = some (.int .i64 4) ∧ w'.cell? ⟨bn, 4, none⟩ = some (.int .i64 5)) ∧ Hid (Below w.heap.size w w')) := fun X hX hc => by
          have hr := HA.out.1.later hX.out
          have h9 := dNames_any hr.is hr.ok
          rw [HA.out.2] at h9
          refine h9.mono ?_
          rintro e w' ⟨rfl, _, hb'⟩
          obtain ⟨j0, j1, j2, j3, j4⟩ := hc
          exact ⟨rfl, ⟨cell_later j0 hb' (Nat.le_refl _), cell_later j1 hb' (Nat.le_refl _), cell_later j2 hb' (Nat.le_refl _), cell_later j3 hb' (Nat.le_refl _), cell_later j4 hb' (Nat.le_refl _)⟩, Below.step (Below.step HV.out.1 hr.bel) hb'⟩
        have hq2 : ∀ W : World, (binOp .eql 24 (.agg #[.int .u32 3, .int .u32 2, .int .u32 1, .int .i64 4, .int .i64 5]) (.agg #[.int .u32 3, .int .u32 2, .int .u32 1, .int .i64 4, .int .i64 5])).run Try.prog W = .ok (.bool true) W := fun W => by
          have h9 := eqMan smpM smpM W
          rw [eqM_self] at h9
          exact h9
        clear hb11 hbA rA eWA HG6 HR6 HA
        go_upto_region 21 with fail
        rw [← HEA.out, ← hbn]
        clear hbn HEA
        refine wp_region_held_drew (S := (fun w' => w'.cell? ⟨bn, 0, none⟩ = some (.int .u32 3) ∧ w'.cell? ⟨bn, 1, none⟩ = some (.int .u32 2) ∧ w'.cell? ⟨bn, 2, none⟩ = some (.int .u32 1) ∧ w'.cell? ⟨bn, 3, none⟩ = some (.int .i64 4) ∧ w'.cell? ⟨bn, 4, none⟩ = some (.int .i64 5))) (by kernel_rfl) ?_ (fun hHeld => ?_)
        · exact ⟨k0, k1, k2, k3, k4⟩
        refine wpAnyH_take (i := 0) (oi := { dst := some 114, op := Op.move (Operand.tmp 11), type := 30, pos := "law.go:201", after := #[], guard := none }) (v := ?_) rfl (by kernel_rfl) (by kernel_rfl) (by kernel_rfl) (fun _ _ _ h => h) (Or.inl ⟨by rfl, ?_⟩) (by assumption) ?_
        rotate_left
        · (intro w hSw; (try dsimp only at hSw); go_simp) <;> with_reducible rfl
        try simp only [Act.put, List.setIfInBounds_toArray, List.set_cons_zero, List.set_cons_succ]
        refine wpAnyH_take (i := 1) (oi := { dst := some 115, op := Op.binOp BinOp.eql 30 (Operand.tmp 114) (Operand.const (Value.int IntKind.i64 0)) 30, type := 4, pos := "law.go:201", after := #[{ on := 0, ground := Ground.data }], guard := none }) (v := ?_) rfl (by kernel_rfl) (by kernel_rfl) (by kernel_rfl) (fun _ _ _ h => h) (Or.inl ⟨by rfl, ?_⟩) (by assumption) ?_
        rotate_left
        · (intro w hSw; (try dsimp only at hSw); go_simp) <;> with_reducible rfl
        try simp only [Act.put, List.setIfInBounds_toArray, List.set_cons_zero, List.set_cons_succ]
        refine wpAnyH_take (i := 2) (oi := { dst := some 116, op := Op.move (Operand.tmp 115), type := 4, pos := "law.go:201", after := #[{ on := 1, ground := Ground.data }], guard := none }) (v := ?_) rfl (by kernel_rfl) (by kernel_rfl) (by kernel_rfl) (fun _ _ _ h => h) (Or.inl ⟨by rfl, ?_⟩) (by assumption) ?_
        rotate_left
        · (intro w hSw; (try dsimp only at hSw); go_simp) <;> with_reducible rfl
        try simp only [Act.put, List.setIfInBounds_toArray, List.set_cons_zero, List.set_cons_succ]
        refine wpAnyH_take (i := 3) (oi := { dst := some 117, op := Op.move (Operand.tmp 14), type := 30, pos := "law.go:201", after := #[{ on := 2, ground := Ground.guard }], guard := some (2, true) }) (v := ?_) rfl (by kernel_rfl) (by kernel_rfl) (by kernel_rfl) (fun _ _ _ h => h) (Or.inl ⟨by rfl, ?_⟩) (by assumption) ?_
        rotate_left
        · (intro w hSw; (try dsimp only at hSw); go_simp) <;> with_reducible rfl
        try simp only [Act.put, List.setIfInBounds_toArray, List.set_cons_zero, List.set_cons_succ]
        refine wpAnyH_take (i := 4) (oi := { dst := some 118, op := Op.binOp BinOp.eql 30 (Operand.tmp 117) (Operand.const (Value.int IntKind.i64 0)) 30, type := 4, pos := "law.go:201", after := #[{ on := 3, ground := Ground.data }, { on := 2, ground := Ground.guard }], guard := some (2, true) }) (v := ?_) rfl (by kernel_rfl) (by kernel_rfl) (by kernel_rfl) (fun _ _ _ h => h) (Or.inl ⟨by rfl, ?_⟩) (by assumption) ?_
        rotate_left
        · (intro w hSw; (try dsimp only at hSw); go_simp) <;> with_reducible rfl
        try simp only [Act.put, List.setIfInBounds_toArray, List.set_cons_zero, List.set_cons_succ]
        refine wpAnyH_take (i := 5) (oi := { dst := some 119, op := Op.pick (Operand.tmp 116) (Operand.tmp 118) (Operand.const (Value.bool false)), type := 4, pos := "law.go:201", after := #[{ on := 2, ground := Ground.data }, { on := 4, ground := Ground.data }], guard := none }) (v := ?_) rfl (by kernel_rfl) (by kernel_rfl) (by kernel_rfl) (fun _ _ _ h => h) (Or.inl ⟨by rfl, ?_⟩) (by assumption) ?_
        rotate_left
        · (intro w hSw; (try dsimp only at hSw); go_simp) <;> with_reducible rfl
        try simp only [Act.put, List.setIfInBounds_toArray, List.set_cons_zero, List.set_cons_succ]
        refine wpAnyH_take (i := 6) (oi := { dst := some 120, op := Op.move (Operand.tmp 119), type := 4, pos := "law.go:201", after := #[{ on := 5, ground := Ground.data }, { on := 2, ground := Ground.chain }], guard := none }) (v := ?_) rfl (by kernel_rfl) (by kernel_rfl) (by kernel_rfl) (fun _ _ _ h => h) (Or.inl ⟨by rfl, ?_⟩) (by assumption) ?_
        rotate_left
        · (intro w hSw; (try dsimp only at hSw); go_simp) <;> with_reducible rfl
        try simp only [Act.put, List.setIfInBounds_toArray, List.set_cons_zero, List.set_cons_succ]
        refine wpAnyH_take (i := 7) (oi := { dst := some 121, op := Op.move (Operand.tmp 13), type := 4, pos := "law.go:201", after := #[{ on := 6, ground := Ground.guard }], guard := some (6, true) }) (v := ?_) rfl (by kernel_rfl) (by kernel_rfl) (by kernel_rfl) (fun _ _ _ h => h) (Or.inl ⟨by rfl, ?_⟩) (by assumption) ?_
        rotate_left
        · (intro w hSw; (try dsimp only at hSw); go_simp) <;> with_reducible rfl
        try simp only [Act.put, List.setIfInBounds_toArray, List.set_cons_zero, List.set_cons_succ]
        refine wpAnyH_take (i := 8) (oi := { dst := some 122, op := Op.pick (Operand.tmp 120) (Operand.tmp 121) (Operand.const (Value.bool false)), type := 4, pos := "law.go:201", after := #[{ on := 6, ground := Ground.data }, { on := 7, ground := Ground.data }], guard := none }) (v := ?_) rfl (by kernel_rfl) (by kernel_rfl) (by kernel_rfl) (fun _ _ _ h => h) (Or.inl ⟨by rfl, ?_⟩) (by assumption) ?_
        rotate_left
        · (intro w hSw; (try dsimp only at hSw); go_simp) <;> with_reducible rfl
        try simp only [Act.put, List.setIfInBounds_toArray, List.set_cons_zero, List.set_cons_succ]
        refine wpAnyH_take (i := 9) (oi := { dst := some 123, op := Op.move (Operand.tmp 122), type := 4, pos := "law.go:201", after := #[{ on := 8, ground := Ground.data }, { on := 6, ground := Ground.chain }], guard := none }) (v := ?_) rfl (by kernel_rfl) (by kernel_rfl) (by kernel_rfl) (fun _ _ _ h => h) (Or.inl ⟨by rfl, ?_⟩) (by assumption) ?_
        rotate_left
        · (intro w hSw; (try dsimp only at hSw); go_simp) <;> with_reducible rfl
        try simp only [Act.put, List.setIfInBounds_toArray, List.set_cons_zero, List.set_cons_succ]
        refine wpAnyH_take (i := 10) (oi := { dst := some 124, op := Op.load 24 (Operand.tmp 12), type := 24, pos := "law.go:201", after := #[{ on := 9, ground := Ground.guard }], guard := some (9, true) }) (v := ?_) rfl (by kernel_rfl) (by kernel_rfl) (by kernel_rfl) (fun _ _ _ h => h) (Or.inl ⟨by rfl, ?_⟩) (by assumption) ?_
        rotate_left
        · (intro w hSw; (try dsimp only at hSw); go_simp) <;> with_reducible rfl
        try simp only [Act.put, List.setIfInBounds_toArray, List.set_cons_zero, List.set_cons_succ]
        refine wpAnyH_ready (rs := [11]) (by kernel_rfl) (by simp) ?_
        refine AllReadyH.cons (o := { dst := some 125, op := Op.call { callee := Callee.value (Operand.func 16), args := #[], argTypes := #[] }, type := 24, pos := "law.go:201", after := #[{ on := 9, ground := Ground.chain }, { on := 9, ground := Ground.guard }], guard := some (9, true) }) rfl (fun K hK => ?_) AllReadyH.nil
        go_simp
        refine Calls.mono HSN.out ?_
        rintro e wA ⟨rfl, hsA, HBA⟩
        refine hK.out _ _ hsA (fun hHeld => ?_)
        clear hK K
        refine wpAnyH_take (i := 12) (oi := { dst := some 126, op := Op.binOp BinOp.eql 24 (Operand.tmp 124) (Operand.tmp 125) 24, type := 4, pos := "law.go:201", after := #[{ on := 10, ground := Ground.data }, { on := 11, ground := Ground.data }, { on := 9, ground := Ground.guard }], guard := some (9, true) }) (v := ?_) rfl (by kernel_rfl) (by kernel_rfl) (by kernel_rfl) (fun _ _ _ h => h) (Or.inl ⟨by rfl, ?_⟩) (by assumption) ?_
        rotate_left
        · (intro w hSw; (try dsimp only at hSw); go_simp) <;> with_reducible rfl
        try simp only [Act.put, List.setIfInBounds_toArray, List.set_cons_zero, List.set_cons_succ]
        refine wpAnyH_take (i := 13) (oi := { dst := some 127, op := Op.pick (Operand.tmp 123) (Operand.tmp 126) (Operand.const (Value.bool false)), type := 4, pos := "law.go:201", after := #[{ on := 9, ground := Ground.data }, { on := 12, ground := Ground.data }], guard := none }) (v := ?_) rfl (by kernel_rfl) (by kernel_rfl) (by kernel_rfl) (fun _ _ _ h => h) (Or.inl ⟨by rfl, ?_⟩) (by assumption) ?_
        rotate_left
        · (intro w hSw; (try dsimp only at hSw); go_simp) <;> with_reducible rfl
        try simp only [Act.put, List.setIfInBounds_toArray, List.set_cons_zero, List.set_cons_succ]
        refine wpAnyH_take (i := 14) (oi := { dst := some 128, op := Op.move (Operand.tmp 127), type := 4, pos := "law.go:201", after := #[{ on := 13, ground := Ground.data }, { on := 11, ground := Ground.chain }], guard := none }) (v := ?_) rfl (by kernel_rfl) (by kernel_rfl) (by kernel_rfl) (fun _ _ _ h => h) (Or.inl ⟨by rfl, ?_⟩) (by assumption) ?_
        rotate_left
        · (intro w hSw; (try dsimp only at hSw); go_simp) <;> with_reducible rfl
        try simp only [Act.put, List.setIfInBounds_toArray, List.set_cons_zero, List.set_cons_succ]
        refine wpAnyH_take (i := 15) (oi := { dst := some 129, op := Op.move (Operand.tmp 4), type := 29, pos := "law.go:201", after := #[{ on := 14, ground := Ground.guard }], guard := some (14, true) }) (v := ?_) rfl (by kernel_rfl) (by kernel_rfl) (by kernel_rfl) (fun _ _ _ h => h) (Or.inl ⟨by rfl, ?_⟩) (by assumption) ?_
        rotate_left
        · (intro w hSw; (try dsimp only at hSw); go_simp) <;> with_reducible rfl
        try simp only [Act.put, List.setIfInBounds_toArray, List.set_cons_zero, List.set_cons_succ]
        refine wpAnyH_ready (rs := [16]) (by kernel_rfl) (by simp) ?_
        refine AllReadyH.cons (o := { dst := some 130, op := Op.call { callee := Callee.value (Operand.func 17), args := #[Operand.tmp 129], argTypes := #[29] }, type := 41, pos := "law.go:201", after := #[{ on := 15, ground := Ground.data }, { on := 14, ground := Ground.chain }, { on := 14, ground := Ground.guard }], guard := some (14, true) }) rfl (fun K hK => ?_) AllReadyH.nil
        go_simp
        refine Calls.mono (HNM.out _ HBA hHeld) ?_
        rintro e wB ⟨rfl, hsB, HBB⟩
        refine hK.out _ _ hsB (fun hHeld => ?_)
        clear hK K
        refine wpAnyH_take (i := 17) (oi := { dst := some 131, op := Op.call { callee := Callee.builtin Builtin.len, args := #[Operand.tmp 130], argTypes := #[41] }, type := 3, pos := "law.go:201", after := #[{ on := 16, ground := Ground.data }, { on := 14, ground := Ground.guard }], guard := some (14, true) }) (v := ?_) rfl (by kernel_rfl) (by kernel_rfl) (by kernel_rfl) (fun _ _ _ h => h) (Or.inl ⟨by rfl, ?_⟩) (by assumption) ?_
        rotate_left
        · (intro w hSw; (try dsimp only at hSw); go_simp) <;> with_reducible rfl
        try simp only [Act.put, List.setIfInBounds_toArray, List.set_cons_zero, List.set_cons_succ]
        refine wpAnyH_take (i := 18) (oi := { dst := some 132, op := Op.binOp BinOp.eql 3 (Operand.tmp 131) (Operand.const (Value.int IntKind.i64 1)) 3, type := 4, pos := "law.go:201", after := #[{ on := 17, ground := Ground.data }, { on := 14, ground := Ground.guard }], guard := some (14, true) }) (v := ?_) rfl (by kernel_rfl) (by kernel_rfl) (by kernel_rfl) (fun _ _ _ h => h) (Or.inl ⟨by rfl, ?_⟩) (by assumption) ?_
        rotate_left
        · (intro w hSw; (try dsimp only at hSw); go_simp) <;> with_reducible rfl
        try simp only [Act.put, List.setIfInBounds_toArray, List.set_cons_zero, List.set_cons_succ]
        refine wpAnyH_take (i := 19) (oi := { dst := some 133, op := Op.pick (Operand.tmp 128) (Operand.tmp 132) (Operand.const (Value.bool false)), type := 4, pos := "law.go:201", after := #[{ on := 14, ground := Ground.data }, { on := 18, ground := Ground.data }], guard := none }) (v := ?_) rfl (by kernel_rfl) (by kernel_rfl) (by kernel_rfl) (fun _ _ _ h => h) (Or.inl ⟨by rfl, ?_⟩) (by assumption) ?_
        rotate_left
        · (intro w hSw; (try dsimp only at hSw); go_simp) <;> with_reducible rfl
        try simp only [Act.put, List.setIfInBounds_toArray, List.set_cons_zero, List.set_cons_succ]
        refine wpAnyH_take (i := 20) (oi := { dst := some 2, op := Op.assign (Operand.tmp 133), type := 4, pos := "law.go:201", after := #[{ on := 19, ground := Ground.data }, { on := 16, ground := Ground.chain }, { on := 0, ground := Ground.phase }, { on := 1, ground := Ground.phase }, { on := 2, ground := Ground.phase }, { on := 3, ground := Ground.phase }, { on := 4, ground := Ground.phase }, { on := 5, ground := Ground.phase }, { on := 6, ground := Ground.phase }, { on := 7, ground := Ground.phase }, { on := 8, ground := Ground.phase }, { on := 9, ground := Ground.phase }, { on := 10, ground := Ground.phase }, { on := 11, ground := Ground.phase }, { on := 12, ground := Ground.phase }, { on := 13, ground := Ground.phase }, { on := 14, ground := Ground.phase }, { on := 15, ground := Ground.phase }, { on := 16, ground := Ground.phase }, { on := 17, ground := Ground.phase }, { on := 18, ground := Ground.phase }, { on := 19, ground := Ground.phase }], guard := none }) (v := ?_) rfl (by kernel_rfl) (by kernel_rfl) (by kernel_rfl) (fun _ _ _ h => h) (Or.inl ⟨by rfl, ?_⟩) (by assumption) ?_
        rotate_left
        · (intro w hSw; (try dsimp only at hSw); go_simp) <;> with_reducible rfl
        try simp only [Act.put, List.setIfInBounds_toArray, List.set_cons_zero, List.set_cons_succ]
        refine wpAnyH_done (by kernel_rfl) ?_ _
        go_wp2_with fail
        go_ret
        exact ⟨rfl, HBB.out⟩
end Go.Proofs.Ytkpdckpcnnmdkaa
