/- lagoonref11.Put on the document's disk. -/
import Derived.Test.YtdbphdllibffnaaGreatMsAJ
import Derived.Test.YtdbphdllibffnaaGreatMrEJ
import Derived.Test.YtdbphdllibffnaaGreatRdWJ
import Derived.Test.YtdbphdllibffnaaGreatRdMJ
import Derived.Test.YtdbphdllibffnaaGreatRdSJ
import Derived.Test.YtdbphdllibffnaaGreatMaLJ
namespace Go.Proofs.YtdbphdllibffnaaGreat
open Go.RowKit Go.Shelf
set_option maxRecDepth 8000
set_option linter.unusedSimpArgs false

theorem rdOk_of {D : DkD} {R : RD} (h : Play D R) (ok : DkOk D) (hm : R.more ≤ 9223372036854775807) (hw : D.writes ≤ 4611686018427387904) : RdOk R := by
  refine ⟨by rw [h.files]; exact ok.rise, by rw [h.files]; exact ok.few, ?_, fun e => ?_, hm, by rw [h.done]; exact ok.w0, by rw [h.done]; exact hw⟩
  · rw [h.files]
    have := ok.fits
    have := ok.r1
    omega
  · rcases h.arm with ⟨e1, _⟩ | ⟨_, _, e3⟩
    · rw [e1] at e; cases e
    · exact e3

theorem RdTo.bel {w w' : World} {p : Nat} {fv : Value} {vs : List Value} {R : RD} (h : IsRd w p fv vs R) (hb : Below w.heap.size w w') : RdTo w p fv vs w' R fv vs :=
  ⟨h.later hb, (Below.kept hb).mono (fun k hk e => by omega), fun _ hk => .inl hk⟩

theorem DkTo.bel {w w' : World} {p : Nat} {fv : Value} {ms : List FiM} {D : DkD} (h : IsDk w p fv ms D) (hb : Below w.heap.size w w') : DkTo w p fv ms w' D fv ms :=
  ⟨h.later hb, (Below.kept hb).mono (fun k hk e => by omega), fun _ hk => .inl hk⟩

theorem tailR_stop {bs : List Int} {j : Nat} {R : RD} (h : (wantK R (putO bs (2 - j))).1 ≠ 0) : tailR bs (j + 1) R = wantK R (putO bs (2 - j)) := by
  show thenR _ _ = _
  unfold thenR
  rw [if_neg h]
theorem tailR_next {bs : List Int} {j : Nat} {R : RD} (h : (wantK R (putO bs (2 - j))).1 = 0) : tailR bs (j + 1) R = tailR bs j (wantK R (putO bs (2 - j))).2 := by
  show thenR _ _ = _
  unfold thenR
  rw [if_pos h]
theorem tailR_last {bs : List Int} {R : RD} : tailR bs 1 R = wantK R (putO bs 2) := by
  show thenR _ _ = _
  unfold thenR
  split
  · rename_i h
    show ((0 : Int), (wantK R (putO bs 2)).2) = _
    have h' : (wantK R (putO bs 2)).1 = 0 := h
    rw [← h']
  · rfl

/-- A Put of the document under way: the manifest's box lies beside. -/
structure PuS (w : World) (q : Nat) (rv : Value) (vs : List Value) (m : MaD) (W : World) (D : DkD) (R : RD) (rv1 : Value) (vs1 : List Value) (n : Nat) : Prop where
  to' : RdTo w q rv vs W R rv1 vs1
  row : W.heap[w.heap.size]? = some (.cells #[.int .u32 m.boot, .int .u32 m.acc, .int .u32 m.cur, .int .i64 m.snap, .int .i64 m.log] 35 (0, 0))
  nf : w.heap.size ∉ rfoot q rv1 vs1
  play : Play D R
  calm : Calm D
  ok : DkOk D
  fb : FB D.files
  more : R.more ≤ 9223372036854775807
  wr : D.writes ≤ 4611686018427387000 + n

section
variable {w W W' : World} {q : Nat} {rv rv1 rv2 : Value} {vs vs1 vs2 : List Value} {m : MaD} {D : DkD} {R : RD} {n : Nat}

theorem PuS.rok (h : PuS w q rv vs m W D R rv1 vs1 n) (hn : n ≤ 100) : RdOk R := rdOk_of h.play h.ok h.more (by have := h.wr; omega)

theorem PuS.later (h : PuS w q rv vs m W D R rv1 vs1 n) (hb : Below W.heap.size W W') : PuS w q rv vs m W' D R rv1 vs1 n :=
  ⟨h.to'.trans (RdTo.bel h.to'.is hb), (Below.kept hb).heap h.row (fun e => by have := lt_of_block h.row; omega), h.nf, h.play, h.calm, h.ok, h.fb, h.more, h.wr⟩

theorem PuS.stepO (h : PuS w q rv vs m W D R rv1 vs1 n) (o : OpK) (hp : Byts o.p) (ht : RdTo W q rv1 vs1 W' (wantK R o).2 rv2 vs2) : PuS w q rv vs m W' (actK D o).2 (wantK R o).2 rv2 vs2 (n + 1) := by
  have a := playP_want h.play h.calm h.ok h.fb o hp
  have l := lt_of_block h.row
  refine ⟨h.to'.trans ht, ht.kept.heap h.row h.nf, fun e => ?_, a.play, a.calm, a.ok, a.fb, Int.le_trans a.more h.more, by have := a.writes; have := h.wr; omega⟩
  rcases ht.foot _ e with e | e
  · exact h.nf e
  · omega

theorem PuS.step (h : PuS w q rv vs m W D R rv1 vs1 n) (hm : m.Fits) (k : Nat) (ht : RdTo W q rv1 vs1 W' (wantK R (putO (maF m) k)).2 rv2 vs2) : PuS w q rv vs m W' (actK D (putO (maF m) k)).2 (wantK R (putO (maF m) k)).2 rv2 vs2 (n + 1) :=
  h.stepO _ (by unfold putO; split; exact maF_byts m hm; split <;> exact maF_byts m hm) ht
end

set_option maxHeartbeats 8000000 in
theorem rput_any {w : World} {q : Nat} {rv : Value} {vs : List Value} {R : RD} {D : DkD} (h : IsRd w q rv vs R) (hp : Play D R) (hc : Calm D) (ok : DkOk D) (fb : FB D.files) (hmo : R.more ≤ 9223372036854775807) (hw : D.writes ≤ 4611686018427387000) (m : MaD) (hm : m.Fits) :
    Calls Tryz.prog 20 #[.pointer (some ⟨q, 0, none⟩), m.val] w (RctTo w q rv vs (putR m R)) := by
  obtain ⟨V, eV⟩ : ∃ V, V = w.alloc (.cells #[.int .u32 m.boot, .int .u32 m.acc, .int .u32 m.cur, .int .i64 m.snap, .int .i64 m.log] 35) := ⟨_, rfl⟩
  have hbV : Below w.heap.size w V := by rw [eV]; exact one_allocK _ _
  have HS : Hid (PuS w q rv vs m V D R rv vs 0) := ⟨RdTo.bel h hbV, by rw [eV]; exact heap_alloc_new w _, fun e => by have := h.lt e; omega, hp, hc, ok, fb, hmo, by omega⟩
  have HM : Hid (m.Fits) := hm
  have HE : Hid _ := eV
  clear eV hbV h hp hc ok fb hmo hw hm
  obtain ⟨boot, acc, cur, snap, log⟩ := m
  obtain ⟨mb, HMB⟩ : ∃ mb : Bool, Hid (mb = mayM ⟨boot, acc, cur, snap, log⟩) := ⟨_, rfl⟩
  have HMY : Hid _ := rMay_w ⟨boot, acc, cur, snap, log⟩ V
  rw [← HMB.out] at HMY
  have r0 := HS.out.row
  have k0 := cell_of_row V _ 0 _ _ _ r0
  have k1 := cell_of_row V _ 1 _ _ _ r0
  have k2 := cell_of_row V _ 2 _ _ _ r0
  have k3 := cell_of_row V _ 3 _ _ _ r0
  have k4 := cell_of_row V _ 4 _ _ _ r0
  simp only [List.getElem?_toArray, List.getElem?_cons_zero, List.getElem?_cons_succ] at k0 k1 k2 k3 k4
  have lk := lt_of_block r0
  clear r0
  go_enter Tryz.func20, Tryz.ntmps20
  go_upto_region 1 with fail
  rw [← HE.out]
  clear HE
  go_wp2_with fail
  refine Calls.mono HMY.out ?_
  rintro e w2 ⟨rfl, hb2⟩
  have H2 : Hid (PuS w q rv vs ⟨boot, acc, cur, snap, log⟩ w2 D R rv vs 0) := HS.out.later hb2
  clear hb2 HMY HS k0 k1 k2 k3 k4 lk
  cases mb with
  | false =>
    have HQ : Hid (putR ⟨boot, acc, cur, snap, log⟩ R = (110, R)) := by show _ = _; unfold putR; rw [if_neg (by rw [← HMB.out]; simp)]
    go_wp2_with fail
    go_ret
    exact ⟨(by rw [HQ.out]; first | done | rfl), _, _, by rw [HQ.out]; exact H2.out.to'⟩
  | true =>
  have HAT : Hid _ := refAt_any H2.out.to'.is (H2.out.rok (by omega)).rise (H2.out.rok (by omega)).few newN
  have lq := lt_of_block H2.out.to'.is.row
  by_cases hh : hasF R.files newN = true
  · have HQ0 : Hid (putR ⟨boot, acc, cur, snap, log⟩ R = thenR (wantK R remO) (tailR (maF ⟨boot, acc, cur, snap, log⟩) 3)) := by show _ = _; unfold putR; rw [if_pos HMB.out.symm, if_pos hh]
    have ha : atI R.files newN = (pl R.files newN : Int) := by unfold atI; rw [if_pos hh]
    rw [ha] at HAT
    clear ha hh
    go_wp2_with fail
    refine Calls.mono HAT.out ?_
    rintro e wz ⟨rfl, hwz⟩
    subst hwz
    have HRM : Hid (Calls Tryz.prog 28 #[.pointer (some ⟨q, 0, none⟩), .string newN] wz (RctTo wz q rv vs (wantK R remO))) := refRemove_any H2.out.to'.is (H2.out.rok (by omega)) newN (by decide)
    obtain ⟨X0, HX0⟩ : ∃ X, Hid (X = wantK R remO) := ⟨_, rfl⟩
    rw [← HX0.out] at HRM
    clear HAT
    generalize pl R.files newN = PL at *
    go_wp2_with fail
    refine Calls.mono HRM.out ?_
    rintro e w1 ⟨rfl, rv1, vs1, ht1⟩
    have H1 : Hid (PuS w q rv vs ⟨boot, acc, cur, snap, log⟩ w1 (actK D remO).2 X0.2 rv1 vs1 1) := by rw [HX0.out] at ht1 ⊢; exact H2.out.stepO remO (fun x hx => by simp [remO] at hx) ht1
    have HT0 : Hid (X0.1 ≠ 0 → putR ⟨boot, acc, cur, snap, log⟩ R = X0) := fun e => by rw [HQ0.out, ← HX0.out]; unfold thenR; rw [if_neg e]
    have HN0 : Hid (X0.1 = 0 → putR ⟨boot, acc, cur, snap, log⟩ R = tailR (maF ⟨boot, acc, cur, snap, log⟩) 3 X0.2) := fun e => by rw [HQ0.out, ← HX0.out]; unfold thenR; rw [if_pos e]
    clear ht1 H2 HRM HX0 HQ0 lq
    obtain ⟨E0, R1⟩ := X0
    by_cases e0 : E0 = 0
    rotate_left
    · have e0' : (E0 != 0) = true := by simp [e0]
      go_wp2_with fail
      go_ret
      exact ⟨(by rw [HT0.out e0]; first | done | rfl), _, _, by rw [HT0.out e0]; exact H1.out.to'⟩
    have HQ : Hid _ := HN0.out e0
    have e0' : (E0 != 0) = false := by simp [e0]
    clear HT0 HN0
    generalize (actK D remO).2 = D1 at *
    have r0 := H1.out.row
    have k0 := cell_of_row w1 _ 0 _ _ _ r0
    have k1 := cell_of_row w1 _ 1 _ _ _ r0
    have k2 := cell_of_row w1 _ 2 _ _ _ r0
    have k3 := cell_of_row w1 _ 3 _ _ _ r0
    have k4 := cell_of_row w1 _ 4 _ _ _ r0
    simp only [List.getElem?_toArray, List.getElem?_cons_zero, List.getElem?_cons_succ] at k0 k1 k2 k3 k4
    have lk := lt_of_block r0
    clear r0
    have HBY : Hid _ := refBytes_m ⟨boot, acc, cur, snap, log⟩ HM.out w1
    go_wp2_with fail
    refine Calls.mono HBY.out ?_
    rintro e w3 ⟨v3, rfl, ho3, hb3⟩
    obtain ⟨a0, a1, a2, rfl⟩ : ∃ a n c, v3 = .slice a n c := by obtain ⟨a, c, e, _⟩ := Sees.own ho3; exact ⟨a, _, c, e⟩
    have H3 : Hid (PuS w q rv vs ⟨boot, acc, cur, snap, log⟩ w3 D1 R1 rv1 vs1 1) := H1.out.later hb3
    have HAP : Hid (Calls Tryz.prog 24 #[.pointer (some ⟨q, 0, none⟩), .string newN, .slice a0 a1 a2] w3 (RctTo w3 q rv1 vs1 (wantK R1 (putO (maF ⟨boot, acc, cur, snap, log⟩) 0)))) := refAppend_any H3.out.to'.is (H3.out.rok (by omega)) newN (by decide) _ _ (Sees.own ho3) (fun _ j e => ⟨(ho3.lt j e).2, fun hm => by have := (H1.out.to'.is.lt hm); have := (ho3.lt j e).1; omega⟩) (by show (maF ⟨boot, acc, cur, snap, log⟩).length ≤ _; rw [maF_len]; omega)
    obtain ⟨X1, HX1⟩ : ∃ X, Hid (X = wantK R1 (putO (maF ⟨boot, acc, cur, snap, log⟩) 0)) := ⟨_, rfl⟩
    rw [← HX1.out] at HAP
    have lq3 := lt_of_block H3.out.to'.is.row
    clear k0 k1 k2 k3 k4 lk ho3 hb3 HBY H1
    go_wp2_with fail
    refine Calls.mono HAP.out ?_
    rintro e w4 ⟨rfl, rv4, vs4, ht4⟩
    have H4 : Hid (PuS w q rv vs ⟨boot, acc, cur, snap, log⟩ w4 (actK D1 (putO (maF ⟨boot, acc, cur, snap, log⟩) 0)).2 X1.2 rv4 vs4 (1 + 1)) := by rw [HX1.out] at ht4 ⊢; exact H3.out.step HM.out 0 ht4
    have HT4 : Hid (X1.1 ≠ 0 → tailR (maF ⟨boot, acc, cur, snap, log⟩) 3 R1 = X1) := fun e => by rw [HX1.out] at e ⊢; exact tailR_stop (j := 2) e
    have HN4 : Hid (X1.1 = 0 → tailR (maF ⟨boot, acc, cur, snap, log⟩) 3 R1 = tailR (maF ⟨boot, acc, cur, snap, log⟩) 2 X1.2) := fun e => by rw [HX1.out] at e ⊢; exact tailR_next (j := 2) e
    clear ht4 H3 HAP HX1 lq3
    obtain ⟨E1, R2⟩ := X1
    by_cases e1 : E1 = 0
    rotate_left
    · have e1' : (E1 != 0) = true := by simp [e1]
      go_wp2_with fail
      go_ret
      exact ⟨(by rw [HQ.out, HT4.out e1]; first | done | rfl), _, _, by rw [HQ.out, HT4.out e1]; exact H4.out.to'⟩
    have HQ2 : Hid (putR ⟨boot, acc, cur, snap, log⟩ R = tailR (maF ⟨boot, acc, cur, snap, log⟩) 2 R2) := by show _ = _; rw [HQ.out, HN4.out e1]
    have e1' : (E1 != 0) = false := by simp [e1]
    clear HQ HT4 HN4
    generalize (actK D1 (putO (maF ⟨boot, acc, cur, snap, log⟩) 0)).2 = D2 at *
    have HSY : Hid (Calls Tryz.prog 26 #[.pointer (some ⟨q, 0, none⟩), .string newN] w4 (RctTo w4 q rv4 vs4 (wantK R2 (putO (maF ⟨boot, acc, cur, snap, log⟩) 1)))) := refSync_any H4.out.to'.is (H4.out.rok (by omega)) newN (by decide)
    obtain ⟨X2, HX2⟩ : ∃ X, Hid (X = wantK R2 (putO (maF ⟨boot, acc, cur, snap, log⟩) 1)) := ⟨_, rfl⟩
    rw [← HX2.out] at HSY
    have lq4 := lt_of_block H4.out.to'.is.row
    go_wp2_with fail
    refine Calls.mono HSY.out ?_
    rintro e w5 ⟨rfl, rv5, vs5, ht5⟩
    have H5 : Hid (PuS w q rv vs ⟨boot, acc, cur, snap, log⟩ w5 (actK D2 (putO (maF ⟨boot, acc, cur, snap, log⟩) 1)).2 X2.2 rv5 vs5 (1 + 1 + 1)) := by rw [HX2.out] at ht5 ⊢; exact H4.out.step HM.out 1 ht5
    have HT5 : Hid (X2.1 ≠ 0 → tailR (maF ⟨boot, acc, cur, snap, log⟩) 2 R2 = X2) := fun e => by rw [HX2.out] at e ⊢; exact tailR_stop (j := 1) e
    have HN5 : Hid (X2.1 = 0 → tailR (maF ⟨boot, acc, cur, snap, log⟩) 2 R2 = tailR (maF ⟨boot, acc, cur, snap, log⟩) 1 X2.2) := fun e => by rw [HX2.out] at e ⊢; exact tailR_next (j := 1) e
    clear ht5 H4 HSY HX2 lq4
    obtain ⟨E2, R3⟩ := X2
    by_cases e2 : E2 = 0
    rotate_left
    · have e2' : (E2 != 0) = true := by simp [e2]
      go_wp2_with fail
      go_ret
      exact ⟨(by rw [HQ2.out, HT5.out e2]; first | done | rfl), _, _, by rw [HQ2.out, HT5.out e2]; exact H5.out.to'⟩
    have HQ3 : Hid (putR ⟨boot, acc, cur, snap, log⟩ R = wantK R3 (putO (maF ⟨boot, acc, cur, snap, log⟩) 2)) := by show _ = _; rw [HQ2.out, HN5.out e2, tailR_last]
    have e2' : (E2 != 0) = false := by simp [e2]
    clear HQ2 HT5 HN5
    generalize (actK D2 (putO (maF ⟨boot, acc, cur, snap, log⟩) 1)).2 = D3 at *
    have HRN : Hid (Calls Tryz.prog 53 #[.pointer (some ⟨q, 0, none⟩), .string newN, .string manN] w5 (RctTo w5 q rv5 vs5 (wantK R3 (putO (maF ⟨boot, acc, cur, snap, log⟩) 2)))) := refRename_any H5.out.to'.is (H5.out.rok (by omega)) newN manN (by decide) (by decide)
    rw [← HQ3.out] at HRN
    have lq5 := lt_of_block H5.out.to'.is.row
    obtain ⟨X3, HX3⟩ : ∃ X, Hid (X = putR ⟨boot, acc, cur, snap, log⟩ R) := ⟨_, rfl⟩
    rw [← HX3.out] at HRN
    go_wp2_with fail
    refine Calls.mono HRN.out ?_
    rintro e w6 ⟨rfl, rv6, vs6, ht6⟩
    have H6 : Hid (RdTo w q rv vs w6 X3.2 rv6 vs6) := H5.out.to'.trans ht6
    clear ht6 H5 HRN lq5
    obtain ⟨E3, R4⟩ := X3
    go_wp2_with fail
    go_ret
    exact ⟨(by rw [← HX3.out]; first | done | rfl), _, _, by rw [← HX3.out]; exact H6.out⟩
  · have HQ : Hid (putR ⟨boot, acc, cur, snap, log⟩ R = tailR (maF ⟨boot, acc, cur, snap, log⟩) 3 R) := by show _ = _; unfold putR; rw [if_pos HMB.out.symm, if_neg hh]
    have ha : atI R.files newN = -1 := by unfold atI; rw [if_neg hh]
    rw [ha] at HAT
    clear ha hh
    go_wp2_with fail
    refine Calls.mono HAT.out ?_
    rintro e wz ⟨rfl, hwz⟩
    subst hwz
    clear HAT lq
    have H1 : Hid _ := H2.out
    clear H2
    have r0 := H1.out.row
    have k0 := cell_of_row wz _ 0 _ _ _ r0
    have k1 := cell_of_row wz _ 1 _ _ _ r0
    have k2 := cell_of_row wz _ 2 _ _ _ r0
    have k3 := cell_of_row wz _ 3 _ _ _ r0
    have k4 := cell_of_row wz _ 4 _ _ _ r0
    simp only [List.getElem?_toArray, List.getElem?_cons_zero, List.getElem?_cons_succ] at k0 k1 k2 k3 k4
    have lk := lt_of_block r0
    clear r0
    have HBY : Hid _ := refBytes_m ⟨boot, acc, cur, snap, log⟩ HM.out wz
    go_wp2_with fail
    refine Calls.mono HBY.out ?_
    rintro e w3 ⟨v3, rfl, ho3, hb3⟩
    obtain ⟨a0, a1, a2, rfl⟩ : ∃ a n c, v3 = .slice a n c := by obtain ⟨a, c, e, _⟩ := Sees.own ho3; exact ⟨a, _, c, e⟩
    have H3 : Hid (PuS w q rv vs ⟨boot, acc, cur, snap, log⟩ w3 D R rv vs 0) := H1.out.later hb3
    have HAP : Hid (Calls Tryz.prog 24 #[.pointer (some ⟨q, 0, none⟩), .string newN, .slice a0 a1 a2] w3 (RctTo w3 q rv vs (wantK R (putO (maF ⟨boot, acc, cur, snap, log⟩) 0)))) := refAppend_any H3.out.to'.is (H3.out.rok (by omega)) newN (by decide) _ _ (Sees.own ho3) (fun _ j e => ⟨(ho3.lt j e).2, fun hm => by have := (H1.out.to'.is.lt hm); have := (ho3.lt j e).1; omega⟩) (by show (maF ⟨boot, acc, cur, snap, log⟩).length ≤ _; rw [maF_len]; omega)
    obtain ⟨X1, HX1⟩ : ∃ X, Hid (X = wantK R (putO (maF ⟨boot, acc, cur, snap, log⟩) 0)) := ⟨_, rfl⟩
    rw [← HX1.out] at HAP
    have lq3 := lt_of_block H3.out.to'.is.row
    clear k0 k1 k2 k3 k4 lk ho3 hb3 HBY H1
    go_wp2_with fail
    refine Calls.mono HAP.out ?_
    rintro e w4 ⟨rfl, rv4, vs4, ht4⟩
    have H4 : Hid (PuS w q rv vs ⟨boot, acc, cur, snap, log⟩ w4 (actK D (putO (maF ⟨boot, acc, cur, snap, log⟩) 0)).2 X1.2 rv4 vs4 (0 + 1)) := by rw [HX1.out] at ht4 ⊢; exact H3.out.step HM.out 0 ht4
    have HT4 : Hid (X1.1 ≠ 0 → tailR (maF ⟨boot, acc, cur, snap, log⟩) 3 R = X1) := fun e => by rw [HX1.out] at e ⊢; exact tailR_stop (j := 2) e
    have HN4 : Hid (X1.1 = 0 → tailR (maF ⟨boot, acc, cur, snap, log⟩) 3 R = tailR (maF ⟨boot, acc, cur, snap, log⟩) 2 X1.2) := fun e => by rw [HX1.out] at e ⊢; exact tailR_next (j := 2) e
    clear ht4 H3 HAP HX1 lq3
    obtain ⟨E1, R2⟩ := X1
    by_cases e1 : E1 = 0
    rotate_left
    · have e1' : (E1 != 0) = true := by simp [e1]
      go_wp2_with fail
      go_ret
      exact ⟨(by rw [HQ.out, HT4.out e1]; first | done | rfl), _, _, by rw [HQ.out, HT4.out e1]; exact H4.out.to'⟩
    have HQ2 : Hid (putR ⟨boot, acc, cur, snap, log⟩ R = tailR (maF ⟨boot, acc, cur, snap, log⟩) 2 R2) := by show _ = _; rw [HQ.out, HN4.out e1]
    have e1' : (E1 != 0) = false := by simp [e1]
    clear HQ HT4 HN4
    generalize (actK D (putO (maF ⟨boot, acc, cur, snap, log⟩) 0)).2 = D2 at *
    have HSY : Hid (Calls Tryz.prog 26 #[.pointer (some ⟨q, 0, none⟩), .string newN] w4 (RctTo w4 q rv4 vs4 (wantK R2 (putO (maF ⟨boot, acc, cur, snap, log⟩) 1)))) := refSync_any H4.out.to'.is (H4.out.rok (by omega)) newN (by decide)
    obtain ⟨X2, HX2⟩ : ∃ X, Hid (X = wantK R2 (putO (maF ⟨boot, acc, cur, snap, log⟩) 1)) := ⟨_, rfl⟩
    rw [← HX2.out] at HSY
    have lq4 := lt_of_block H4.out.to'.is.row
    go_wp2_with fail
    refine Calls.mono HSY.out ?_
    rintro e w5 ⟨rfl, rv5, vs5, ht5⟩
    have H5 : Hid (PuS w q rv vs ⟨boot, acc, cur, snap, log⟩ w5 (actK D2 (putO (maF ⟨boot, acc, cur, snap, log⟩) 1)).2 X2.2 rv5 vs5 (0 + 1 + 1)) := by rw [HX2.out] at ht5 ⊢; exact H4.out.step HM.out 1 ht5
    have HT5 : Hid (X2.1 ≠ 0 → tailR (maF ⟨boot, acc, cur, snap, log⟩) 2 R2 = X2) := fun e => by rw [HX2.out] at e ⊢; exact tailR_stop (j := 1) e
    have HN5 : Hid (X2.1 = 0 → tailR (maF ⟨boot, acc, cur, snap, log⟩) 2 R2 = tailR (maF ⟨boot, acc, cur, snap, log⟩) 1 X2.2) := fun e => by rw [HX2.out] at e ⊢; exact tailR_next (j := 1) e
    clear ht5 H4 HSY HX2 lq4
    obtain ⟨E2, R3⟩ := X2
    by_cases e2 : E2 = 0
    rotate_left
    · have e2' : (E2 != 0) = true := by simp [e2]
      go_wp2_with fail
      go_ret
      exact ⟨(by rw [HQ2.out, HT5.out e2]; first | done | rfl), _, _, by rw [HQ2.out, HT5.out e2]; exact H5.out.to'⟩
    have HQ3 : Hid (putR ⟨boot, acc, cur, snap, log⟩ R = wantK R3 (putO (maF ⟨boot, acc, cur, snap, log⟩) 2)) := by show _ = _; rw [HQ2.out, HN5.out e2, tailR_last]
    have e2' : (E2 != 0) = false := by simp [e2]
    clear HQ2 HT5 HN5
    generalize (actK D2 (putO (maF ⟨boot, acc, cur, snap, log⟩) 1)).2 = D3 at *
    have HRN : Hid (Calls Tryz.prog 53 #[.pointer (some ⟨q, 0, none⟩), .string newN, .string manN] w5 (RctTo w5 q rv5 vs5 (wantK R3 (putO (maF ⟨boot, acc, cur, snap, log⟩) 2)))) := refRename_any H5.out.to'.is (H5.out.rok (by omega)) newN manN (by decide) (by decide)
    rw [← HQ3.out] at HRN
    have lq5 := lt_of_block H5.out.to'.is.row
    obtain ⟨X3, HX3⟩ : ∃ X, Hid (X = putR ⟨boot, acc, cur, snap, log⟩ R) := ⟨_, rfl⟩
    rw [← HX3.out] at HRN
    go_wp2_with fail
    refine Calls.mono HRN.out ?_
    rintro e w6 ⟨rfl, rv6, vs6, ht6⟩
    have H6 : Hid (RdTo w q rv vs w6 X3.2 rv6 vs6) := H5.out.to'.trans ht6
    clear ht6 H5 HRN lq5
    obtain ⟨E3, R4⟩ := X3
    go_wp2_with fail
    go_ret
    exact ⟨(by rw [← HX3.out]; first | done | rfl), _, _, by rw [← HX3.out]; exact H6.out⟩
end Go.Proofs.YtdbphdllibffnaaGreat
