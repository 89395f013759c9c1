/- does of the law at Tick. -/
import Derived.Test.YtmniefmjdfdedaaGreatDoorSgJ
namespace Go.Proofs.YtmniefmjdfdedaaGreatDoor
open Go.RowKit Go.Shelf
set_option maxRecDepth 8000
set_option linter.unusedSimpArgs false
set_option linter.unusedVariables false

/-- Ticks on the way. -/
structure Tk (w W0 wr : World) (own1 : Nat → Nat) (p : Nat) (R : WoR) (T : Int) (bx : Nat) (on id tm n : Int) : Prop where
  d : DoTo w W0 wr own1 p R T
  b : wr.heap[bx]? = some (.cells #[.int .i64 4, .int .i64 on, .int .i64 id, .int .i32 tm, .int .i64 n] 38 (0, 0))

section
variable {w W : World} {own : Nat → Nat} {p : Nat} {R : WoR} {T : Int}
set_option maxHeartbeats 8000000 in
theorem does_tick (hp : p ≠ 7) (h : Wo w W own p R) (f : Fit R T) (hT : T ≤ 2000000000000000000) (on id tm n : Int) :
    Calls Tryz.prog 7 #[.pointer (some ⟨R.x, 0, none⟩), .agg #[.int .i64 4, .int .i64 on, .int .i64 id, .int .i32 tm, .int .i64 n]] W fun e w' => e = .returned (.bool true) ∧ Hid (DoTo w W w' own p R (T + 40)) := by
  obtain ⟨bx, hbx⟩ : ∃ b, b = W.heap.size := ⟨_, rfl⟩
  obtain ⟨W0, hW0⟩ : ∃ W0, W0 = W.alloc (.cells #[.int .i64 4, .int .i64 on, .int .i64 id, .int .i32 tm, .int .i64 n] 38) := ⟨_, rfl⟩
  have hb0 : Below W.heap.size W W0 := by rw [hW0]; exact (Below.refl _ W).alloc (Nat.le_refl _) _
  have HX : Hid (W0.heap[bx]? = some (.cells #[.int .i64 4, .int .i64 on, .int .i64 id, .int .i32 tm, .int .i64 n] 38 (0, 0))) := by rw [hbx, hW0]; exact heap_alloc_new _ _
  have k0 : W0.cell? ⟨bx, 0, none⟩ = some (.int .i64 4) := by rw [cell_of_row _ _ 0 _ _ _ HX.out]; rfl
  have H0 : Hid (Wo w W0 (bxO own W.heap.size) p R) := h.box hp hb0
  have zb : bx < W0.heap.size := lt_of_block HX.out
  have HZ : Hid (w.heap.size ≤ W0.heap.size) := H0.out.be.size
  have HOut : Hid (∀ w', DoTo w W0 w' (bxO own W.heap.size) p R (T + 40) → DoTo w W w' own p R (T + 40)) := fun w' q => q.out hb0
  have HO7 : Hid (bxO own W.heap.size bx ≠ p) := by rw [hbx]; unfold bxO; rw [if_neg (Nat.lt_irrefl _)]; exact fun e => hp e.symm
  have HTk : Hid (Tk w W0 W0 (bxO own W.heap.size) p R (T + (0 : Nat)) bx on id tm n) := ⟨⟨_, R, H0.out, f.more (by omega), ⟨rfl, rfl, rfl⟩, fun _ _ => rfl, Kept.refl _ _⟩, HX.out⟩
  have HW0 : Hid (W.alloc (.cells #[.int .i64 4, .int .i64 on, .int .i64 id, .int .i32 tm, .int .i64 n] 38) = W0) := hW0.symm
  have HBx : Hid (W.heap.size = bx) := hbx.symm
  have HT : Hid (T ≤ 2000000000000000000) := hT
  have HN : Hid (1 ≤ fewN n ∧ fewN n ≤ 40) := fewN_b n
  have HFw : Hid (∀ w, Calls Tryz.prog 18 #[.int .i64 n] w fun e w' => e = .returned (.int .i64 (fewN n)) ∧ w' = w) := fun w => few_any n w
  clear h hb0 hW0 hbx f H0
  generalize bxO own W.heap.size = own1 at *
  generalize fewN n = N at *
  go_enter Tryz.func7, Tryz.ntmps7
  go_upto_region 1 with fail
  rw [HW0.out, HBx.out]
  clear HW0 HBx
  go_wp2
  clear k0
  go_loopw [5] (fun vi wr => ∃ i : Nat, (i : Int) ≤ N ∧ vi = .int .i64 (i : Int) ∧ Hid (Tk w W0 wr own1 p R (T + i) bx on id tm n)) (fun vi _ => 40 - (intOf vi).toNat)
  case atStart => exact ⟨0, by have := HN.out; omega, rfl, HTk.out⟩
  case round =>
    clear HTk
    obtain ⟨i, hi, rfl, HK⟩ := hrel
    have kn : wr.cell? ⟨bx, 4, none⟩ = some (.int .i64 n) := by rw [cell_of_row _ _ 4 _ _ _ HK.out.b]; rfl
    have zb2 : bx < wr.heap.size := lt_of_block HK.out.b
    have hi40 : (i : Int) ≤ 40 := by have := HN.out; omega
    by_cases hiN : (i : Int) < N
    · have hi39 : (i : Int) < 40 := by have := HN.out; omega
      obtain ⟨own2, R2, h2, f2, ⟨e1, e2, e3⟩, e4, e5⟩ := HK.out.d
      have HE : Hid (R2.x = R.x ∧ R2.c = R.c ∧ R2.d = R.d) := ⟨e1, e2, e3⟩
      have HAg : Hid ((∀ k, k < W0.heap.size → own2 k = own1 k) ∧ Kept W0 wr (fun k => own1 k = p)) := ⟨e4, e5⟩
      have H2 : Hid (Wo w wr own2 p R2 ∧ Fit R2 (T + i)) := ⟨h2, f2⟩
      have HBr : Hid (wr.heap[bx]? = some (.cells #[.int .i64 4, .int .i64 on, .int .i64 id, .int .i32 tm, .int .i64 n] 38 (0, 0))) := HK.out.b
      have cx := h2.cx
      rw [e1, e2, e3] at cx
      obtain ⟨cx0, cx1⟩ := cx
      have zx : R.x < wr.heap.size := by rw [← e1]; exact h2.lt (.inl rfl)
      obtain ⟨L, hL⟩ : ∃ L, L = tolD R2.span R2.dl (R2.now + 1) := ⟨_, rfl⟩
      have HLl : Hid (L.length ≤ 64) := by
        have a1 := tolD_len R2.span R2.dl (R2.now + 1)
        have a2 := f2.ln
        show L.length ≤ 64
        rw [hL]; omega
      have HA : Hid (Calls Tryz.prog 10 #[.pointer (some ⟨R.c, 0, none⟩)] wr fun e w' => ∃ u, e = .returned u ∧ Hid (OI w' wr.heap.size u L ∧ Wo w w' own2 p { R2 with t := R2.now + 1, l := goL R2.l (R2.now + 1) } ∧ Kept wr w' (TuC R2.c R2.m))) := by
        rw [hL, ← e2]
        exact wo_tick h2 f2 (by have := HT.out; omega)
      have HLe : Hid (L = tolD R2.span R2.dl (R2.now + 1)) := hL
      clear h2 f2 e1 e2 e3 e4 e5 hL HK
      go_wp2_with fail
      refine Calls.mono (HFw.out _) ?_
      rintro e wx ⟨rfl, hwx⟩
      rw [hwx]
      clear hwx wx kn
      go_wp2_with fail
      refine Calls.mono HA.out ?_
      rintro e w1 ⟨u, rfl, H1⟩
      obtain ⟨ua, uc, rfl⟩ := rowS H1.out.1
      have cy := H1.out.2.1.cx.2
      have zx1 : R.x < w1.heap.size := by rw [← HE.out.1]; exact H1.out.2.1.lt (.inl rfl)
      have cy1 : w1.cell? ⟨R.x, 1, none⟩ = some (.pointer (some ⟨R.d, 0, none⟩)) := by rw [← HE.out.1, ← HE.out.2.2]; exact cy
      have HB : Hid (Calls Tryz.prog 19 #[.pointer (some ⟨R.d, 0, none⟩)] w1 fun e w' => ∃ u, e = .returned u ∧ Hid (OI w' w1.heap.size u L ∧ ∃ sv' bv', Wo w w' (upO own2 w1.heap.size p) p { R2 with t := R2.now + 1, l := goL R2.l (R2.now + 1), sv := sv', bv := bv', now := R2.now + 1, dl := goD R2.span R2.dl (R2.now + 1) } ∧ Fit { R2 with t := R2.now + 1, l := goL R2.l (R2.now + 1), sv := sv', bv := bv', now := R2.now + 1, dl := goD R2.span R2.dl (R2.now + 1) } (T + i + 1) ∧ Kept w1 w' (FtD R2.d R2.sv R2.bv))) := by
        rw [HLe.out, ← HE.out.2.2]
        exact doc_tick H2.out.2 (by have := HT.out; omega) H1.out.2.1
      clear cy HA cx0 cx1 zx
      go_wp2_with fail
      refine Calls.mono HB.out ?_
      rintro e w2 ⟨u2, rfl, HR⟩
      obtain ⟨va, vc, rfl⟩ := rowS HR.out.1
      obtain ⟨sv', bv', h3, f3, hk3⟩ := HR.out.2
      have hold := H1.out.2.1.notD H1.out.1
      have hua : OI w2 wr.heap.size (.slice ua L.length uc) L := rowK H1.out.1 hk3 hold
      have hvb : OI w2 w1.heap.size (.slice va L.length vc) L := HR.out.1
      have hsz1 : wr.heap.size ≤ w1.heap.size := H1.out.2.2.size
      have hszw : w.heap.size ≤ wr.heap.size := H2.out.1.be.size
      have h4 := h3.re hszw
      have HS : Hid (Calls Tryz.prog 20 #[.slice ua L.length uc, .slice va L.length vc] w2 fun e w' => e = .returned (.bool true) ∧ Hid (Kept w2 w' (fun _ => False))) := same_any hua hvb (by have := HLl.out; omega)
      -- what is known behind the two calls
      obtain ⟨R3, hR3⟩ : ∃ R3 : WoR, R3 = { R2 with t := R2.now + 1, l := goL R2.l (R2.now + 1), sv := sv', bv := bv', now := R2.now + 1, dl := goD R2.span R2.dl (R2.now + 1) } := ⟨_, rfl⟩
      rw [← hR3] at h4 f3
      have HE3 : Hid (R3.x = R.x ∧ R3.c = R.c ∧ R3.d = R.d ∧ R3.ks = R2.ks) := by rw [hR3]; exact ⟨HE.out.1, HE.out.2.1, HE.out.2.2, rfl⟩
      obtain ⟨own4, how4⟩ : ∃ o, o = upO (upO own2 w1.heap.size p) wr.heap.size p := ⟨_, rfl⟩
      rw [← how4] at h4
      have hag4 : ∀ k, k < W0.heap.size → own4 k = own1 k := fun k hk => by
        have a1 := HAg.out.2.size
        rw [how4, upO_old (by omega), upO_old (by omega)]
        exact HAg.out.1 k hk
      have hnew4 : ∀ k, wr.heap.size ≤ k → own4 k = p := fun k hk => by rw [how4]; unfold upO; rw [if_neg (by omega)]
      have hkw2 : Kept W0 w2 (fun k => own1 k = p) := by
        refine (HAg.out.2.trans H1.out.2.2 (fun k hk e => ?_)).trans hk3 (fun k hk e => ?_)
        · rw [← HAg.out.1 k hk]; exact H2.out.1.kC k e
        · rw [← HAg.out.1 k hk]; exact H2.out.1.kD k e
      have H4 : Hid (Wo w w2 own4 p R3 ∧ Fit R3 (T + i + 1) ∧ OI w2 wr.heap.size (.slice ua L.length uc) L ∧ OI w2 w1.heap.size (.slice va L.length vc) L ∧ (∀ k, k < W0.heap.size → own4 k = own1 k) ∧ (∀ k, wr.heap.size ≤ k → own4 k = p) ∧ Kept W0 w2 (fun k => own1 k = p) ∧ wr.heap.size ≤ w1.heap.size ∧ (∀ k, BlkR R2.ks k → k < wr.heap.size)) := ⟨h4, f3, hua, hvb, hag4, hnew4, hkw2, hsz1, fun k hk => H2.out.1.lt (.inr (.inr (.inr (.inr (.inr (.inl hk))))))⟩
      clear HB HR h3 f3 hk3 hold hua hvb h4 hR3 how4 hag4 hnew4 hkw2 hsz1 hszw cy1 H1 H2 HLe HE HAg
      go_wp2_with fail
      refine Calls.mono HS.out ?_
      rintro e w3 ⟨rfl, hk23⟩
      have HBel : Hid (Below w2.heap.size w2 w3) := hk23.out.below (Nat.le_refl _) (fun _ e => e.elim)
      have H5 : Hid (Wo w w3 own4 p R3 ∧ OI w3 wr.heap.size (.slice ua L.length uc) L ∧ OI w3 w1.heap.size (.slice va L.length vc) L ∧ Kept W0 w3 (fun k => own1 k = p) ∧ w3.heap[bx]? = some (.cells #[.int .i64 4, .int .i64 on, .int .i64 id, .int .i32 tm, .int .i64 n] 38 (0, 0))) := by
        have q1 : Kept W0 w3 (fun k => own1 k = p) := H4.out.2.2.2.2.2.2.1.trans hk23.out (fun _ _ e => e.elim)
        exact ⟨H4.out.1.belowO HBel.out, rowK H4.out.2.2.1 hk23.out (fun _ _ e => e), rowK H4.out.2.2.2.1 hk23.out (fun _ _ e => e), q1, q1.heap HX.out HO7.out⟩
      clear HS hk23
      have HTT : T + ((i + 1 : Nat) : Int) = T + i + 1 := by omega
      have HNx : Hid (Tk w W0 w3 own1 p R (T + ((i + 1 : Nat) : Int)) bx on id tm n) := by
        rw [HTT]
        exact ⟨⟨own4, R3, H5.out.1, H4.out.2.1, ⟨HE3.out.1, HE3.out.2.1, HE3.out.2.2.1⟩, H4.out.2.2.2.2.1, H5.out.2.2.2.1⟩, H5.out.2.2.2.2⟩
      have hrow3 := H5.out.1.row
      rw [HE3.out.1] at hrow3
      have zx3 : R.x < w3.heap.size := lt_of_block hrow3
      obtain ⟨ka, kc, hkv⟩ := rowS H5.out.1.kr
      have cx2 : w3.cell? ⟨R.x, 2, none⟩ = some R3.kv := by rw [cell_of_row _ _ 2 _ _ _ hrow3]; rfl
      rw [hkv] at cx2
      have HKv : Hid (R3.kv = .slice ka R3.ks.length kc) := hkv
      have hi0 : (0 : Int) ≤ (i : Int) := by omega
      obtain ⟨kn, hkn⟩ : ∃ kn, kn = R3.ks.length := ⟨_, rfl⟩
      have HKn : Hid (kn = R3.ks.length) := hkn
      obtain ⟨ln, hln⟩ : ∃ ln, ln = L.length := ⟨_, rfl⟩
      have HLn : Hid (ln = L.length) := hln
      rw [← hkn] at cx2
      rw [← hln]
      clear hkv hkn hln hrow3 HTT
      by_cases c1 : 0 < ln
      · have d1 : decide ((0 : Int) < (ln : Int)) = true := by simp; omega
        by_cases c2 : kn < 40
        · have d2 : decide ((kn : Int) < 40) = true := by simp; omega
          clear HNx
          obtain ⟨v', w4, hap, ⟨va', vn', vc', rfl⟩, hxl, hfr, hcl, HR1⟩ := H5.out.1.keepK (a := .slice ua L.length uc) (n := L.length) (L := L) ⟨_, _, rfl⟩ (rowLow H5.out.2.1 (Nat.zero_le _)) rfl (by have := HLl.out; omega) (by rw [← HKn.out]; exact c2) (fun g e => by
            have a1 := (H5.out.2.1.lt g e).1
            refine ⟨H4.out.2.2.2.2.2.1 g a1, fun hb => ?_⟩
            rw [HE3.out.2.2.2] at hb
            have := H4.out.2.2.2.2.2.2.2.2 g hb
            omega)
          have hL2 : OI (w4.setCell ⟨R3.x, 2, none⟩ (.slice va' vn' vc')) 0 (.slice va L.length vc) L := rowLow (HR1.out.2.2 H5.out.2.2.1) (Nat.zero_le _)
          have hx2 : (R3.xs ++ [L])[R3.ws.length]? = some L := by
            rw [H4.out.2.1.wx, List.getElem?_append_right (Nat.le_refl _)]; simp
          obtain ⟨v'', w5, hap2, ⟨vb', vm', vd', rfl⟩, hxl2, hfr2, hcl2, HR2⟩ := HR1.out.1.keepW (a := .slice va L.length vc) (L := L) hL2 hx2 (fun g e => by
            have a1 := (H5.out.2.2.1.lt g e)
            rw [upO_old a1.2]
            exact H4.out.2.2.2.2.2.1 g (by have := H4.out.2.2.2.2.2.2.2.1; omega))
          obtain ⟨wa3, wc3, hwv⟩ := rowS HR1.out.1.wr
          have cx3 : (w4.setCell ⟨R3.x, 2, none⟩ (.slice va' vn' vc')).cell? ⟨R3.x, 3, none⟩ = some R3.wv := by rw [cell_of_row _ _ 3 _ _ _ HR1.out.1.row]; rfl
          have HNx : Hid (Tk w W0 (w5.setCell ⟨R3.x, 3, none⟩ (.slice vb' vm' vd')) own1 p R (T + ((i + 1 : Nat) : Int)) bx on id tm n) := by
            have hsz : W0.heap.size ≤ w3.heap.size := H5.out.2.2.2.1.size
            have hag : ∀ k, k < W0.heap.size → upO own4 w3.heap.size p k = own1 k := fun k hk => by rw [upO_old (by omega)]; exact H4.out.2.2.2.2.1 k hk
            have hsz2 := HR1.out.2.1.size
            have hag2 : ∀ k, k < W0.heap.size → upO (upO own4 w3.heap.size p) (w4.setCell ⟨R3.x, 2, none⟩ (.slice va' vn' vc')).heap.size p k = own1 k := fun k hk => by rw [upO_old (by omega)]; exact hag k hk
            have q1 := (H5.out.2.2.2.1.trans HR1.out.2.1 (fun k hk e => by rw [← H4.out.2.2.2.2.1 k hk]; exact e)).trans HR2.out.2 (fun k hk e => by rw [← hag k hk]; exact e)
            have f3 := H4.out.2.1
            refine ⟨⟨_, _, HR2.out.1, ⟨f3.tn, f3.mt, f3.ok, f3.ln, f3.s1, f3.s2, f3.t0, by have := f3.t1; show R3.now ≤ _; omega, ?_⟩, ⟨HE3.out.1, HE3.out.2.1, HE3.out.2.2.1⟩, hag2, q1⟩, q1.heap HX.out HO7.out⟩
            show (R3.ws ++ [_]).length = (R3.xs ++ [L]).length
            simp [f3.wx]
          rw [HE3.out.1] at hxl hfr hcl hxl2 hfr2 hcl2 cx3 HNx hap2
          rw [HKv.out, ← HKn.out] at hap hcl
          rw [hwv] at hap2 hcl2 cx3
          rw [← HLn.out] at hap hap2
          have hs4 : (w4.setCell ⟨R.x, 2, none⟩ (.slice va' vn' vc')).heap.size = w4.heap.size := by simp
          rw [hs4] at hap2
          clear hs4
          clear HR1 HR2 hL2 hx2 hwv H4 H5 HKv HKn HLl HLn HE3
          go_upto_region 18 with (at_builtin; refine Lib.wpList_append_run_sl _ rfl _ _ 34 rfl _ _ rfl rfl (hap _) ?_)
          go_wp2_with (at_builtin; refine Lib.wpList_append_run_sl _ rfl _ _ 34 rfl _ _ rfl rfl (hap2 _) ?_)
          go_roundw
          case rel => exact ⟨i + 1, by omega, by simp, HNx⟩
          case measure => simp [intOf]; omega
        · have d2 : decide ((kn : Int) < 40) = false := by simp; omega
          clear H4 H5 HKv HKn HLl HE3
          go_wp2
          go_roundw
          case rel => exact ⟨i + 1, by omega, by simp, HNx⟩
          case measure => simp [intOf]; omega
      · have d1 : decide ((0 : Int) < (ln : Int)) = false := by simp; omega
        clear H4 H5 HKv HKn HLl HE3
        go_wp2
        go_roundw
        case rel => exact ⟨i + 1, by omega, by simp, HNx⟩
        case measure => simp [intOf]; omega
    · go_wp2_with fail
      refine Calls.mono (HFw.out _) ?_
      rintro e wx ⟨rfl, hwx⟩
      rw [hwx]
      clear hwx wx kn
      have HE : Hid (DoTo w W0 wr own1 p R (T + 40)) := by
        obtain ⟨own2, R2, h2, f2, e1, e4, e5⟩ := HK.out.d
        exact ⟨own2, R2, h2, f2.more (by omega), e1, e4, e5⟩
      clear HK
      go_wp2
      all_goals (go_ret; exact ⟨rfl, HOut.out _ HE.out⟩)
end
end Go.Proofs.YtmniefmjdfdedaaGreatDoor
