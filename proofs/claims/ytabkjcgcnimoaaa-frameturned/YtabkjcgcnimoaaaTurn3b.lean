/- The walk of FrameTurned where a byte is turned. -/
import Derived.Test.YtabkjcgcnimoaaaTurn3a
namespace Go.Proofs.Ytabkjcgcnimoaaa
open Go.ChangeShapes Go.WideShapes Go.ChangeAt Go.RowKit
set_option maxRecDepth 8000
namespace frameTurned
open frameTorn
set_option linter.unusedVariables false

set_option maxHeartbeats 4000000 in
theorem main (ao : Option Addr) (cap : Nat) (ps : List Pcd) (c : Nat) (a2 : Int) (w : World) (h : SeesPs w (.slice ao ps.length cap) ps) (hcN : c < (framesL (ysOf (goods ps))).length) (ha0 : 0 < a2) (ha1 : a2 ≤ 255) :
    Calls Try.prog 4 #[.slice ao ps.length cap, .int .i64 c, .int .u8 a2] w fun e w' => e = .returned (.bool true) ∧ Below w.heap.size w w' := by
  have HS : Hid (SeesPs w (.slice ao ps.length cap) ps) := h
  have hc0 : ps.length ≤ cap ∧ cap ≤ 9223372036854775807 := by
    obtain ⟨_, _, e, h1, h2, _⟩ := h
    simp at e
    obtain ⟨_, rfl⟩ := e
    unfold maxLen at h2
    omega
  obtain ⟨hc1, hc2⟩ := hc0
  clear h
  obtain ⟨l, hl⟩ : ∃ l, l = goods ps := ⟨_, rfl⟩
  have hg : ∀ p ∈ l, Good w p ∧ isSz p.ys.length = true := fun p hp => by
    rw [hl] at hp
    have := List.mem_filter.1 hp
    obtain ⟨_, _, _, _, _, hgd, _⟩ := HS.out
    exact ⟨hgd p this.1, this.2⟩
  rw [← hl] at hcN
  have hne : l ≠ [] := fun e => by rw [e] at hcN; simp [ysOf, framesL] at hcN
  have HL : Hid (l = goods ps) := hl
  have HG : Hid (∀ p ∈ l, Good w p ∧ isSz p.ys.length = true) := hg
  clear hg hl
  obtain ⟨N, hN⟩ : ∃ N, N = (framesL (ysOf l)).length := ⟨_, rfl⟩
  rw [← hN] at hcN
  have HN : Hid (N = (framesL (ysOf l)).length) := hN
  clear hN
  have e0 : (a2 == 0) = false := by simp; omega
  have d0 : decide ((c : Int) < 0) = false := by simp only [decide_eq_false_iff_not]; omega
  have d1 : decide ((N : Int) ≤ c) = false := by simp only [decide_eq_false_iff_not]; omega
  go_enter Try.func4, Try.ntmps4
  go_wp2_with fail
  refine (long3_any _ ps _ HS.out).mono ?_
  rintro e w0 ⟨r, rfl, hr, m0, rfl⟩
  cases r with
  | true =>
    go_wp2
    go_ret
    exact ⟨rfl, below_drewN (Below.refl _ _) _⟩
  | false =>
    have hbulk := hr rfl
    have HB0 : Hid (Below w.heap.size w (w.drewN m0)) := below_drewN (Below.refl _ _) _
    clear hr
    generalize w.drewN m0 = w0 at *
    go_wp2_with fail
    refine (lives_any _).mono ?_
    rintro e w1 ⟨rfl, hb1⟩
    have HB1 : Hid (Below w.heap.size w w1) := HB0.out.trans (hb1.mono HB0.out.size)
    clear hb1
    go_wp2_with fail
    refine (joined_any _ ps _ (sees_ps_below HS.out HB1.out) hbulk).mono ?_
    rintro e V ⟨va, vl, vat, rfl, hj, hbV⟩
    have hN30 : N ≤ 1073741823 := by
      rw [HN.out, framesL_len, HL.out]
      have := pos_goods ps
      omega
    rw [← HL.out] at hj
    obtain ⟨g, cva, gl, cl, ga, ca, r1, r2, r3, hH⟩ := haveF_join HB1.out.size (HB1.out.trans (hbV.mono HB1.out.size)) HG.out hj hne
    subst r1
    subst r2
    subst r3
    rw [← HN.out]
    have HV : Hid (HaveF w l (framesL (ysOf l)) g cva gl cl ga ca V) := hH
    have hcva : N ≤ cva ∧ cva ≤ 9223372036854775807 := by
      obtain ⟨_, _, e, h1, h2, _⟩ := Sees.own hH.all
      simp at e
      obtain ⟨_, rfl⟩ := e
      unfold maxLen at h2
      rw [HN.out]
      omega
    obtain ⟨hva1, hva2⟩ := hcva
    have hlN : l.length ≤ N := by
      rw [HN.out, framesL_len]
      have := pos_ge (ysOf l)
      rw [ys_len] at this
      exact this
    have HP : Hid (∀ i, pos ((ysOf l).take i) ≤ N) := fun i => by
      rw [HN.out, framesL_len]
      conv => rhs; rw [← List.take_append_drop i (ysOf l), pos_append]
      omega
    have HBy : Hid (Byts (framesL (ysOf l))) := byts_frames (ysOf l) (fun b hb => by
      obtain ⟨p, hp, rfl⟩ := List.mem_map.1 hb
      exact ⟨(HG.out p hp).1.2, (HG.out p hp).2⟩)
    have hlp : 0 < l.length := List.length_pos_iff.2 hne
    clear hH hj hbV hne
    go_wp2_with fail
    go_loopw [12] (fun n wr => ∃ k : Nat, k < l.length ∧ n = .int .i64 k ∧ pos ((ysOf l).take k) ≤ c ∧ wr = V) (fun n _ => l.length - (intOf n).toNat)
    case atStart => exact ⟨0, hlp, rfl, by simp [pos], rfl⟩
    case round =>
      obtain ⟨k, hk, rfl, hpc, rfl⟩ := hrel
      have hqN : pos ((ysOf l).take k) ≤ N := HP.out k
      by_cases hgo : k + 1 < l.length ∧ pos ((ysOf l).take (k + 1)) ≤ c
      · obtain ⟨hk1, hgo⟩ := hgo
        have dk : decide ((k : Int) + 1 < l.length) = true := by simp only [decide_eq_true_eq]; omega
        obtain ⟨q1, hq1⟩ : ∃ q1, q1 = pos ((ysOf l).take (k + 1)) := ⟨_, rfl⟩
        have HQ : Hid (pos ((ysOf l).take (k + 1)) ≤ c) := hgo
        have hcb := HV.out.beg (k + 1) hk1
        rw [← hq1] at hcb hgo
        clear hq1
        have dgo : decide ((q1 : Int) ≤ c) = true := by simp only [decide_eq_true_eq]; omega
        go_wp2
        go_roundw
        case rel => exact ⟨k + 1, hk1, by go_num, HQ.out, trivial⟩
        case measure => simp [intOf]; omega
      · obtain ⟨q, hq⟩ : ∃ q, q = pos ((ysOf l).take k) := ⟨_, rfl⟩
        have HQ : Hid (q = pos ((ysOf l).take k)) := hq
        rw [← hq] at hpc hqN
        have hkl : k < (ysOf l).length := by rw [ys_len]; exact hk
        have hpn := pos_next hkl
        rw [ys_at hk, ← hq] at hpn
        have hcut : c < q + (l[k].ys.length + 9) := by
          rw [← hpn]
          by_cases hk1 : k + 1 < l.length
          · have : ¬ pos ((ysOf l).take (k + 1)) ≤ c := fun h => hgo ⟨hk1, h⟩
            omega
          · rw [List.take_of_length_le (by rw [ys_len]; omega), ← framesL_len, ← HN.out]
            exact hcN
        have hq1N : q + (l[k].ys.length + 9) ≤ N := by rw [← hpn]; exact HP.out (k + 1)
        have HPN : Hid (pos ((ysOf l).take (k + 1)) = q + (l[k].ys.length + 9)) := hpn
        have hca := HV.out.beg k hk
        rw [← hq] at hca
        clear hq hpn hkl
        by_cases hk1 : k + 1 < l.length
        · have dk : decide ((k : Int) + 1 < l.length) = true := by simp only [decide_eq_true_eq]; omega
          obtain ⟨q1, hq1⟩ : ∃ q1, q1 = pos ((ysOf l).take (k + 1)) := ⟨_, rfl⟩
          have hgt : ¬ pos ((ysOf l).take (k + 1)) ≤ c := fun h => hgo ⟨hk1, h⟩
          have hcb := HV.out.beg (k + 1) hk1
          rw [← hq1] at hcb hgt
          clear hq1 hgo
          have dgo : decide ((q1 : Int) ≤ c) = false := by simp only [decide_eq_false_iff_not]; omega
          by_cases h4 : c < q + 4
          · have d4 : decide ((c : Int) < (q : Int) + 4) = true := by simp only [decide_eq_true_eq]; omega
            go_wp2
            go_ret
            exact ⟨rfl, HV.out.below⟩
          · have d4 : decide ((c : Int) < (q : Int) + 4) = false := by simp only [decide_eq_false_iff_not]; omega
            have hcF : c < (framesL (ysOf l)).length := by rw [← HN.out]; exact hcN
            have cc := owns_cell HV.out.all c hcF
            have cf := HV.out.all.frozenAt c
            have hxb := HBy.out.nth c
            obtain ⟨x, hx⟩ : ∃ x, x = (framesL (ysOf l)).getD c 0 := ⟨_, rfl⟩
            rw [← hx] at cc hxb
            have hy := xor_byte x a2 hxb.1 hxb.2 (by omega) ha1
            have hyne := xor_turns x a2 hxb.1 hxb.2 ha0 ha1
            have HXE : Hid (bits .xor .u8 x a2 ≠ (framesL (ysOf l)).getD c 0) := by rw [← hx]; exact hyne
            have HGB : Hid (∀ b ∈ ysOf l, isSz b.length = true ∧ Byts b) := fun b hb => by
              obtain ⟨p, hp, rfl⟩ := List.mem_map.1 hb
              exact ⟨(HG.out p hp).2, (HG.out p hp).1.2⟩
            have HT : Hid (Bodies ((framesL (ysOf l)).set c (bits .xor .u8 x a2)) ((ysOf l).take k)) :=
              bodies_turned (ysOf l) k c _ HGB.out (by rw [ys_len]; exact hk) (by rw [← HQ.out]; omega) (by rw [HPN.out]; exact hcut) hy.1 hy.2 HXE.out
            have HZ : Hid (bodyLen ((((framesL (ysOf l)).set c (bits .xor .u8 x a2)).drop q).take (l[k].ys.length + 9)) = 0) := by
              have := cut_none (ysOf l) k c (bits .xor .u8 x a2) (by rw [ys_len]; exact hk) HGB.out (by rw [← HQ.out]; omega) (by rw [HPN.out]; exact hcut) hy.1 hy.2 HXE.out
              rw [ys_at hk, ← HQ.out] at this
              exact this
            have HB2 : Hid (Byts ((framesL (ysOf l)).set c (bits .xor .u8 x a2))) := byts_set HBy.out c _ hy.1 hy.2
            have HV2 : Hid (HaveF w l ((framesL (ysOf l)).set c (bits .xor .u8 x a2)) g cva gl cl ga ca (wr.setCell ⟨g, c, none⟩ (.int .u8 (bits .xor .u8 x a2)))) := HV.out.turn c _
            have HFL : Hid (((framesL (ysOf l)).set c (bits .xor .u8 x a2)).length = N) := by
              show ((framesL (ysOf l)).set c (bits .xor .u8 x a2)).length = N
              rw [List.length_set]; exact HN.out.symm
            clear hx hyne
            go_wp2_with fail
            clear cc cf
            obtain ⟨F2, hF2⟩ : ∃ F2, F2 = (framesL (ysOf l)).set c (bits .xor .u8 x a2) := ⟨_, rfl⟩
            rw [← hF2] at HT HZ HB2 HV2 HFL
            clear hF2 HXE
            generalize wr.setCell ⟨g, c, none⟩ (.int .u8 (bits .xor .u8 x a2)) = V2 at *
            have HSe : Hid (∀ {wx : World}, HaveF w l F2 g cva gl cl ga ca wx → Sees wx (.slice (some ⟨g, 0, none⟩) N cva) F2) := fun hx => by
              have := Sees.own hx.all
              rw [HFL.out] at this
              exact this
            refine (through_torn _ F2 ((ysOf l).take k) _ (HSe.out HV2.out) HB2.out (by have := HFL.out; omega) HT.out).mono ?_
            have HLk : Hid (((ysOf l).take k).length = k) := by show ((ysOf l).take k).length = k; rw [List.length_take, ys_len]; omega
            rw [HLk.out]
            rintro e w5 ⟨it, b1, b2, b3, b4, rfl, hbods, hitl, hSeen, hb5⟩
            have HV5 : Hid (HaveF w l F2 g cva gl cl ga ca w5) := HV2.out.later hb5
            obtain ⟨n5, hn5⟩ : ∃ n5, Seen n5 F2 it (.slice b1 k b2) (.slice b3 k b4) w5 := ⟨_, hSeen⟩
            have HS5 : Hid (Seen n5 F2 it (.slice b1 k b2) (.slice b3 k b4) w5 ∧ bods (flat it) = (ysOf l).take k ∧ it.length = k) := ⟨hn5, hbods, hitl⟩
            clear hSeen hb5 hn5 hbods hitl HV HV2
            go_wp2_with fail
            obtain ⟨w6, hw6⟩ : ∃ w6, w5.alloc (.cells #[.slice b1 k b2, .slice b3 k b4] 30) = w6 := ⟨_, rfl⟩
            have B6 : Below w5.heap.size w5 w6.drew := by rw [← hw6]; exact ((Below.refl _ _).alloc (Nat.le_refl _) _).trans ⟨rfl, rfl, rfl, Nat.le_refl _, fun _ _ => rfl⟩
            have hbx6 : w6.drew.heap[w5.heap.size]? = some (.cells #[.slice b1 k b2, .slice b3 k b4] 30 (0, 0)) := by
              rw [← hw6]; exact heap_alloc_new _ _
            have HW6 : Hid (HaveF w l F2 g cva gl cl ga ca w6.drew) := HV5.out.later B6
            have t0 : w6.drew.cell? ⟨w5.heap.size, 0, none⟩ = some (.slice b1 k b2) := cell_of_row w6.drew w5.heap.size 0 _ _ _ hbx6
            have t1 : w6.drew.cell? ⟨ga, k, none⟩ = some (.int .i64 q) := by have := HW6.out.beg k hk; rw [← HQ.out] at this; exact this
            have HWh : Hid (Calls Try.prog 10 #[.slice (some ⟨g, 0, none⟩) N cva] w6.drew fun e w' => e = .returned (.int .i64 q) ∧ Below w6.drew.heap.size w6.drew w') := by
              have := whole_torn (.slice (some ⟨g, 0, none⟩) N cva) F2 ((ysOf l).take k) w6.drew (HSe.out HW6.out) (.inr ⟨g, 0, cva, by rw [HFL.out]⟩) (fun x hx => rows_lt HW6.out.all hx) HB2.out (by have := HFL.out; omega) HT.out
              rw [← HQ.out] at this
              exact this
            have H56 : Hid (Below w5.heap.size w5 w6.drew ∧ w6.drew.heap[w5.heap.size]? = some (.cells #[.slice b1 k b2, .slice b3 k b4] 30 (0, 0))) := ⟨B6, hbx6⟩
            clear B6 hbx6 hca
            rw [hw6]
            clear hw6
            go_region_held (fun w' => w'.cell? ⟨w5.heap.size, 0, none⟩ = some (.slice b1 k b2) ∧ w'.cell? ⟨ga, k, none⟩ = some (.int .i64 q)) (first | exact ⟨t0, t1⟩ | exact ⟨u0, u1⟩)
              (first | (go_at_call 10; refine Calls.mono HWh.out ?_; rintro e w7 ⟨rfl, hb7⟩; have H7 : Hid (Below w6.drew.heap.size w6.drew w7) := hb7; have u0 : w7.cell? ⟨w5.heap.size, 0, none⟩ = some (.slice b1 k b2) := cell_later t0 hb7 (Nat.le_refl _); have u1 : w7.cell? ⟨ga, k, none⟩ = some (.int .i64 q) := cell_later t1 hb7 (Nat.le_refl _); clear hb7))
            all_goals go_wp2_with fail
            have HV7 : Hid (HaveF w l F2 g cva gl cl ga ca w7) := HW6.out.later H7.out
            have HS7 : Hid (Seen n5 F2 it (.slice b1 k b2) (.slice b3 k b4) w7 ∧ bods (flat it) = (ysOf l).take k ∧ it.length = k) := by
              have B7 : Below w5.heap.size w5 w7 := H56.out.1.trans (H7.out.mono H56.out.1.size)
              obtain ⟨s1, s2, s3⟩ := HS5.out
              exact ⟨⟨s1.whole, s1.right, row_kept s1.pl (kept_below B7 (fun _ => False)) (fun _ _ h => h), row_kept s1.bo (kept_below B7 (fun _ => False)) (fun _ _ h => h), fun x hx => row_kept (s1.it x hx) (kept_below B7 (fun _ => False)) (fun _ _ h => h), s1.nd⟩, s2, s3⟩
            have cx1 : w7.cell? ⟨w5.heap.size, 1, none⟩ = some (.slice b3 k b4) := by
              have := cell_of_row w7 w5.heap.size 1 _ _ _ (by rw [H7.out.block _ (lt_of_block H56.out.2)]; exact H56.out.2)
              exact this
            clear t0 t1 u0 HWh HW6 H56 H7 HS5 HV5
            go_loopw [14] (fun i wr => ∃ j m : Nat, j ≤ k ∧ i = .int .i64 j ∧ wr = w7.drewN m) (fun i _ => k - (intOf i).toNat)
            case atStart => exact ⟨0, 0, Nat.zero_le _, rfl, rfl⟩
            case round =>
              obtain ⟨j, m2, hj, rfl, hwr⟩ := hrel
              have HW : Hid (wr = w7.drewN m2) := hwr
              have HVr : Hid (HaveF w l F2 g cva gl cl ga ca wr) := by
                have := HV7.out.later (below_drewN (Below.refl _ _) m2)
                rw [← hwr] at this
                exact this
              by_cases hjk : j < k
              · have dj : decide ((j : Int) < k) = true := by simp only [decide_eq_true_eq]; omega
                have djn : decide (j < k) = true := by simp only [decide_eq_true_eq]; exact hjk
                have hkl2 : j < l.length := by omega
                obtain ⟨hpl, gx, hit, hox⟩ := seen_at HS7.out.1 HS7.out.2.1 HS7.out.2.2 j hjk (by rw [ys_len]; omega)
                obtain ⟨gb, cb, eb, _, _, hcb2⟩ := row_cell HS7.out.1.bo (by rw [HS7.out.2.2]; omega)
                have c2 := hcb2 j (by rw [HS7.out.2.2]; omega)
                rw [hit] at c2
                have cx1' : wr.cell? ⟨w5.heap.size, 1, none⟩ = some (.slice b3 k b4) := by rw [hwr]; exact cx1
                rw [HS7.out.2.2] at eb
                simp only [Value.slice.injEq, true_and] at eb
                obtain ⟨eb1, eb2⟩ := eb
                subst eb1
                have yj := ys_at hkl2
                rw [yj] at c2 hox
                have c2' : wr.cell? ⟨gb, j, none⟩ = some (.slice (some ⟨gx, 0, none⟩) l[j].ys.length l[j].ys.length) := by rw [hwr]; exact c2
                have c3 := HVr.out.lst j hkl2
                have hgd := (HG.out l[j] (List.getElem_mem hkl2)).1
                have HX : Hid (Sees w7 (.slice (some ⟨gx, 0, none⟩) l[j].ys.length l[j].ys.length) l[j].ys ∧ Sees w7 (.slice l[j].ao l[j].ys.length l[j].cap) l[j].ys) := ⟨Sees.own hox, hgd.1.below HV7.out.below (Nat.le_refl _)⟩
                have HX3 : Hid (∀ m, Calls Try.prog 11 #[.slice (some ⟨gx, 0, none⟩) l[j].ys.length l[j].ys.length, .slice l[j].ao l[j].ys.length l[j].cap] (wr.drewN m) fun e w' => e = .returned (.bool true) ∧ ∃ n, w' = (wr.drewN m).drewN n) := fun m => by rw [hwr]; exact eqBytes_same _ _ l[j].ys _ HX.out.1 HX.out.2
                clear hpl hit hox hcb2 eb2 yj hgd HX hwr c2 cx1
                generalize l[j].ys.length = n at *
                generalize l[j].ao = po2 at *
                generalize l[j].cap = pc2 at *
                go_wp2
                go_quiet ((go_at_call 11; exact Calls.quiet_of (HX3.out _)))
                all_goals go_wp2
                all_goals go_roundw
                case rel => exact ⟨j + 1, m2 + nq, by omega, by go_num, by rw [HW.out, World.drewN_drewN]⟩
                case measure => simp [intOf]; omega
              · have dj : decide ((j : Int) < k) = false := by simp only [decide_eq_false_iff_not]; omega
                have HD : Hid (HaveF w l F2 g cva gl cl ga ca wr.drew) := HVr.out.later ⟨rfl, rfl, rfl, Nat.le_refl _, fun _ _ => rfl⟩
                have t0 : wr.drew.cell? ⟨ga, k, none⟩ = some (.int .i64 q) := by have := HD.out.beg k hk; rw [← HQ.out] at this; exact this
                have t1 : wr.drew.cell? ⟨gl, k, none⟩ = some (.slice l[k].ao l[k].ys.length l[k].cap) := HD.out.lst k hk
                have hsl := fun wx => run_part g N cva q l[k].ys.length (by omega) hva1 hva2 wx
                have HOn : Hid (Calls Try.prog 12 #[.slice (some ⟨g, q, none⟩) (l[k].ys.length + 9) (cva - q)] wr.drew fun e w' => e = .returned (.tuple #[.slice none 0 0, .int .i64 30]) ∧ Below wr.drew.heap.size wr.drew w') := by
                  have hs := sees_cut (Sees.own HD.out.all) (i := q) (j := q + (l[k].ys.length + 9)) (by omega) (by rw [HFL.out]; exact hq1N)
                  rw [Nat.add_sub_cancel_left, Nat.zero_add] at hs
                  exact one_bad _ _ _ hs ((HB2.out.drop q).take _) (by simp; have := HFL.out; omega) (.inl HZ.out)
                obtain ⟨lk1, lk2⟩ : l[k].ys.length ≤ l[k].cap ∧ l[k].cap ≤ 9223372036854775807 := by
                  obtain ⟨_, _, e, h1, h2, _⟩ := (HG.out l[k] (List.getElem_mem hk)).1.1
                  simp [Pcd.v] at e
                  obtain ⟨_, e⟩ := e
                  unfold maxLen at h2
                  omega
                have HBw : Hid (Below w.heap.size w wr.drew) := HD.out.below
                clear hwr HZ HPN
                generalize l[k].ys.length = n at *
                generalize l[k].ao = po2 at *
                generalize l[k].cap = pc2 at *
                go_wp2_with fail
                go_region_held (fun w' => w'.cell? ⟨ga, k, none⟩ = some (.int .i64 q) ∧ w'.cell? ⟨gl, k, none⟩ = some (.slice po2 n pc2)) (first | exact ⟨t0, t1⟩ | exact ⟨u0, u1⟩)
                  (first | (go_at_call 12; refine Calls.mono HOn.out ?_; rintro e w8 ⟨rfl, hb8⟩; have H8 : Hid (Below w.heap.size w w8) := HBw.out.trans (hb8.mono HBw.out.size); have u0 : w8.cell? ⟨ga, k, none⟩ = some (.int .i64 q) := cell_later t0 hb8 (Nat.le_refl _); have u1 : w8.cell? ⟨gl, k, none⟩ = some (.slice po2 n pc2) := cell_later t1 hb8 (Nat.le_refl _); clear hb8))
                all_goals go_wp2
                all_goals go_ret
                all_goals exact ⟨rfl, H8.out⟩
        · have dk : decide ((k : Int) + 1 < l.length) = false := by simp only [decide_eq_false_iff_not]; omega
          clear hgo
          by_cases h4 : c < q + 4
          · have d4 : decide ((c : Int) < (q : Int) + 4) = true := by simp only [decide_eq_true_eq]; omega
            go_wp2
            go_ret
            exact ⟨rfl, HV.out.below⟩
          · have d4 : decide ((c : Int) < (q : Int) + 4) = false := by simp only [decide_eq_false_iff_not]; omega
            have hcF : c < (framesL (ysOf l)).length := by rw [← HN.out]; exact hcN
            have cc := owns_cell HV.out.all c hcF
            have cf := HV.out.all.frozenAt c
            have hxb := HBy.out.nth c
            obtain ⟨x, hx⟩ : ∃ x, x = (framesL (ysOf l)).getD c 0 := ⟨_, rfl⟩
            rw [← hx] at cc hxb
            have hy := xor_byte x a2 hxb.1 hxb.2 (by omega) ha1
            have hyne := xor_turns x a2 hxb.1 hxb.2 ha0 ha1
            have HXE : Hid (bits .xor .u8 x a2 ≠ (framesL (ysOf l)).getD c 0) := by rw [← hx]; exact hyne
            have HGB : Hid (∀ b ∈ ysOf l, isSz b.length = true ∧ Byts b) := fun b hb => by
              obtain ⟨p, hp, rfl⟩ := List.mem_map.1 hb
              exact ⟨(HG.out p hp).2, (HG.out p hp).1.2⟩
            have HT : Hid (Bodies ((framesL (ysOf l)).set c (bits .xor .u8 x a2)) ((ysOf l).take k)) :=
              bodies_turned (ysOf l) k c _ HGB.out (by rw [ys_len]; exact hk) (by rw [← HQ.out]; omega) (by rw [HPN.out]; exact hcut) hy.1 hy.2 HXE.out
            have HZ : Hid (bodyLen ((((framesL (ysOf l)).set c (bits .xor .u8 x a2)).drop q).take (l[k].ys.length + 9)) = 0) := by
              have := cut_none (ysOf l) k c (bits .xor .u8 x a2) (by rw [ys_len]; exact hk) HGB.out (by rw [← HQ.out]; omega) (by rw [HPN.out]; exact hcut) hy.1 hy.2 HXE.out
              rw [ys_at hk, ← HQ.out] at this
              exact this
            have HB2 : Hid (Byts ((framesL (ysOf l)).set c (bits .xor .u8 x a2))) := byts_set HBy.out c _ hy.1 hy.2
            have HV2 : Hid (HaveF w l ((framesL (ysOf l)).set c (bits .xor .u8 x a2)) g cva gl cl ga ca (wr.setCell ⟨g, c, none⟩ (.int .u8 (bits .xor .u8 x a2)))) := HV.out.turn c _
            have HFL : Hid (((framesL (ysOf l)).set c (bits .xor .u8 x a2)).length = N) := by
              show ((framesL (ysOf l)).set c (bits .xor .u8 x a2)).length = N
              rw [List.length_set]; exact HN.out.symm
            clear hx hyne
            go_wp2_with fail
            clear cc cf
            obtain ⟨F2, hF2⟩ : ∃ F2, F2 = (framesL (ysOf l)).set c (bits .xor .u8 x a2) := ⟨_, rfl⟩
            rw [← hF2] at HT HZ HB2 HV2 HFL
            clear hF2 HXE
            generalize wr.setCell ⟨g, c, none⟩ (.int .u8 (bits .xor .u8 x a2)) = V2 at *
            have HSe : Hid (∀ {wx : World}, HaveF w l F2 g cva gl cl ga ca wx → Sees wx (.slice (some ⟨g, 0, none⟩) N cva) F2) := fun hx => by
              have := Sees.own hx.all
              rw [HFL.out] at this
              exact this
            refine (through_torn _ F2 ((ysOf l).take k) _ (HSe.out HV2.out) HB2.out (by have := HFL.out; omega) HT.out).mono ?_
            have HLk : Hid (((ysOf l).take k).length = k) := by show ((ysOf l).take k).length = k; rw [List.length_take, ys_len]; omega
            rw [HLk.out]
            rintro e w5 ⟨it, b1, b2, b3, b4, rfl, hbods, hitl, hSeen, hb5⟩
            have HV5 : Hid (HaveF w l F2 g cva gl cl ga ca w5) := HV2.out.later hb5
            obtain ⟨n5, hn5⟩ : ∃ n5, Seen n5 F2 it (.slice b1 k b2) (.slice b3 k b4) w5 := ⟨_, hSeen⟩
            have HS5 : Hid (Seen n5 F2 it (.slice b1 k b2) (.slice b3 k b4) w5 ∧ bods (flat it) = (ysOf l).take k ∧ it.length = k) := ⟨hn5, hbods, hitl⟩
            clear hSeen hb5 hn5 hbods hitl HV HV2
            go_wp2_with fail
            obtain ⟨w6, hw6⟩ : ∃ w6, w5.alloc (.cells #[.slice b1 k b2, .slice b3 k b4] 30) = w6 := ⟨_, rfl⟩
            have B6 : Below w5.heap.size w5 w6.drew := by rw [← hw6]; exact ((Below.refl _ _).alloc (Nat.le_refl _) _).trans ⟨rfl, rfl, rfl, Nat.le_refl _, fun _ _ => rfl⟩
            have hbx6 : w6.drew.heap[w5.heap.size]? = some (.cells #[.slice b1 k b2, .slice b3 k b4] 30 (0, 0)) := by
              rw [← hw6]; exact heap_alloc_new _ _
            have HW6 : Hid (HaveF w l F2 g cva gl cl ga ca w6.drew) := HV5.out.later B6
            have t0 : w6.drew.cell? ⟨w5.heap.size, 0, none⟩ = some (.slice b1 k b2) := cell_of_row w6.drew w5.heap.size 0 _ _ _ hbx6
            have t1 : w6.drew.cell? ⟨ga, k, none⟩ = some (.int .i64 q) := by have := HW6.out.beg k hk; rw [← HQ.out] at this; exact this
            have HWh : Hid (Calls Try.prog 10 #[.slice (some ⟨g, 0, none⟩) N cva] w6.drew fun e w' => e = .returned (.int .i64 q) ∧ Below w6.drew.heap.size w6.drew w') := by
              have := whole_torn (.slice (some ⟨g, 0, none⟩) N cva) F2 ((ysOf l).take k) w6.drew (HSe.out HW6.out) (.inr ⟨g, 0, cva, by rw [HFL.out]⟩) (fun x hx => rows_lt HW6.out.all hx) HB2.out (by have := HFL.out; omega) HT.out
              rw [← HQ.out] at this
              exact this
            have H56 : Hid (Below w5.heap.size w5 w6.drew ∧ w6.drew.heap[w5.heap.size]? = some (.cells #[.slice b1 k b2, .slice b3 k b4] 30 (0, 0))) := ⟨B6, hbx6⟩
            clear B6 hbx6 hca
            rw [hw6]
            clear hw6
            go_region_held (fun w' => w'.cell? ⟨w5.heap.size, 0, none⟩ = some (.slice b1 k b2) ∧ w'.cell? ⟨ga, k, none⟩ = some (.int .i64 q)) (first | exact ⟨t0, t1⟩ | exact ⟨u0, u1⟩)
              (first | (go_at_call 10; refine Calls.mono HWh.out ?_; rintro e w7 ⟨rfl, hb7⟩; have H7 : Hid (Below w6.drew.heap.size w6.drew w7) := hb7; have u0 : w7.cell? ⟨w5.heap.size, 0, none⟩ = some (.slice b1 k b2) := cell_later t0 hb7 (Nat.le_refl _); have u1 : w7.cell? ⟨ga, k, none⟩ = some (.int .i64 q) := cell_later t1 hb7 (Nat.le_refl _); clear hb7))
            all_goals go_wp2_with fail
            have HV7 : Hid (HaveF w l F2 g cva gl cl ga ca w7) := HW6.out.later H7.out
            have HS7 : Hid (Seen n5 F2 it (.slice b1 k b2) (.slice b3 k b4) w7 ∧ bods (flat it) = (ysOf l).take k ∧ it.length = k) := by
              have B7 : Below w5.heap.size w5 w7 := H56.out.1.trans (H7.out.mono H56.out.1.size)
              obtain ⟨s1, s2, s3⟩ := HS5.out
              exact ⟨⟨s1.whole, s1.right, row_kept s1.pl (kept_below B7 (fun _ => False)) (fun _ _ h => h), row_kept s1.bo (kept_below B7 (fun _ => False)) (fun _ _ h => h), fun x hx => row_kept (s1.it x hx) (kept_below B7 (fun _ => False)) (fun _ _ h => h), s1.nd⟩, s2, s3⟩
            have cx1 : w7.cell? ⟨w5.heap.size, 1, none⟩ = some (.slice b3 k b4) := by
              have := cell_of_row w7 w5.heap.size 1 _ _ _ (by rw [H7.out.block _ (lt_of_block H56.out.2)]; exact H56.out.2)
              exact this
            clear t0 t1 u0 HWh HW6 H56 H7 HS5 HV5
            go_loopw [14] (fun i wr => ∃ j m : Nat, j ≤ k ∧ i = .int .i64 j ∧ wr = w7.drewN m) (fun i _ => k - (intOf i).toNat)
            case atStart => exact ⟨0, 0, Nat.zero_le _, rfl, rfl⟩
            case round =>
              obtain ⟨j, m2, hj, rfl, hwr⟩ := hrel
              have HW : Hid (wr = w7.drewN m2) := hwr
              have HVr : Hid (HaveF w l F2 g cva gl cl ga ca wr) := by
                have := HV7.out.later (below_drewN (Below.refl _ _) m2)
                rw [← hwr] at this
                exact this
              by_cases hjk : j < k
              · have dj : decide ((j : Int) < k) = true := by simp only [decide_eq_true_eq]; omega
                have djn : decide (j < k) = true := by simp only [decide_eq_true_eq]; exact hjk
                have hkl2 : j < l.length := by omega
                obtain ⟨hpl, gx, hit, hox⟩ := seen_at HS7.out.1 HS7.out.2.1 HS7.out.2.2 j hjk (by rw [ys_len]; omega)
                obtain ⟨gb, cb, eb, _, _, hcb2⟩ := row_cell HS7.out.1.bo (by rw [HS7.out.2.2]; omega)
                have c2 := hcb2 j (by rw [HS7.out.2.2]; omega)
                rw [hit] at c2
                have cx1' : wr.cell? ⟨w5.heap.size, 1, none⟩ = some (.slice b3 k b4) := by rw [hwr]; exact cx1
                rw [HS7.out.2.2] at eb
                simp only [Value.slice.injEq, true_and] at eb
                obtain ⟨eb1, eb2⟩ := eb
                subst eb1
                have yj := ys_at hkl2
                rw [yj] at c2 hox
                have c2' : wr.cell? ⟨gb, j, none⟩ = some (.slice (some ⟨gx, 0, none⟩) l[j].ys.length l[j].ys.length) := by rw [hwr]; exact c2
                have c3 := HVr.out.lst j hkl2
                have hgd := (HG.out l[j] (List.getElem_mem hkl2)).1
                have HX : Hid (Sees w7 (.slice (some ⟨gx, 0, none⟩) l[j].ys.length l[j].ys.length) l[j].ys ∧ Sees w7 (.slice l[j].ao l[j].ys.length l[j].cap) l[j].ys) := ⟨Sees.own hox, hgd.1.below HV7.out.below (Nat.le_refl _)⟩
                have HX3 : Hid (∀ m, Calls Try.prog 11 #[.slice (some ⟨gx, 0, none⟩) l[j].ys.length l[j].ys.length, .slice l[j].ao l[j].ys.length l[j].cap] (wr.drewN m) fun e w' => e = .returned (.bool true) ∧ ∃ n, w' = (wr.drewN m).drewN n) := fun m => by rw [hwr]; exact eqBytes_same _ _ l[j].ys _ HX.out.1 HX.out.2
                clear hpl hit hox hcb2 eb2 yj hgd HX hwr c2 cx1
                generalize l[j].ys.length = n at *
                generalize l[j].ao = po2 at *
                generalize l[j].cap = pc2 at *
                go_wp2
                go_quiet ((go_at_call 11; exact Calls.quiet_of (HX3.out _)))
                all_goals go_wp2
                all_goals go_roundw
                case rel => exact ⟨j + 1, m2 + nq, by omega, by go_num, by rw [HW.out, World.drewN_drewN]⟩
                case measure => simp [intOf]; omega
              · have dj : decide ((j : Int) < k) = false := by simp only [decide_eq_false_iff_not]; omega
                have HD : Hid (HaveF w l F2 g cva gl cl ga ca wr.drew) := HVr.out.later ⟨rfl, rfl, rfl, Nat.le_refl _, fun _ _ => rfl⟩
                have t0 : wr.drew.cell? ⟨ga, k, none⟩ = some (.int .i64 q) := by have := HD.out.beg k hk; rw [← HQ.out] at this; exact this
                have t1 : wr.drew.cell? ⟨gl, k, none⟩ = some (.slice l[k].ao l[k].ys.length l[k].cap) := HD.out.lst k hk
                have hsl := fun wx => run_part g N cva q l[k].ys.length (by omega) hva1 hva2 wx
                have HOn : Hid (Calls Try.prog 12 #[.slice (some ⟨g, q, none⟩) (l[k].ys.length + 9) (cva - q)] wr.drew fun e w' => e = .returned (.tuple #[.slice none 0 0, .int .i64 30]) ∧ Below wr.drew.heap.size wr.drew w') := by
                  have hs := sees_cut (Sees.own HD.out.all) (i := q) (j := q + (l[k].ys.length + 9)) (by omega) (by rw [HFL.out]; exact hq1N)
                  rw [Nat.add_sub_cancel_left, Nat.zero_add] at hs
                  exact one_bad _ _ _ hs ((HB2.out.drop q).take _) (by simp; have := HFL.out; omega) (.inl HZ.out)
                obtain ⟨lk1, lk2⟩ : l[k].ys.length ≤ l[k].cap ∧ l[k].cap ≤ 9223372036854775807 := by
                  obtain ⟨_, _, e, h1, h2, _⟩ := (HG.out l[k] (List.getElem_mem hk)).1.1
                  simp [Pcd.v] at e
                  obtain ⟨_, e⟩ := e
                  unfold maxLen at h2
                  omega
                have HBw : Hid (Below w.heap.size w wr.drew) := HD.out.below
                clear hwr HZ HPN
                generalize l[k].ys.length = n at *
                generalize l[k].ao = po2 at *
                generalize l[k].cap = pc2 at *
                go_wp2_with fail
                go_region_held (fun w' => w'.cell? ⟨ga, k, none⟩ = some (.int .i64 q) ∧ w'.cell? ⟨gl, k, none⟩ = some (.slice po2 n pc2)) (first | exact ⟨t0, t1⟩ | exact ⟨u0, u1⟩)
                  (first | (go_at_call 12; refine Calls.mono HOn.out ?_; rintro e w8 ⟨rfl, hb8⟩; have H8 : Hid (Below w.heap.size w w8) := HBw.out.trans (hb8.mono HBw.out.size); have u0 : w8.cell? ⟨ga, k, none⟩ = some (.int .i64 q) := cell_later t0 hb8 (Nat.le_refl _); have u1 : w8.cell? ⟨gl, k, none⟩ = some (.slice po2 n pc2) := cell_later t1 hb8 (Nat.le_refl _); clear hb8))
                all_goals go_wp2
                all_goals go_ret
                all_goals exact ⟨rfl, H8.out⟩

end frameTurned
end Go.Proofs.Ytabkjcgcnimoaaa
