/- A part of the walk of FrameTorn. -/
import Derived.Test.YtabkjcgcnimoaaaTornH
namespace Go.Proofs.Ytabkjcgcnimoaaa
open Go.ChangeShapes Go.WideShapes Go.ChangeAt Go.RowKit
set_option maxRecDepth 8000
namespace frameTorn
set_option linter.unusedVariables false

set_option maxHeartbeats 4000000 in
theorem torn3 (ao : Option Addr) (cap : Nat) (ps : List Pcd) (a1 : Int) (c : Nat) (w : World) (h : SeesPs w (.slice ao ps.length cap) ps) (hne : goods ps ≠ []) (hcN : c ≤ (framesL (ysOf (goods ps))).length) (h0 : 0 ≤ a1) (h1 : a1 = c) :
    Calls Try.prog 3 #[.slice ao ps.length cap, .int .i64 a1] w fun e w' => e = .returned (.bool true) ∧ Below w.heap.size w w' := by
  have HS : Hid (SeesPs w (.slice ao ps.length cap) ps) := h
  have hc0 : ps.length ≤ cap ∧ cap ≤ 9223372036854775807 := by
    obtain ⟨_, _, e, h1, h2, _⟩ := h
    simp at e
    obtain ⟨_, rfl⟩ := e
    unfold maxLen at h2
    omega
  obtain ⟨hc1, hc2⟩ := hc0
  clear h
  obtain ⟨l, hl⟩ : ∃ l, l = goods ps := ⟨_, rfl⟩
  have hg : ∀ p ∈ l, Good w p ∧ isSz p.ys.length = true := fun p hp => by
    rw [hl] at hp
    have := List.mem_filter.1 hp
    obtain ⟨_, _, _, _, _, hgd, _⟩ := HS.out
    exact ⟨hgd p this.1, this.2⟩
  rw [← hl] at hne hcN
  have HL : Hid (l = goods ps) := hl
  have HG : Hid (∀ p ∈ l, Good w p ∧ isSz p.ys.length = true) := hg
  clear hg hl
  obtain ⟨N, hN⟩ : ∃ N, N = (framesL (ysOf l)).length := ⟨_, rfl⟩
  rw [← hN] at hcN
  have HN : Hid (N = (framesL (ysOf l)).length) := hN
  clear hN
  have d0 : decide (a1 < 0) = false := by simp only [decide_eq_false_iff_not]; omega
  have d1 : decide ((N : Int) < a1) = false := by simp only [decide_eq_false_iff_not]; omega
  subst h1
  go_enter Try.func3, Try.ntmps3
  go_wp2_with fail
  refine (long3_any _ ps _ HS.out).mono ?_
  rintro e w0 ⟨r, rfl, hr, m0, rfl⟩
  cases r with
  | true =>
    go_wp2
    go_ret
    exact ⟨rfl, below_drewN (Below.refl _ _) _⟩
  | false =>
    have hbulk := hr rfl
    have HB0 : Hid (Below w.heap.size w (w.drewN m0)) := below_drewN (Below.refl _ _) _
    clear hr
    generalize w.drewN m0 = w0 at *
    go_wp2_with fail
    refine (lives_any _).mono ?_
    rintro e w1 ⟨rfl, hb1⟩
    have HB1 : Hid (Below w.heap.size w w1) := HB0.out.trans (hb1.mono HB0.out.size)
    clear hb1
    go_wp2_with fail
    refine (joined_any _ ps _ (sees_ps_below HS.out HB1.out) hbulk).mono ?_
    rintro e V ⟨va, vl, vat, rfl, hj, hbV⟩
    have hN30 : N ≤ 1073741823 := by
      rw [HN.out, framesL_len, HL.out]
      have := pos_goods ps
      omega
    rw [← HL.out] at hj
    obtain ⟨g, cva, gl, cl, ga, ca, r1, r2, r3, hH⟩ := have_join (HB1.out.trans (hbV.mono HB1.out.size)) HG.out hj hne
    subst r1
    subst r2
    subst r3
    rw [← HN.out]
    have HV : Hid (Have w l g cva gl cl ga ca V) := hH
    have hcva : N ≤ cva ∧ cva ≤ 9223372036854775807 := by
      obtain ⟨_, _, e, h1, h2, _⟩ := Sees.own hH.all
      simp at e
      obtain ⟨_, rfl⟩ := e
      unfold maxLen at h2
      rw [HN.out]
      omega
    obtain ⟨hva1, hva2⟩ := hcva
    have hlN : l.length ≤ N := by
      rw [HN.out, framesL_len]
      have := pos_ge (ysOf l)
      rw [ys_len] at this
      exact this
    have HP : Hid (∀ i, pos ((ysOf l).take i) ≤ N) := fun i => by
      rw [HN.out, framesL_len]
      conv => rhs; rw [← List.take_append_drop i (ysOf l), pos_append]
      omega
    have HBy : Hid (Byts (framesL (ysOf l))) := byts_frames (ysOf l) (fun b hb => by
      obtain ⟨p, hp, rfl⟩ := List.mem_map.1 hb
      exact ⟨(HG.out p hp).1.2, (HG.out p hp).2⟩)
    clear hH hj hbV
    go_wp2_with fail
    go_loopw [10, 11] (fun n e wr => ∃ k m : Nat, k ≤ l.length ∧ n = .int .i64 k ∧ e = .int .i64 (pos ((ysOf l).take k)) ∧ pos ((ysOf l).take k) ≤ c ∧ wr = V.drewN m) (fun n _ _ => l.length - (intOf n).toNat)
    case atStart => exact ⟨0, 0, Nat.zero_le _, rfl, rfl, by simp [pos], rfl⟩
    case round =>
      obtain ⟨k, m, hk, rfl, rfl, hpc, rfl⟩ := hrel
      obtain ⟨q, hq⟩ : ∃ q, q = pos ((ysOf l).take k) := ⟨_, rfl⟩
      have HQ : Hid (q = pos ((ysOf l).take k)) := hq
      rw [← hq] at hpc ⊢
      clear hq
      have hqN : q ≤ N := by rw [HQ.out]; exact HP.out k
      by_cases hlt : k < l.length
      · have dk : decide ((k : Int) < l.length) = true := by simp only [decide_eq_true_eq]; omega
        have dkn : decide (k < l.length) = true := by simp only [decide_eq_true_eq]; exact hlt
        have hcl : V.cell? ⟨gl, k, none⟩ = some (.slice l[k].ao l[k].ys.length l[k].cap) := HV.out.lst k hlt
        have hca : V.cell? ⟨ga, k, none⟩ = some (.int .i64 q) := by rw [HQ.out]; exact HV.out.beg k hlt
        have HPN : Hid (pos ((ysOf l).take (k + 1)) = q + (l[k].ys.length + 9)) := by
          have := pos_next (ys := ysOf l) (k := k) (by rw [ys_len]; exact hlt)
          rw [ys_at hlt, ← HQ.out] at this
          exact this
        have hpN : q + (l[k].ys.length + 9) ≤ N := by rw [← HPN.out]; exact HP.out (k + 1)
        obtain ⟨lk1, lk2⟩ : l[k].ys.length ≤ l[k].cap ∧ l[k].cap ≤ 9223372036854775807 := by
          obtain ⟨_, _, e, h1, h2, _⟩ := (HG.out l[k] (List.getElem_mem hlt)).1.1
          simp [Pcd.v] at e
          obtain ⟨_, e⟩ := e
          unfold maxLen at h2
          omega
        by_cases hgo : q + (l[k].ys.length + 9) ≤ c
        · have dgo : decide ((q : Int) + (l[k].ys.length : Int) + 9 ≤ c) = true := by simp only [decide_eq_true_eq]; omega
          generalize l[k].ys.length = n at *
          generalize l[k].ao = po at *
          generalize l[k].cap = pc at *
          go_wp2
          go_quiet (fail)
          all_goals go_wp2
          all_goals go_quiet (fail)
          all_goals go_wp2
          all_goals go_roundw
          case rel => exact ⟨k + 1, _, by omega, by go_num, by rw [HPN.out]; exact congrArg (Value.int .i64) (by omega), by rw [HPN.out]; exact hgo, rfl⟩
          case measure => simp [intOf]; omega
        · have dgo : decide ((q : Int) + (l[k].ys.length : Int) + 9 ≤ c) = false := by simp only [decide_eq_false_iff_not]; omega
          have HT : Hid (Bodies ((framesL (ysOf l)).take c) ((ysOf l).take k)) := by
            refine bodies_torn (ysOf l) k c (fun b hb => ?_) (by rw [ys_len]; omega) (by rw [← HQ.out]; exact hpc) (fun _ => by rw [HPN.out]; omega)
            obtain ⟨p, hp, rfl⟩ := List.mem_map.1 hb
            exact (HG.out p hp).2
          generalize l[k].ys.length = n at *
          generalize l[k].ao = po at *
          generalize l[k].cap = pc at *
          go_wp2
          go_quiet (fail)
          clear HPN hcl hca dk dgo
          all_goals go_wp2_with fail
          refine (through_torn _ ((framesL (ysOf l)).take c) ((ysOf l).take k) _ (by exact HV.out.cut (by rw [← HN.out]; exact hcN)) (HBy.out.take c) (by simp; have := HN.out; omega) HT.out).mono ?_
          have HLk : Hid (((ysOf l).take k).length = k) := by show ((ysOf l).take k).length = k; rw [List.length_take, ys_len]; omega
          rw [HLk.out]
          rintro e w5 ⟨it, b1, b2, b3, b4, rfl, hbods, hitl, hSeen, hb5⟩
          have HV5 : Hid (Have w l g cva gl cl ga ca w5) := (HV.out.later (below_drewN (Below.refl _ _) _)).later hb5
          obtain ⟨n5, hn5⟩ : ∃ n5, Seen n5 ((framesL (ysOf l)).take c) it (.slice b1 k b2) (.slice b3 k b4) w5 := ⟨_, hSeen⟩
          have HS5 : Hid (Seen n5 ((framesL (ysOf l)).take c) it (.slice b1 k b2) (.slice b3 k b4) w5 ∧ bods (flat it) = (ysOf l).take k ∧ it.length = k) := ⟨hn5, hbods, hitl⟩
          clear hSeen hb5 hn5 hbods hitl HV
          go_wp2_with fail
          have B6 : Below w5.heap.size w5 (w5.alloc (.cells #[.slice b1 k b2, .slice b3 k b4] 30)) := (Below.refl _ _).alloc (Nat.le_refl _) _
          refine (whole_torn _ ((framesL (ysOf l)).take c) ((ysOf l).take k) _ ((HV5.out.later B6).cut (by rw [← HN.out]; exact hcN)) (.inr ⟨g, 0, cva, by rw [List.length_take, ← HN.out, Nat.min_eq_left hcN]⟩) (fun x hx => rows_lt (HV5.out.later B6).all hx) (HBy.out.take c) (by simp; have := HN.out; omega) HT.out).mono ?_
          rw [← HQ.out]
          rintro e w7 ⟨rfl, hb7⟩
          have HV7 : Hid (Have w l g cva gl cl ga ca w7) := (HV5.out.later B6).later hb7
          have HS7 : Hid (Seen n5 ((framesL (ysOf l)).take c) it (.slice b1 k b2) (.slice b3 k b4) w7 ∧ bods (flat it) = (ysOf l).take k ∧ it.length = k) := by
            have B7 : Below w5.heap.size w5 w7 := B6.trans (hb7.mono B6.size)
            obtain ⟨s1, s2, s3⟩ := HS5.out
            exact ⟨⟨s1.whole, s1.right, row_kept s1.pl (kept_below B7 (fun _ => False)) (fun _ _ h => h), row_kept s1.bo (kept_below B7 (fun _ => False)) (fun _ _ h => h), fun x hx => row_kept (s1.it x hx) (kept_below B7 (fun _ => False)) (fun _ _ h => h), s1.nd⟩, s2, s3⟩
          have hbx : w7.heap[w5.heap.size]? = some (.cells #[.slice b1 k b2, .slice b3 k b4] 30 (0, 0)) := by
            rw [hb7.block _ (by simp)]; exact heap_alloc_new _ _
          have cx0 : w7.cell? ⟨w5.heap.size, 0, none⟩ = some (.slice b1 k b2) := cell_of_row w7 w5.heap.size 0 _ _ _ hbx
          have cx1 : w7.cell? ⟨w5.heap.size, 1, none⟩ = some (.slice b3 k b4) := cell_of_row w7 w5.heap.size 1 _ _ _ hbx
          clear hbx hb7 B6 HV5 HS5
          go_wp2_with fail
          go_loopw [14] (fun i wr => ∃ j m : Nat, j ≤ k ∧ i = .int .i64 j ∧ wr = w7.drewN m) (fun i _ => k - (intOf i).toNat)
          case atStart => exact ⟨0, 0, Nat.zero_le _, rfl, rfl⟩
          case round =>
            obtain ⟨j, m2, hj, rfl, hwr⟩ := hrel
            have HW : Hid (wr = w7.drewN m2) := hwr
            have HVr : Hid (Have w l g cva gl cl ga ca wr) := by
              have := HV7.out.later (below_drewN (Below.refl _ _) m2)
              rw [← hwr] at this
              exact this
            by_cases hjk : j < k
            · have dj : decide ((j : Int) < k) = true := by simp only [decide_eq_true_eq]; omega
              have hkl2 : j < l.length := by omega
              obtain ⟨hpl, gx, hit, hox⟩ := seen_at HS7.out.1 HS7.out.2.1 HS7.out.2.2 j hjk (by rw [ys_len]; exact hk)
              obtain ⟨gp, cp, ep, _, _, hcp⟩ := row_cell HS7.out.1.pl (by rw [HS7.out.2.2]; omega)
              obtain ⟨gb, cb, eb, _, _, hcb⟩ := row_cell HS7.out.1.bo (by rw [HS7.out.2.2]; omega)
              have c1 : wr.cell? ⟨gp, j, none⟩ = some (.int .i64 (pos ((ysOf l).take (j + 1)))) := by
                have := hcp j (by rw [HS7.out.2.2]; omega)
                rw [hpl] at this
                rw [hwr]
                exact this
              have c2 := hcb j (by rw [HS7.out.2.2]; omega)
              rw [hit] at c2
              have cx0' : wr.cell? ⟨w5.heap.size, 0, none⟩ = some (.slice b1 k b2) := by rw [hwr]; exact cx0
              have cx1' : wr.cell? ⟨w5.heap.size, 1, none⟩ = some (.slice b3 k b4) := by rw [hwr]; exact cx1
              rw [HS7.out.2.2] at ep eb
              simp only [Value.slice.injEq, true_and] at ep eb
              obtain ⟨ep1, ep2⟩ := ep
              obtain ⟨eb1, eb2⟩ := eb
              subst ep1
              subst eb1
              have yj := ys_at hkl2
              rw [yj] at c2 hox
              have c2' : wr.cell? ⟨gb, j, none⟩ = some (.slice (some ⟨gx, 0, none⟩) l[j].ys.length l[j].ys.length) := by rw [hwr]; exact c2
              have c3 := HVr.out.lst j hkl2
              have c4 := HVr.out.beg j hkl2
              have hpn := pos_next (ys := ysOf l) (k := j) (by rw [ys_len]; exact hkl2)
              rw [yj] at hpn
              have hgd := (HG.out l[j] (List.getElem_mem hkl2)).1
              have HX : Hid (Sees w7 (.slice (some ⟨gx, 0, none⟩) l[j].ys.length l[j].ys.length) l[j].ys ∧ Sees w7 (.slice l[j].ao l[j].ys.length l[j].cap) l[j].ys) := ⟨Sees.own hox, hgd.1.below HV7.out.below (Nat.le_refl _)⟩
              obtain ⟨lj1, lj2⟩ : l[j].ys.length ≤ l[j].cap ∧ l[j].cap ≤ 9223372036854775807 := by
                obtain ⟨_, _, e, h1, h2, _⟩ := hgd.1
                simp [Pcd.v] at e
                obtain ⟨_, e⟩ := e
                unfold maxLen at h2
                omega
              have hpN2 : pos ((ysOf l).take (j + 1)) ≤ N := HP.out (j + 1)
              have HX3 : Hid (∀ m, Calls Try.prog 11 #[.slice (some ⟨gx, 0, none⟩) l[j].ys.length l[j].ys.length, .slice l[j].ao l[j].ys.length l[j].cap] (wr.drewN m) fun e w' => e = .returned (.bool true) ∧ ∃ n, w' = (wr.drewN m).drewN n) := fun m => by rw [hwr]; exact eqBytes_same _ _ l[j].ys _ HX.out.1 HX.out.2
              clear hpl hit hox hcp hcb ep2 eb2 yj hgd HX hwr c2 cx0 cx1
              generalize pos ((ysOf l).take (j + 1)) = p1 at *
              generalize pos ((ysOf l).take j) = p0 at *
              generalize l[j].ys.length = n at *
              generalize l[j].ao = po2 at *
              generalize l[j].cap = pc2 at *
              have dne : ((p1 : Int) != (p0 : Int) + (n : Int) + 9) = false := by simp; omega
              have djn : decide (j < k) = true := by simp only [decide_eq_true_eq]; exact hjk
              have wr1 : IntKind.i64.wrap ((p0 : Int) + (n : Int)) = (p0 : Int) + (n : Int) := by simp [IntKind.wrap, IntKind.bits, IntKind.signed]; omega
              have wr2 : IntKind.i64.wrap ((p0 : Int) + (n : Int) + 9) = (p0 : Int) + (n : Int) + 9 := by simp [IntKind.wrap, IntKind.bits, IntKind.signed]; omega
              have hpa : p1 ≤ p0 + n + 9 := by omega
              have hpb : p0 + n + 9 ≤ p1 := by omega
              clear hpn
              go_wp2
              go_quiet ((go_at_call 11; exact Calls.quiet_of (HX3.out _)))
              all_goals go_wp2
              all_goals go_roundw
              case rel => exact ⟨j + 1, m2 + nq, by omega, by go_num, by rw [HW.out, World.drewN_drewN]⟩
              case measure => simp [intOf]; omega
            · have dj : decide ((j : Int) < k) = false := by simp only [decide_eq_false_iff_not]; omega
              clear hwr
              go_wp2_with fail
              refine (one_torn _ ((framesL (ysOf l)).take c) ((ysOf l).take k) _ (by exact HVr.out.cut (by rw [← HN.out]; exact hcN)) (HBy.out.take c) (by simp; have := HN.out; omega) HT.out).mono ?_
              rintro e w8 ⟨p1, p2, p3, r, rfl, hr, hb8⟩
              have hr2 : r = if k = 1 ∧ q = c then 0 else 30 := by
                rw [hr, HLk.out, ← HQ.out, List.length_take, ← HN.out, Nat.min_eq_left hcN]
              have HE : Hid (Below w.heap.size w w8) := HVr.out.below.trans (hb8.mono HVr.out.below.size)
              clear hr hb8
              by_cases k1 : k = 1
              · by_cases k2 : q = c
                · have e1 : r = 0 := by rw [hr2, if_pos ⟨k1, k2⟩]
                  have t1 : ((k : Int) == 1) = true := by simp; omega
                  have t2 : ((q : Int) == (c : Int)) = true := by simp; omega
                  clear hr2 k1 k2
                  subst e1
                  go_wp2
                  go_ret
                  exact ⟨rfl, HE.out⟩
                · have e1 : r = 30 := by rw [hr2, if_neg (fun h => k2 h.2)]
                  have t1 : ((k : Int) == 1) = true := by simp; omega
                  have t2 : ((q : Int) == (c : Int)) = false := by simp; omega
                  clear hr2 k1 k2
                  subst e1
                  go_wp2
                  go_ret
                  exact ⟨rfl, HE.out⟩
              · have e1 : r = 30 := by rw [hr2, if_neg (fun h => k1 h.1)]
                have t1 : ((k : Int) == 1) = false := by simp; omega
                clear hr2 k1
                subst e1
                go_wp2
                go_ret
                exact ⟨rfl, HE.out⟩
      · have dk : decide ((k : Int) < l.length) = false := by simp only [decide_eq_false_iff_not]; omega
        have HT : Hid (Bodies ((framesL (ysOf l)).take c) ((ysOf l).take k)) := by
          refine bodies_torn (ysOf l) k c (fun b hb => ?_) (by rw [ys_len]; omega) (by rw [← HQ.out]; exact hpc) (fun h => by rw [ys_len] at h; omega)
          obtain ⟨p, hp, rfl⟩ := List.mem_map.1 hb
          exact (HG.out p hp).2
        go_wp2
        go_quiet (fail)
        clear dk
        all_goals go_wp2_with fail
        refine (through_torn _ ((framesL (ysOf l)).take c) ((ysOf l).take k) _ (by exact HV.out.cut (by rw [← HN.out]; exact hcN)) (HBy.out.take c) (by simp; have := HN.out; omega) HT.out).mono ?_
        have HLk : Hid (((ysOf l).take k).length = k) := by show ((ysOf l).take k).length = k; rw [List.length_take, ys_len]; omega
        rw [HLk.out]
        rintro e w5 ⟨it, b1, b2, b3, b4, rfl, hbods, hitl, hSeen, hb5⟩
        have HV5 : Hid (Have w l g cva gl cl ga ca w5) := (HV.out.later (below_drewN (Below.refl _ _) _)).later hb5
        obtain ⟨n5, hn5⟩ : ∃ n5, Seen n5 ((framesL (ysOf l)).take c) it (.slice b1 k b2) (.slice b3 k b4) w5 := ⟨_, hSeen⟩
        have HS5 : Hid (Seen n5 ((framesL (ysOf l)).take c) it (.slice b1 k b2) (.slice b3 k b4) w5 ∧ bods (flat it) = (ysOf l).take k ∧ it.length = k) := ⟨hn5, hbods, hitl⟩
        clear hSeen hb5 hn5 hbods hitl HV
        go_wp2_with fail
        have B6 : Below w5.heap.size w5 (w5.alloc (.cells #[.slice b1 k b2, .slice b3 k b4] 30)) := (Below.refl _ _).alloc (Nat.le_refl _) _
        refine (whole_torn _ ((framesL (ysOf l)).take c) ((ysOf l).take k) _ ((HV5.out.later B6).cut (by rw [← HN.out]; exact hcN)) (.inr ⟨g, 0, cva, by rw [List.length_take, ← HN.out, Nat.min_eq_left hcN]⟩) (fun x hx => rows_lt (HV5.out.later B6).all hx) (HBy.out.take c) (by simp; have := HN.out; omega) HT.out).mono ?_
        rw [← HQ.out]
        rintro e w7 ⟨rfl, hb7⟩
        have HV7 : Hid (Have w l g cva gl cl ga ca w7) := (HV5.out.later B6).later hb7
        have HS7 : Hid (Seen n5 ((framesL (ysOf l)).take c) it (.slice b1 k b2) (.slice b3 k b4) w7 ∧ bods (flat it) = (ysOf l).take k ∧ it.length = k) := by
          have B7 : Below w5.heap.size w5 w7 := B6.trans (hb7.mono B6.size)
          obtain ⟨s1, s2, s3⟩ := HS5.out
          exact ⟨⟨s1.whole, s1.right, row_kept s1.pl (kept_below B7 (fun _ => False)) (fun _ _ h => h), row_kept s1.bo (kept_below B7 (fun _ => False)) (fun _ _ h => h), fun x hx => row_kept (s1.it x hx) (kept_below B7 (fun _ => False)) (fun _ _ h => h), s1.nd⟩, s2, s3⟩
        have hbx : w7.heap[w5.heap.size]? = some (.cells #[.slice b1 k b2, .slice b3 k b4] 30 (0, 0)) := by
          rw [hb7.block _ (by simp)]; exact heap_alloc_new _ _
        have cx0 : w7.cell? ⟨w5.heap.size, 0, none⟩ = some (.slice b1 k b2) := cell_of_row w7 w5.heap.size 0 _ _ _ hbx
        have cx1 : w7.cell? ⟨w5.heap.size, 1, none⟩ = some (.slice b3 k b4) := cell_of_row w7 w5.heap.size 1 _ _ _ hbx
        clear hbx hb7 B6 HV5 HS5
        go_wp2_with fail
        go_loopw [14] (fun i wr => ∃ j m : Nat, j ≤ k ∧ i = .int .i64 j ∧ wr = w7.drewN m) (fun i _ => k - (intOf i).toNat)
        case atStart => exact ⟨0, 0, Nat.zero_le _, rfl, rfl⟩
        case round =>
          obtain ⟨j, m2, hj, rfl, hwr⟩ := hrel
          have HW : Hid (wr = w7.drewN m2) := hwr
          have HVr : Hid (Have w l g cva gl cl ga ca wr) := by
            have := HV7.out.later (below_drewN (Below.refl _ _) m2)
            rw [← hwr] at this
            exact this
          by_cases hjk : j < k
          · have dj : decide ((j : Int) < k) = true := by simp only [decide_eq_true_eq]; omega
            have hkl2 : j < l.length := by omega
            obtain ⟨hpl, gx, hit, hox⟩ := seen_at HS7.out.1 HS7.out.2.1 HS7.out.2.2 j hjk (by rw [ys_len]; exact hk)
            obtain ⟨gp, cp, ep, _, _, hcp⟩ := row_cell HS7.out.1.pl (by rw [HS7.out.2.2]; omega)
            obtain ⟨gb, cb, eb, _, _, hcb⟩ := row_cell HS7.out.1.bo (by rw [HS7.out.2.2]; omega)
            have c1 : wr.cell? ⟨gp, j, none⟩ = some (.int .i64 (pos ((ysOf l).take (j + 1)))) := by
              have := hcp j (by rw [HS7.out.2.2]; omega)
              rw [hpl] at this
              rw [hwr]
              exact this
            have c2 := hcb j (by rw [HS7.out.2.2]; omega)
            rw [hit] at c2
            have cx0' : wr.cell? ⟨w5.heap.size, 0, none⟩ = some (.slice b1 k b2) := by rw [hwr]; exact cx0
            have cx1' : wr.cell? ⟨w5.heap.size, 1, none⟩ = some (.slice b3 k b4) := by rw [hwr]; exact cx1
            rw [HS7.out.2.2] at ep eb
            simp only [Value.slice.injEq, true_and] at ep eb
            obtain ⟨ep1, ep2⟩ := ep
            obtain ⟨eb1, eb2⟩ := eb
            subst ep1
            subst eb1
            have yj := ys_at hkl2
            rw [yj] at c2 hox
            have c2' : wr.cell? ⟨gb, j, none⟩ = some (.slice (some ⟨gx, 0, none⟩) l[j].ys.length l[j].ys.length) := by rw [hwr]; exact c2
            have c3 := HVr.out.lst j hkl2
            have c4 := HVr.out.beg j hkl2
            have hpn := pos_next (ys := ysOf l) (k := j) (by rw [ys_len]; exact hkl2)
            rw [yj] at hpn
            have hgd := (HG.out l[j] (List.getElem_mem hkl2)).1
            have HX : Hid (Sees w7 (.slice (some ⟨gx, 0, none⟩) l[j].ys.length l[j].ys.length) l[j].ys ∧ Sees w7 (.slice l[j].ao l[j].ys.length l[j].cap) l[j].ys) := ⟨Sees.own hox, hgd.1.below HV7.out.below (Nat.le_refl _)⟩
            obtain ⟨lj1, lj2⟩ : l[j].ys.length ≤ l[j].cap ∧ l[j].cap ≤ 9223372036854775807 := by
              obtain ⟨_, _, e, h1, h2, _⟩ := hgd.1
              simp [Pcd.v] at e
              obtain ⟨_, e⟩ := e
              unfold maxLen at h2
              omega
            have hpN2 : pos ((ysOf l).take (j + 1)) ≤ N := HP.out (j + 1)
            have HX3 : Hid (∀ m, Calls Try.prog 11 #[.slice (some ⟨gx, 0, none⟩) l[j].ys.length l[j].ys.length, .slice l[j].ao l[j].ys.length l[j].cap] (wr.drewN m) fun e w' => e = .returned (.bool true) ∧ ∃ n, w' = (wr.drewN m).drewN n) := fun m => by rw [hwr]; exact eqBytes_same _ _ l[j].ys _ HX.out.1 HX.out.2
            clear hpl hit hox hcp hcb ep2 eb2 yj hgd HX hwr c2 cx0 cx1
            generalize pos ((ysOf l).take (j + 1)) = p1 at *
            generalize pos ((ysOf l).take j) = p0 at *
            generalize l[j].ys.length = n at *
            generalize l[j].ao = po2 at *
            generalize l[j].cap = pc2 at *
            have dne : ((p1 : Int) != (p0 : Int) + (n : Int) + 9) = false := by simp; omega
            have djn : decide (j < k) = true := by simp only [decide_eq_true_eq]; exact hjk
            have wr1 : IntKind.i64.wrap ((p0 : Int) + (n : Int)) = (p0 : Int) + (n : Int) := by simp [IntKind.wrap, IntKind.bits, IntKind.signed]; omega
            have wr2 : IntKind.i64.wrap ((p0 : Int) + (n : Int) + 9) = (p0 : Int) + (n : Int) + 9 := by simp [IntKind.wrap, IntKind.bits, IntKind.signed]; omega
            have hpa : p1 ≤ p0 + n + 9 := by omega
            have hpb : p0 + n + 9 ≤ p1 := by omega
            clear hpn
            go_wp2
            go_quiet ((go_at_call 11; exact Calls.quiet_of (HX3.out _)))
            all_goals go_wp2
            all_goals go_roundw
            case rel => exact ⟨j + 1, m2 + nq, by omega, by go_num, by rw [HW.out, World.drewN_drewN]⟩
            case measure => simp [intOf]; omega
          · have dj : decide ((j : Int) < k) = false := by simp only [decide_eq_false_iff_not]; omega
            clear hwr
            go_wp2_with fail
            refine (one_torn _ ((framesL (ysOf l)).take c) ((ysOf l).take k) _ (by exact HVr.out.cut (by rw [← HN.out]; exact hcN)) (HBy.out.take c) (by simp; have := HN.out; omega) HT.out).mono ?_
            rintro e w8 ⟨p1, p2, p3, r, rfl, hr, hb8⟩
            have hr2 : r = if k = 1 ∧ q = c then 0 else 30 := by
              rw [hr, HLk.out, ← HQ.out, List.length_take, ← HN.out, Nat.min_eq_left hcN]
            have HE : Hid (Below w.heap.size w w8) := HVr.out.below.trans (hb8.mono HVr.out.below.size)
            clear hr hb8
            by_cases k1 : k = 1
            · by_cases k2 : q = c
              · have e1 : r = 0 := by rw [hr2, if_pos ⟨k1, k2⟩]
                have t1 : ((k : Int) == 1) = true := by simp; omega
                have t2 : ((q : Int) == (c : Int)) = true := by simp; omega
                clear hr2 k1 k2
                subst e1
                go_wp2
                go_ret
                exact ⟨rfl, HE.out⟩
              · have e1 : r = 30 := by rw [hr2, if_neg (fun h => k2 h.2)]
                have t1 : ((k : Int) == 1) = true := by simp; omega
                have t2 : ((q : Int) == (c : Int)) = false := by simp; omega
                clear hr2 k1 k2
                subst e1
                go_wp2
                go_ret
                exact ⟨rfl, HE.out⟩
            · have e1 : r = 30 := by rw [hr2, if_neg (fun h => k1 h.1)]
              have t1 : ((k : Int) == 1) = false := by simp; omega
              clear hr2 k1
              subst e1
              go_wp2
              go_ret
              exact ⟨rfl, HE.out⟩

end frameTorn
end Go.Proofs.Ytabkjcgcnimoaaa
