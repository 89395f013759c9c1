/- What the document's own answers for layer 3 are: Put, the frame at a place, One. -/
import Derived.Test.YtabkjcgcnimoaaaDoorRef3
import Derived.Test.YtabkjcgcnimoaaaDoorFrP
import Derived.Deep.QuietTactic
import Derived.BigQuiet
namespace Go.Proofs.YtabkjcgcnimoaaaDoor
open Go.RowKit
set_option maxRecDepth 8000

theorem is3_any (v : Value) (xs : List Int) (w : World) (h : Sees w v xs) : Calls Tryd.prog 15 #[v] w fun e w' => e = .returned (.bool (isSz xs.length)) ∧ w' = w := by
  obtain ⟨ao, cap, rfl, g1, g2, g0, g3⟩ := h
  clear g3 g0
  unfold maxLen at g2
  unfold isSz
  by_cases h1 : 1 ≤ (xs.length : Int)
  · by_cases h2 : (xs.length : Int) ≤ 1048576
    · have d1 : decide (1 ≤ (xs.length : Int)) = true := by simp only [decide_eq_true_eq]; exact h1
      have d2 : decide ((xs.length : Int) ≤ 1048576) = true := by simp only [decide_eq_true_eq]; exact h2
      go_enter Tryd.func15, Tryd.ntmps15
      go_wp2
      go_ret
      exact ⟨by first | rfl | (rw [d1, d2]; rfl), rfl⟩
    · have d1 : decide (1 ≤ (xs.length : Int)) = true := by simp only [decide_eq_true_eq]; exact h1
      have d2 : decide ((xs.length : Int) ≤ 1048576) = false := by simp only [decide_eq_false_iff_not]; exact h2
      go_enter Tryd.func15, Tryd.ntmps15
      go_wp2
      go_ret
      exact ⟨by first | rfl | (rw [d1, d2]; rfl), rfl⟩
  · have d1 : decide (1 ≤ (xs.length : Int)) = false := by simp only [decide_eq_false_iff_not]; exact h1
    go_enter Tryd.func15, Tryd.ntmps15
    go_wp2
    go_ret
    exact ⟨by first | rfl | (rw [d1]; rfl), rfl⟩

set_option maxHeartbeats 400000 in
theorem refPut_bad (v : Value) (xs : List Int) (w : World) (h : Sees w v xs) (hs : isSz xs.length = false) :
    Calls Tryd.prog 6 #[v] w fun e w' => e = .returned (.tuple #[.slice none 0 0, .int .i64 30]) ∧ w' = w := by
  have H : Hid (Sees w v xs) := h
  obtain ⟨ao, cap, rfl, g1, g2, g0, g3⟩ := h
  clear g3 g0
  go_enter Tryd.func6, Tryd.ntmps6
  go_wp2_with fail
  refine (is3_any _ xs _ H.out).mono ?_
  rw [hs]
  rintro e w1 ⟨rfl, rfl⟩
  go_wp2
  go_ret2
  exact ⟨rfl, rfl⟩

set_option maxHeartbeats 400000 in
theorem refPut_ok (v : Value) (xs : List Int) (w : World) (h : Sees w v xs) (hb : Byts xs) (hs : isSz xs.length = true) :
    Calls Tryd.prog 6 #[v] w fun e w' => ∃ u, e = .returned (.tuple #[u, .int .i64 0]) ∧ Owns w' w.heap.size u (frameL xs) ∧ Below w.heap.size w w' := by
  have H : Hid (Sees w v xs ∧ Byts xs) := ⟨h, hb⟩
  have hl : xs.length ≤ 1048576 := by simp [isSz] at hs; omega
  obtain ⟨ao, cap, rfl, g1, g2, g0, g3⟩ := h
  clear g3 g0 hb
  go_enter Tryd.func6, Tryd.ntmps6
  go_wp2_with fail
  refine (is3_any _ xs _ H.out.1).mono ?_
  rw [hs]
  rintro e w1 ⟨rfl, rfl⟩
  go_wp2_with fail
  refine (refFrame_any _ xs _ H.out.1 H.out.2 hl).mono ?_
  rintro e w2 ⟨u, rfl, ho, hb2⟩
  obtain ⟨a, n, c, rfl⟩ := owns_shape ho
  have H2 : Hid (Owns w2 w1.heap.size (.slice a n c) (frameL xs) ∧ Below w1.heap.size w1 w2) := ⟨ho, hb2⟩
  clear ho hb2
  go_wp2
  go_ret2
  exact ⟨_, rfl, H2.out⟩

theorem bodyLen_short (ys : List Int) (h : ys.length < 10) : bodyLen ys = 0 := by
  by_cases h0 : bodyLen ys = 0
  · exact h0
  · have h1 := bodyLen_le ys h0
    omega

theorem bodyLen_out (ys : List Int) (h9 : 9 ≤ ys.length) (h : num (ys.take 4) < 1 ∨ 1048576 < num (ys.take 4) ∨ (ys.length : Int) < num (ys.take 4) + 9) : bodyLen ys = 0 := by
  unfold bodyLen
  rw [if_neg (by omega)]
  simp only
  rw [if_pos]
  rcases h with h | h | h
  · exact .inr (by simp [isSz]; omega)
  · exact .inr (by simp [isSz]; omega)
  · exact .inl (by omega)

theorem bodyLen_is (ys : List Int) (n : Nat) (hn : num (ys.take 4) = n) (h1 : 1 ≤ n) (h2 : n ≤ 1048576) (hl : n + 9 ≤ ys.length) : bodyLen ys = if frameL ((ys.drop 8).take n) = ys.take (n + 9) then n else 0 := by
  have hbl : ((ys.drop 8).take n).length = n := by simp; omega
  have e : ys.take (n + 9) = ys.take 8 ++ ((ys.drop 8).take n ++ [ys.getD (8 + n) 0]) := by
    have e1 : ys.take (n + 9) = ys.take (8 + n) ++ [ys.getD (8 + n) 0] := by
      rw [show n + 9 = (8 + n) + 1 by omega, take_next ys (8 + n) (by omega)]
    rw [e1, List.take_add, List.append_assoc]
  have hsz : isSz (n : Int) = true := by simp [isSz]; omega
  unfold bodyLen
  rw [if_neg (by omega)]
  simp only
  rw [hn, if_neg (by rw [hsz]; simp; omega)]
  simp only [Int.toNat_natCast]
  by_cases hc : ys.getD (8 + n) 0 ≠ 66 ∨ ys.take 8 ≠ headL ((ys.drop 8).take n)
  · rw [if_pos hc, if_neg]
    intro he
    rw [e] at he
    unfold frameL at he
    have h8 : (headL ((ys.drop 8).take n)).length = (ys.take 8).length := by rw [headL_len, List.length_take]; omega
    obtain ⟨q1, q2⟩ := List.append_inj he h8
    have q3 := List.append_cancel_left q2
    simp at q3
    rcases hc with hc | hc
    · exact hc q3.symm
    · exact hc q1.symm
  · rw [if_neg hc, if_pos]
    simp only [not_or, Decidable.not_not] at hc
    rw [e, hc.1, hc.2]
    rfl

/-- A number out of four bytes, by shifts. -/
theorem num_or4 (a b c d : Int) (ha : 0 ≤ a ∧ a ≤ 255) (hb : 0 ≤ b ∧ b ≤ 255) (hc : 0 ≤ c ∧ c ≤ 255) (hd : 0 ≤ d ∧ d ≤ 255) :
    bits .or .i64 (bits .or .i64 (bits .or .i64 (a * 16777216) (b * 65536)) (c * 256)) d = num [a, b, c, d] := by
  have e1 : bits .or .i64 (a * 16777216) (b * 65536) = a * 16777216 + b * 65536 := by
    rw [i64_or _ _ (by omega) (by omega) (by omega) (by omega), nat_join 24 _ _ (by omega) (by omega)]; omega
  have e2 : bits .or .i64 (a * 16777216 + b * 65536) (c * 256) = a * 16777216 + b * 65536 + c * 256 := by
    rw [i64_or _ _ (by omega) (by omega) (by omega) (by omega), nat_join 16 _ _ (by omega) (by omega)]; omega
  have e3 : bits .or .i64 (a * 16777216 + b * 65536 + c * 256) d = a * 16777216 + b * 65536 + c * 256 + d := by
    rw [i64_or _ _ (by omega) (by omega) (by omega) (by omega), nat_join 8 _ _ (by omega) (by omega)]; omega
  rw [e1, e2, e3]
  simp [num]
  omega

set_option maxHeartbeats 1000000 in
theorem refAt_any (v : Value) (xs : List Int) (p : Nat) (w : World) (h : Sees w v xs) (hb : Byts xs) (hl : xs.length ≤ 70000000000000) (hp : p ≤ xs.length) :
    Calls Tryd.prog 20 #[v, .int .i64 p] w fun e w' => e = .returned (.int .i64 (bodyLen (xs.drop p))) ∧ Below w.heap.size w w' := by
  by_cases h10 : xs.length - p < 10
  · have e0 : bodyLen (xs.drop p) = 0 := bodyLen_short _ (by rw [List.length_drop]; exact h10)
    rw [e0]
    obtain ⟨ao, cap, rfl, g1, g2, g0, g3⟩ := h
    clear g3 g0 hb e0
    unfold maxLen at g2
    have d0 : decide ((xs.length : Int) - (p : Int) < 10) = true := by simp only [decide_eq_true_eq]; omega
    go_enter Tryd.func20, Tryd.ntmps20
    go_wp2
    go_ret
    exact ⟨rfl, Below.refl _ _⟩
  · have d0 : decide ((xs.length : Int) - (p : Int) < 10) = false := by simp only [decide_eq_false_iff_not]; omega
    have hx : xs ≠ [] := fun e => by rw [e] at h10; simp at h10
    obtain ⟨b, off, cap, rfl, g1, g2, hbw, g3⟩ := sees_some h hx
    have c0 := g3 p (by omega)
    have c1 := g3 (p + 1) (by omega)
    have c2 := g3 (p + 2) (by omega)
    have c3 := g3 (p + 3) (by omega)
    have b0 := hb.nth p
    have b1 := hb.nth (p + 1)
    have b2 := hb.nth (p + 2)
    have b3 := hb.nth (p + 3)
    have H : Hid (Sees w (.slice (some ⟨b, off, none⟩) xs.length cap) xs ∧ Byts xs) := ⟨h, hb⟩
    have HT : Hid ((xs.drop p).take 4 = [xs.getD p 0, xs.getD (p + 1) 0, xs.getD (p + 2) 0, xs.getD (p + 3) 0]) := by
      show (xs.drop p).take 4 = _
      rw [List.drop_eq_getElem_cons (by omega), List.drop_eq_getElem_cons (by omega), List.drop_eq_getElem_cons (by omega), List.drop_eq_getElem_cons (by omega)]
      have e : ∀ i (hi : i < xs.length), xs.getD i 0 = xs[i] := fun i hi => by rw [List.getD_eq_getElem?_getD, List.getElem?_eq_getElem hi]; rfl
      rw [e p (by omega), e (p + 1) (by omega), e (p + 2) (by omega), e (p + 3) (by omega)]
      rfl
    have HO : Hid _ := num_or4 (xs.getD p 0) (xs.getD (p + 1) 0) (xs.getD (p + 2) 0) (xs.getD (p + 3) 0) b0 b1 b2 b3
    rw [← HT.out] at HO
    clear h hb g3 HT
    unfold maxLen at g2
    generalize xs.getD p 0 = x0 at *
    generalize xs.getD (p + 1) 0 = x1 at *
    generalize xs.getD (p + 2) 0 = x2 at *
    generalize xs.getD (p + 3) 0 = x3 at *
    have hnb := num_bd (xs.drop p) (H.out.2.drop p) 4 (by rw [List.length_drop]; omega)
    rw [show (256 : Int) ^ 4 = 4294967296 from by decide] at hnb
    obtain ⟨n, hn⟩ : ∃ n : Nat, num ((xs.drop p).take 4) = (n : Int) := ⟨(num ((xs.drop p).take 4)).toNat, by omega⟩
    have HN : Hid (num ((xs.drop p).take 4) = (n : Int)) := hn
    rw [hn] at HO
    have hn4 : n < 4294967296 := by omega
    clear hn hnb
    by_cases k1 : n < 1
    · have HZ : Hid (bodyLen (xs.drop p) = 0) := bodyLen_out _ (by rw [List.length_drop]; omega) (.inl (by rw [HN.out]; omega))
      have d1 : decide ((n : Int) < 1) = true := by simp only [decide_eq_true_eq]; omega
      rw [HZ.out]
      go_enter Tryd.func20, Tryd.ntmps20
      go_wp2
      go_quiet (fail)
      rw [HO.out]
      go_wp2
      go_ret
      exact ⟨rfl, below_drewN (Below.refl _ _) _⟩
    · have d1 : decide ((n : Int) < 1) = false := by simp only [decide_eq_false_iff_not]; omega
      by_cases k2 : 1048576 < n
      · have HZ : Hid (bodyLen (xs.drop p) = 0) := bodyLen_out _ (by rw [List.length_drop]; omega) (.inr (.inl (by rw [HN.out]; omega)))
        have d2 : decide (1048576 < (n : Int)) = true := by simp only [decide_eq_true_eq]; omega
        rw [HZ.out]
        go_enter Tryd.func20, Tryd.ntmps20
        go_wp2
        go_quiet (fail)
        rw [HO.out]
        go_wp2
        go_ret
        exact ⟨rfl, below_drewN (Below.refl _ _) _⟩
      · have d2 : decide (1048576 < (n : Int)) = false := by simp only [decide_eq_false_iff_not]; omega
        by_cases k3 : xs.length - p < n + 9
        · have HZ : Hid (bodyLen (xs.drop p) = 0) := bodyLen_out _ (by rw [List.length_drop]; omega) (.inr (.inr (by rw [HN.out, List.length_drop]; omega)))
          have d3 : decide ((xs.length : Int) - (p : Int) < (n : Int) + 9) = true := by simp only [decide_eq_true_eq]; omega
          rw [HZ.out]
          go_enter Tryd.func20, Tryd.ntmps20
          go_wp2
          go_quiet (fail)
          rw [HO.out]
          go_wp2
          go_ret
          exact ⟨rfl, below_drewN (Below.refl _ _) _⟩
        · have d3 : decide ((xs.length : Int) - (p : Int) < (n : Int) + 9) = false := by simp only [decide_eq_false_iff_not]; omega
          have HB : Hid (bodyLen (xs.drop p) = if frameL (((xs.drop p).drop 8).take n) = (xs.drop p).take (n + 9) then n else 0) := bodyLen_is _ n HN.out (by omega) (by omega) (by rw [List.length_drop]; omega)
          rw [HB.out]
          have hs1 := sees_cut H.out.1 (i := p + 8) (j := p + 8 + n) (by omega) (by omega)
          rw [Nat.add_sub_cancel_left, ← List.drop_drop] at hs1
          have hs2 := sees_cut H.out.1 (i := p) (j := p + n + 9) (by omega) (by omega)
          rw [show p + n + 9 - p = n + 9 by omega] at hs2
          obtain ⟨ys, hys⟩ : ∃ ys, ys = ((xs.drop p).drop 8).take n := ⟨_, rfl⟩
          obtain ⟨zs, hzs⟩ : ∃ zs, zs = (xs.drop p).take (n + 9) := ⟨_, rfl⟩
          have hyb : Byts ys := by rw [hys]; exact ((H.out.2.drop p).drop 8).take n
          have hyl : ys.length ≤ 1048576 := by rw [hys]; simp; omega
          rw [← hys] at hs1 ⊢
          rw [← hzs] at hs2 ⊢
          have HS : Hid (Sees w (.slice (some ⟨b, off + (p + 8), none⟩) n (cap - (p + 8))) ys ∧ Byts ys ∧ ys.length ≤ 1048576 ∧ Sees w (.slice (some ⟨b, off + p, none⟩) (n + 9) (cap - p)) zs) := ⟨hs1, hyb, hyl, hs2⟩
          obtain ⟨r, hr⟩ : ∃ r : Nat, r = if frameL ys = zs then n else 0 := ⟨_, rfl⟩
          have HR : Hid (r = if frameL ys = zs then n else 0) := hr
          rw [← hr]
          clear hs1 hs2 hyb hyl hys hzs HB HN hr
          go_enter Tryd.func20, Tryd.ntmps20
          go_wp2
          go_quiet (fail)
          rw [HO.out]
          clear HO
          go_wp2_with fail
          have hD : Below w.heap.size w (w.drewN nq) := below_drewN (Below.refl _ _) _
          have HD : Hid (Below w.heap.size w (w.drewN nq)) := hD
          clear hD
          generalize w.drewN nq = w1 at *
          refine (refFrame_any _ ys _ (HS.out.1.below HD.out (Nat.le_refl _)) HS.out.2.1 HS.out.2.2.1).mono ?_
          rintro e w2 ⟨u, rfl, ho, hb2⟩
          obtain ⟨ua, un, uc, rfl⟩ := owns_shape ho
          have H2 : Hid (Sees w2 (.slice ua un uc) (frameL ys) ∧ Below w.heap.size w w2) := ⟨Sees.own ho, HD.out.trans (hb2.mono HD.out.size)⟩
          clear ho hb2
          go_wp2_with fail
          rw [show p + n + 9 - p = n + 9 by omega]
          refine (eqBytes_any _ _ (frameL ys) zs _ H2.out.1 (HS.out.2.2.2.below H2.out.2 (Nat.le_refl _))).mono ?_
          rintro e w3 ⟨rfl, n3, rfl⟩
          have H3 : Hid (Below w.heap.size w (w2.drewN n3)) := below_drewN H2.out.2 _
          by_cases hq : frameL ys = zs
          · have dq : decide (frameL ys = zs) = true := by simp only [decide_eq_true_eq]; exact hq
            have HQ : Hid (frameL ys = zs) := hq
            rw [dq]
            clear hq dq
            go_wp2
            go_ret
            exact ⟨ret_int (by rw [HR.out, if_pos HQ.out]), H3.out⟩
          · have dq : decide (frameL ys = zs) = false := by simp only [decide_eq_false_iff_not]; exact hq
            have HQ : Hid (¬ frameL ys = zs) := hq
            rw [dq]
            clear hq dq
            go_wp2
            go_ret
            exact ⟨ret_int (by rw [HR.out, if_neg HQ.out]; rfl), H3.out⟩

set_option maxHeartbeats 400000 in
theorem refOne_bad (v : Value) (xs : List Int) (w : World) (h : Sees w v xs) (hb : Byts xs) (hl : xs.length ≤ 70000000000000) (hn : bodyLen xs = 0 ∨ bodyLen xs + 9 ≠ xs.length) :
    Calls Tryd.prog 10 #[v] w fun e w' => e = .returned (.tuple #[.slice none 0 0, .int .i64 30]) ∧ Below w.heap.size w w' := by
  have HF : Hid _ := refAt_any v xs 0 w h hb hl (Nat.zero_le _)
  rw [List.drop_zero] at HF
  have hbl : bodyLen xs ≤ 1048576 := by
    by_cases h0 : bodyLen xs = 0
    · omega
    · have := bodyLen_size xs h0
      simp [isSz] at this
      omega
  obtain ⟨ao, cap, rfl, g1, g2, g0, g3⟩ := h
  clear g3 g0 hb
  unfold maxLen at g2
  generalize bodyLen xs = n at *
  by_cases h0 : n = 0
  · subst h0
    go_enter Tryd.func10, Tryd.ntmps10
    go_wp2_with fail
    refine Calls.mono HF.out ?_
    rintro e w1 ⟨rfl, hb1⟩
    have H1 : Hid (Below w.heap.size w w1) := hb1
    clear hb1 HF
    go_wp2
    go_ret2
    exact ⟨rfl, H1.out⟩
  · have d0 : ((n : Int) == 0) = false := by simp; omega
    have d1 : ((xs.length : Int) != (n : Int) + 9) = true := by simp; omega
    clear hn
    go_enter Tryd.func10, Tryd.ntmps10
    go_wp2_with fail
    refine Calls.mono HF.out ?_
    rintro e w1 ⟨rfl, hb1⟩
    have H1 : Hid (Below w.heap.size w w1) := hb1
    clear hb1 HF
    go_wp2
    go_ret2
    exact ⟨rfl, H1.out⟩

set_option maxHeartbeats 400000 in
theorem refOne_ok (v : Value) (xs : List Int) (w : World) (h : Sees w v xs) (hb : Byts xs) (hl : xs.length ≤ 70000000000000) (h0 : bodyLen xs ≠ 0) (h9 : bodyLen xs + 9 = xs.length) :
    Calls Tryd.prog 10 #[v] w fun e w' => ∃ u, e = .returned (.tuple #[u, .int .i64 0]) ∧ Owns w' w.heap.size u ((xs.drop 8).take (bodyLen xs)) ∧ Below w.heap.size w w' := by
  have HF : Hid _ := refAt_any v xs 0 w h hb hl (Nat.zero_le _)
  rw [List.drop_zero] at HF
  have hbl : bodyLen xs ≤ 1048576 := by
    have := bodyLen_size xs h0
    simp [isSz] at this
    omega
  have hx : xs ≠ [] := fun e => by rw [e] at h9; simp at h9
  obtain ⟨b, off, cap, rfl, g1, g2, hbw, g3⟩ := sees_some h hx
  have hs1 := sees_cut h (i := 8) (j := 8 + bodyLen xs) (by omega) (by omega)
  rw [Nat.add_sub_cancel_left] at hs1
  have HS : Hid _ := hs1
  clear h hb g3 hs1
  unfold maxLen at g2
  obtain ⟨ys, hys⟩ : ∃ ys, ys = (xs.drop 8).take (bodyLen xs) := ⟨_, rfl⟩
  have hyl : ys.length ≤ 1048576 := by rw [hys]; simp; omega
  rw [← hys] at HS ⊢
  clear hys
  generalize bodyLen xs = n at *
  have d0 : ((n : Int) == 0) = false := by simp; omega
  have d1 : ((xs.length : Int) != (n : Int) + 9) = false := by simp; omega
  go_enter Tryd.func10, Tryd.ntmps10
  go_wp2_with fail
  refine Calls.mono HF.out ?_
  rintro e w1 ⟨rfl, hb1⟩
  have H1 : Hid (Below w.heap.size w w1) := hb1
  clear hb1 HF
  go_wp2_with fail
  refine (copyBytes_any _ ys _ (Sees.below HS.out H1.out (Nat.le_refl _)) (by omega)).mono ?_
  rintro e w2 ⟨u, rfl, ho, hb2⟩
  obtain ⟨ua, un, uc, rfl⟩ := owns_shape ho
  have H2 : Hid (Owns w2 w.heap.size (.slice ua un uc) ys ∧ Below w.heap.size w w2) := ⟨owns_mono ho H1.out.size, H1.out.trans (hb2.mono H1.out.size)⟩
  clear ho hb2
  go_wp2
  go_ret2
  exact ⟨_, rfl, H2.out⟩

end Go.Proofs.YtabkjcgcnimoaaaDoor
