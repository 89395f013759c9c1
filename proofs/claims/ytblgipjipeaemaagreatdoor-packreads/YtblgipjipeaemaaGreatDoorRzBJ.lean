/- The Reader's calls, and where what is left and what is answered lies: bytes. -/
import Derived.Test.YtblgipjipeaemaaGreatDoorRzAJ
namespace Go.Proofs.YtblgipjipeaemaaGreatDoor
open Go.RowKit
set_option maxRecDepth 8000
namespace Rz

/-- Bytes that are answered lie in the list ahead of what is left. -/
def CutAt (v u : Value) (ys rest : List Int) : Prop := ys ≠ [] → ∀ b off l c, v = .slice (some ⟨b, off, none⟩) l c → ∃ off', u = .slice (some ⟨b, off', none⟩) ys.length ys.length ∧ off ≤ off' ∧ off' + ys.length + rest.length = off + l
def Cut (w : World) (v u : Value) (ys rest : List Int) : Prop := Sees w u ys ∧ (∃ ao, u = .slice ao ys.length ys.length) ∧ (∀ k, u.ownBlock = some k → v.ownBlock = some k) ∧ CutAt v u ys rest

theorem cut_nil (w : World) (v : Value) (rest : List Int) : Cut w v (.slice none 0 0) [] rest := ⟨sees_nil w, ⟨none, rfl⟩, fun k hk => by simp [Value.ownBlock] at hk, fun h => absurd rfl h⟩

theorem CutAt.past {v v' u : Value} {ys rest : List Int} (h : CutAt v' u ys rest) (hs : SufAt v v') : CutAt v u ys rest := fun hy b off l c e => by
  obtain ⟨o1, l1, c1, e1, h1, h2⟩ := hs b off l c e
  obtain ⟨o2, e2, h3, h4⟩ := h hy b o1 l1 c1 e1
  have hl := List.length_pos_iff.2 hy
  have := h2 (by omega)
  exact ⟨o2, e2, by omega, by omega⟩

section
variable (g : Nat) (v : Value) (xs : List Int) (f : Int) (w : World)

set_option maxHeartbeats 400000 in
theorem rTake_any (n : Int) (h : IsR w g v xs f) :
    Calls Tryz.prog 76 #[.pointer (some ⟨g, 0, none⟩), .int .i64 n] w fun e w' => ∃ u, e = .returned u ∧ Cut w' v u (rdRaw n xs f).1 (rdRaw n xs f).2.rest ∧ ReadsTo w g v (rdRaw n xs f).2 w' := by
  by_cases hf : f = 0
  · subst hf
    by_cases hn : n < 0
    · have e1 : rdRaw n xs 0 = ([], ⟨0, xs, 11⟩) := by unfold rdRaw; rw [if_neg (by simp), if_pos hn]
      rw [e1]
      refine (rTake_neg g v xs n w h hn).mono ?_
      rintro e w1 ⟨rfl, rfl⟩
      exact ⟨_, rfl, cut_nil _ _ _, ReadsTo.fail h 11⟩
    · obtain ⟨k, rfl⟩ := Int.eq_ofNat_of_zero_le (show 0 ≤ n by omega)
      by_cases hl : (xs.length : Int) < k
      · have e1 : rdRaw k xs 0 = ([], ⟨0, xs, 10⟩) := by unfold rdRaw; rw [if_neg (by simp), if_neg hn, if_pos hl]
        rw [e1]
        refine (rTake_short g v xs k w h (by omega)).mono ?_
        rintro e w1 ⟨rfl, rfl⟩
        exact ⟨_, rfl, cut_nil _ _ _, ReadsTo.fail h 10⟩
      · have e1 : rdRaw k xs 0 = (xs.take k, ⟨0, xs.drop k, 0⟩) := by unfold rdRaw; rw [if_neg (by simp), if_neg hn, if_neg hl, Int.toNat_natCast]
        rw [e1]
        refine (rTake_ok g v xs k w h (by omega)).mono ?_
        rintro e w1 ⟨ao, rfl, hs, ⟨l, c, hv⟩, rfl⟩
        have hlen : (xs.take k).length = k := by simp; omega
        refine ⟨_, rfl, ⟨hs.set _ _ (fun hx e => ?_), ⟨ao, by rw [hlen]⟩, fun j hj => ?_, fun hy b off l0 c0 e0 => ?_⟩, ReadsTo.skip h (by omega)⟩
        · have := h.apart (fun e2 => hx (by rw [e2]; simp))
          rw [hv] at this
          cases ao with
          | none => simp [Value.ownBlock] at e
          | some a => exact this (by simpa [Value.ownBlock] using e)
        · rw [hv]
          cases ao with
          | none => simp [Value.ownBlock] at hj
          | some a => simpa [Value.ownBlock] using hj
        · obtain ⟨a1, c1, e1, h1, _⟩ := h.2
          rw [e0] at e1 hv
          simp only [Value.slice.injEq] at e1 hv
          obtain ⟨rfl, rfl, rfl⟩ := e1
          obtain ⟨rfl, _, _⟩ := hv
          rw [hlen]
          exact ⟨off, rfl, Nat.le_refl _, by rw [List.length_drop]; omega⟩
  · have e1 : rdRaw n xs f = ([], ⟨0, xs, f⟩) := by unfold rdRaw; rw [if_pos hf]
    rw [e1]
    refine (rTake_fault g v xs n f w h hf).mono ?_
    rintro e w1 ⟨rfl, rfl⟩
    exact ⟨_, rfl, cut_nil _ _ _, ReadsTo.stay h⟩

set_option maxHeartbeats 400000 in
theorem rRaw_any (n : Int) (h : IsR w g v xs f) :
    Calls Tryz.prog 39 #[.pointer (some ⟨g, 0, none⟩), .int .i64 n] w fun e w' => ∃ u, e = .returned u ∧ Cut w' v u (rdRaw n xs f).1 (rdRaw n xs f).2.rest ∧ ReadsTo w g v (rdRaw n xs f).2 w' := by
  have H : Hid (IsR w g v xs f) := h
  clear h
  go_enter Tryz.func39, Tryz.ntmps39
  go_wp2_with fail
  refine (rTake_any g v xs f _ n H.out).mono ?_
  rintro e w1 ⟨u, rfl, hc⟩
  have HC : Hid (Cut w1 v u (rdRaw n xs f).1 (rdRaw n xs f).2.rest ∧ ReadsTo w g v (rdRaw n xs f).2 w1) := hc
  clear hc
  go_wp2
  go_ret
  exact ⟨_, rfl, HC.out⟩

set_option maxHeartbeats 400000 in
theorem rSized_any (most : Int) (h : IsR w g v xs f) (hb : Byts xs) :
    Calls Tryz.prog 80 #[.pointer (some ⟨g, 0, none⟩), .int .i64 most] w fun e w' => ∃ u, e = .returned u ∧ Cut w' v u (rdBuf most xs f).1 (rdBuf most xs f).2.rest ∧ ReadsTo w g v (rdBuf most xs f).2 w' := by
  have H : Hid (IsR w g v xs f ∧ Byts xs) := ⟨h, hb⟩
  clear h hb
  by_cases hf : f = 0
  · subst hf
    by_cases hl : xs.length < 4
    · have e1 : rdBuf most xs 0 = ([], ⟨0, xs, 10⟩) := by unfold rdBuf; rw [if_neg (by simp), if_pos hl]
      rw [e1]
      clear e1
      go_enter Tryz.func80, Tryz.ntmps80
      go_wp2_with fail
      refine (rSize_short g v xs most _ H.out.1 hl).mono ?_
      rintro e w1 ⟨rfl, rfl⟩
      go_wp2
      go_ret
      exact ⟨_, rfl, cut_nil _ _ _, ReadsTo.fail H.out.1 10⟩
    · by_cases hw : ahead xs < 0 ∨ most < ahead xs
      · have e1 : rdBuf most xs 0 = ([], ⟨0, xs, 11⟩) := by unfold rdBuf; rw [if_neg (by simp), if_neg hl, if_pos hw]
        rw [e1]
        have HW : Hid _ := hw
        clear e1 hw
        go_enter Tryz.func80, Tryz.ntmps80
        go_wp2_with fail
        refine (rSize_wide g v xs most _ H.out.1 H.out.2 (by omega) HW.out).mono ?_
        rintro e w1 ⟨rfl, rfl⟩
        go_wp2
        go_ret
        exact ⟨_, rfl, cut_nil _ _ _, ReadsTo.fail H.out.1 11⟩
      · have hn : 0 ≤ ahead xs := by omega
        have hm : ahead xs ≤ most := by omega
        by_cases ho : (xs.length : Int) - 4 < ahead xs
        · have e1 : rdBuf most xs 0 = ([], ⟨0, xs, 10⟩) := by unfold rdBuf; rw [if_neg (by simp), if_neg hl, if_neg hw, if_pos ho]
          rw [e1]
          clear e1 hw
          go_enter Tryz.func80, Tryz.ntmps80
          go_wp2_with fail
          refine (rSize_over g v xs most _ H.out.1 H.out.2 (by omega) hn hm ho).mono ?_
          rintro e w1 ⟨rfl, rfl⟩
          go_wp2
          go_ret
          exact ⟨_, rfl, cut_nil _ _ _, ReadsTo.fail H.out.1 10⟩
        · have e1 : rdBuf most xs 0 = ((xs.drop 4).take (ahead xs).toNat, ⟨0, (xs.drop 4).drop (ahead xs).toNat, 0⟩) := by unfold rdBuf; rw [if_neg (by simp), if_neg hl, if_neg hw, if_neg ho]
          rw [e1]
          clear e1 hw
          go_enter Tryz.func80, Tryz.ntmps80
          go_wp2_with fail
          refine (rSize_ok g v xs most _ H.out.1 H.out.2 (by omega) hn hm (by omega)).mono ?_
          rintro e w1 ⟨rfl, rfl⟩
          go_wp2_with fail
          refine (rSkip_ok g v xs 4 0 _ H.out.1 (by omega)).mono ?_
          rintro e w2 ⟨rfl, hw2⟩
          have HR : Hid (IsR w2 g (cutFrom v 4) (xs.drop 4) 0 ∧ Kept w1 w2 (· = g) ∧ (∀ k, (cutFrom v 4).ownBlock = some k → v.ownBlock = some k) ∧ SufAt v (cutFrom v 4)) := by
            rw [hw2]
            refine ⟨H.out.1.skip (by omega), (Kept.refl w1 _).setCell _ _ (fun _ => rfl), fun k hk => ?_, suf_of H.out.1.2 (by omega)⟩
            obtain ⟨ao, cap, rfl, _⟩ := H.out.1.2
            exact cutFrom_block hk
          have e2 : rdRaw (ahead xs) (xs.drop 4) 0 = ((xs.drop 4).take (ahead xs).toNat, ⟨0, (xs.drop 4).drop (ahead xs).toNat, 0⟩) := by
            unfold rdRaw
            rw [if_neg (by simp), if_neg (by omega), if_neg (by rw [List.length_drop]; omega)]
          have HE2 : Hid _ := e2
          clear hw2 e2
          go_wp2_with fail
          refine (rTake_any g _ (xs.drop 4) 0 _ (ahead xs) HR.out.1).mono ?_
          rintro e w3 ⟨u, rfl, hc, ht⟩
          rw [HE2.out] at hc ht
          have HC : Hid (Cut w3 v u ((xs.drop 4).take (ahead xs).toNat) ((xs.drop 4).drop (ahead xs).toNat) ∧ ReadsTo w1 g v ⟨0, (xs.drop 4).drop (ahead xs).toNat, 0⟩ w3) := by
            refine ⟨⟨hc.1, hc.2.1, fun k hk => HR.out.2.2.1 k (hc.2.2.1 k hk), hc.2.2.2.past HR.out.2.2.2⟩, ?_⟩
            obtain ⟨v', t1, t2, t3⟩ := ht
            exact ⟨v', t1, ⟨fun k hk => HR.out.2.2.1 k (t2.1 k hk), HR.out.2.2.2.trans t2.2⟩, HR.out.2.1.trans t3 (fun _ _ h => h)⟩
          clear hc ht
          go_wp2
          go_ret
          exact ⟨_, rfl, HC.out⟩
  · have e1 : rdBuf most xs f = ([], ⟨0, xs, f⟩) := by unfold rdBuf; rw [if_pos hf]
    rw [e1]
    have HF : Hid (f ≠ 0) := hf
    clear e1 hf
    go_enter Tryz.func80, Tryz.ntmps80
    go_wp2_with fail
    refine (rSize_fault g v xs most _ f H.out.1 HF.out).mono ?_
    rintro e w1 ⟨rfl, rfl⟩
    go_wp2
    go_ret
    exact ⟨_, rfl, cut_nil _ _ _, ReadsTo.stay H.out.1⟩

set_option maxHeartbeats 400000 in
theorem rBuffer_any (most : Int) (h : IsR w g v xs f) (hb : Byts xs) :
    Calls Tryz.prog 38 #[.pointer (some ⟨g, 0, none⟩), .int .i64 most] w fun e w' => ∃ u, e = .returned u ∧ Cut w' v u (rdBuf most xs f).1 (rdBuf most xs f).2.rest ∧ ReadsTo w g v (rdBuf most xs f).2 w' := by
  have H : Hid (IsR w g v xs f ∧ Byts xs) := ⟨h, hb⟩
  clear h hb
  go_enter Tryz.func38, Tryz.ntmps38
  go_wp2_with fail
  refine (rSized_any g v xs f _ most H.out.1 H.out.2).mono ?_
  rintro e w1 ⟨u, rfl, hc⟩
  have HC : Hid (Cut w1 v u (rdBuf most xs f).1 (rdBuf most xs f).2.rest ∧ ReadsTo w g v (rdBuf most xs f).2 w1) := hc
  clear hc
  go_wp2
  go_ret
  exact ⟨_, rfl, HC.out⟩

set_option maxHeartbeats 400000 in
theorem rText_any (most : Int) (h : IsR w g v xs f) (hb : Byts xs) :
    Calls Tryz.prog 36 #[.pointer (some ⟨g, 0, none⟩), .int .i64 most] w fun e w' => e = .returned (.string (strOfNums (rdBuf most xs f).1)) ∧ ReadsTo w g v (rdBuf most xs f).2 w' := by
  have H : Hid (IsR w g v xs f ∧ Byts xs) := ⟨h, hb⟩
  clear h hb
  go_enter Tryz.func36, Tryz.ntmps36
  go_wp2_with fail
  refine (rSized_any g v xs f _ most H.out.1 H.out.2).mono ?_
  rintro e w1 ⟨u, rfl, hc, ht⟩
  have hcv := run_text w1 u _ hc.1
  have HC : Hid (ReadsTo w g v (rdBuf most xs f).2 w1) := ht
  clear hc ht
  go_wp2
  go_ret
  exact ⟨rfl, HC.out⟩
end
end Rz
end Go.Proofs.YtblgipjipeaemaaGreatDoor
