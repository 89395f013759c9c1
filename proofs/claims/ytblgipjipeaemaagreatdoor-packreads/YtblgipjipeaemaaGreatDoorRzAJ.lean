/- The Reader's calls, and where what is left and what is answered lies: numbers. -/
import Derived.Test.YtblgipjipeaemaaGreatDoorReaderMoreJ
namespace Go.Proofs.YtblgipjipeaemaaGreatDoor
open Go.RowKit
set_option maxRecDepth 8000
namespace Rz

/-- What is left of a list ends where the list ended. -/
def SufAt (v v' : Value) : Prop := ∀ b off l c, v = .slice (some ⟨b, off, none⟩) l c → ∃ off' l' c', v' = .slice (some ⟨b, off', none⟩) l' c' ∧ l' ≤ l ∧ (l' ≠ 0 → off' + l' = off + l)
theorem SufAt.refl (v : Value) : SufAt v v := fun _ off l c e => ⟨off, l, c, e, Nat.le_refl _, fun _ => rfl⟩
theorem SufAt.trans {a b c : Value} (h : SufAt a b) (g : SufAt b c) : SufAt a c := fun k off l cap e => by
  obtain ⟨o1, l1, c1, e1, h1, h2⟩ := h k off l cap e
  obtain ⟨o2, l2, c2, e2, g1, g2⟩ := g k o1 l1 c1 e1
  exact ⟨o2, l2, c2, e2, by omega, fun h0 => by have := g2 h0; have := h2 (by omega); omega⟩
theorem SufAt.cut {v : Value} {n : Nat} (hv : ∀ ao l c, v = .slice ao l c → n ≤ l ∧ l ≤ c) : SufAt v (cutFrom v n) := fun b off l c e => by
  obtain ⟨h1, h2⟩ := hv _ _ _ e
  subst e
  unfold cutFrom
  simp only
  by_cases hc : c = n
  · rw [if_pos hc]; exact ⟨off, _, _, rfl, by omega, fun h0 => by omega⟩
  · rw [if_neg hc, Option.map_some, addr_add]; exact ⟨off + n, _, _, rfl, by omega, fun h0 => by omega⟩

/-- The Reader at g behind a call: its state is s; what is left ends where it ended. -/
def ReadsTo (w : World) (g : Nat) (v : Value) (s : Rd) (w' : World) : Prop :=
  ∃ v', IsR w' g v' s.rest s.fault ∧ ((∀ k, v'.ownBlock = some k → v.ownBlock = some k) ∧ SufAt v v') ∧ Kept w w' (· = g)

theorem ReadsTo.stay {w : World} {g : Nat} {v : Value} {xs : List Int} {f n : Int} (h : IsR w g v xs f) : ReadsTo w g v ⟨n, xs, f⟩ w := ⟨v, h, ⟨fun _ h => h, SufAt.refl _⟩, Kept.refl _ _⟩
theorem ReadsTo.fail {w : World} {g : Nat} {v : Value} {xs : List Int} {f n : Int} (h : IsR w g v xs f) (e : Int) : ReadsTo w g v ⟨n, xs, e⟩ (w.setCell ⟨g, 2, none⟩ (.int .i64 e)) :=
  ⟨v, h.fail e, ⟨fun _ h => h, SufAt.refl _⟩, (Kept.refl w _).setCell _ _ (fun _ => rfl)⟩
theorem suf_of {w : World} {v : Value} {xs : List Int} {n : Nat} (h : Sees w v xs) (hn : n ≤ xs.length) : SufAt v (cutFrom v n) := by
  obtain ⟨ao, cap, rfl, h1, _⟩ := h
  refine SufAt.cut (fun a l c e => ?_)
  simp only [Value.slice.injEq] at e
  obtain ⟨_, rfl, rfl⟩ := e
  exact ⟨hn, h1⟩
theorem ReadsTo.skip {w : World} {g : Nat} {v : Value} {xs : List Int} {f x : Int} {n : Nat} (h : IsR w g v xs f) (hn : n ≤ xs.length) : ReadsTo w g v ⟨x, xs.drop n, f⟩ (w.setCell ⟨g, 1, none⟩ (cutFrom v n)) := by
  have hs := suf_of h.2 hn
  refine ⟨_, h.skip hn, ⟨fun k hk => ?_, hs⟩, (Kept.refl w _).setCell _ _ (fun _ => rfl)⟩
  obtain ⟨ao, cap, rfl, _⟩ := h.2
  exact cutFrom_block hk

set_option maxHeartbeats 400000 in
theorem rNumber_any (g : Nat) (v : Value) (xs : List Int) (f : Int) (n : Nat) (w : World) (h : IsR w g v xs f) (hb : Byts xs) (h8 : n ≤ 8) :
    Calls Tryz.prog 30 #[.pointer (some ⟨g, 0, none⟩), .int .i64 n] w fun e w' => e = .returned (.int .u64 (rdNum n xs f).out) ∧ ReadsTo w g v (rdNum n xs f) w' := by
  have H : Hid (IsR w g v xs f ∧ Byts xs) := ⟨h, hb⟩
  clear h hb
  by_cases hf : f = 0
  · by_cases hl : xs.length < n
    · have e1 : rdNum n xs f = ⟨0, xs, 10⟩ := by simp [rdNum, hf, hl]
      rw [e1]
      clear e1
      subst hf
      go_enter Tryz.func30, Tryz.ntmps30
      go_wp2_with fail
      refine (rTake_short g v xs n _ H.out.1 hl).mono ?_
      rintro e w1 ⟨rfl, rfl⟩
      go_wp2_with fail
      refine (join_any _ [] _ (sees_nil _) (by intro x hx; simp at hx) (by simp)).mono ?_
      rintro e w2 ⟨rfl, rfl⟩
      go_wp2
      go_ret
      exact ⟨rfl, ReadsTo.fail H.out.1 10⟩
    · have e1 : rdNum n xs f = ⟨num (xs.take n), xs.drop n, 0⟩ := by simp [rdNum, hf, hl]
      rw [e1]
      clear e1
      subst hf
      go_enter Tryz.func30, Tryz.ntmps30
      go_wp2_with fail
      refine (rTake_ok g v xs n _ H.out.1 (by omega)).mono ?_
      rintro e w1 ⟨ao, rfl, hs, hv, rfl⟩
      have HS : Hid (Sees w (.slice ao n n) (xs.take n) ∧ ∃ l c, v = .slice ao l c) := ⟨hs, hv⟩
      clear hs hv
      go_wp2_with fail
      refine (join_any _ (xs.take n) _ (HS.out.1.set _ _ (fun hx => ?_)) (H.out.2.take n) (by simp; omega)).mono ?_
      · obtain ⟨l, c, e⟩ := HS.out.2
        have := H.out.1.apart (fun e2 => hx (by rw [e2]; simp))
        rw [e] at this
        cases ao with
        | none => simp [Value.ownBlock]
        | some a => simpa [Value.ownBlock] using this
      rintro e w2 ⟨rfl, rfl⟩
      go_wp2
      go_ret
      exact ⟨rfl, ReadsTo.skip H.out.1 (by omega)⟩
  · have e1 : rdNum n xs f = ⟨0, xs, f⟩ := by simp [rdNum, hf]
    rw [e1]
    clear e1
    have HF : Hid (f ≠ 0) := hf
    clear hf
    go_enter Tryz.func30, Tryz.ntmps30
    go_wp2_with fail
    refine (rTake_fault g v xs n f _ H.out.1 HF.out).mono ?_
    rintro e w1 ⟨rfl, rfl⟩
    go_wp2_with fail
    refine (join_any _ [] _ (sees_nil _) (by intro x hx; simp at hx) (by simp)).mono ?_
    rintro e w2 ⟨rfl, rfl⟩
    go_wp2
    go_ret
    exact ⟨rfl, ReadsTo.stay H.out.1⟩

set_option maxHeartbeats 400000 in
theorem rInt32_any (g : Nat) (v : Value) (xs : List Int) (f : Int) (w : World) (h : IsR w g v xs f) (hb : Byts xs) :
    Calls Tryz.prog 14 #[.pointer (some ⟨g, 0, none⟩)] w fun e w' => e = .returned (.int .i32 (down32 (rdNum 4 xs f).out)) ∧ ReadsTo w g v (rdNum 4 xs f) w' := by
  have H : Hid (IsR w g v xs f ∧ Byts xs) := ⟨h, hb⟩
  clear h hb
  go_enter Tryz.func14, Tryz.ntmps14
  go_wp2_with fail
  refine (rNumber_any g v xs f 4 _ H.out.1 H.out.2 (by omega)).mono ?_
  rintro e w1 ⟨rfl, hr⟩
  have HR : Hid (ReadsTo w g v (rdNum 4 xs f) w1) := hr
  clear hr
  go_wp2
  go_ret
  exact ⟨rfl, HR.out⟩

section
variable (g : Nat) (v : Value) (xs : List Int) (f : Int) (w : World)

set_option maxHeartbeats 400000 in
theorem rUint32_any (h : IsR w g v xs f) (hb : Byts xs) :
    Calls Tryz.prog 33 #[.pointer (some ⟨g, 0, none⟩)] w fun e w' => e = .returned (.int .u32 (rdNum 4 xs f).out) ∧ ReadsTo w g v (rdNum 4 xs f) w' := by
  have hbd := rdNum_bd 4 xs f hb
  have h4 : (256 : Int) ^ 4 = 4294967296 := by decide
  rw [h4] at hbd
  have b1 := hbd.1
  have b2 := hbd.2
  have H : Hid (IsR w g v xs f ∧ Byts xs) := ⟨h, hb⟩
  clear h hb h4 hbd
  go_enter Tryz.func33, Tryz.ntmps33
  go_wp2_with fail
  refine (rNumber_any g v xs f 4 _ H.out.1 H.out.2 (by omega)).mono ?_
  rintro e w1 ⟨rfl, hr⟩
  have HR : Hid (ReadsTo w g v (rdNum 4 xs f) w1) := hr
  clear hr
  go_wp2
  go_ret
  exact ⟨rfl, HR.out⟩

set_option maxHeartbeats 400000 in
theorem rInt64_any (h : IsR w g v xs f) (hb : Byts xs) :
    Calls Tryz.prog 34 #[.pointer (some ⟨g, 0, none⟩)] w fun e w' => e = .returned (.int .i64 (wrap64 (rdNum 8 xs f).out)) ∧ ReadsTo w g v (rdNum 8 xs f) w' := by
  have H : Hid (IsR w g v xs f ∧ Byts xs) := ⟨h, hb⟩
  clear h hb
  go_enter Tryz.func34, Tryz.ntmps34
  go_wp2_with fail
  refine (rNumber_any g v xs f 8 _ H.out.1 H.out.2 (by omega)).mono ?_
  rintro e w1 ⟨rfl, hr⟩
  have HR : Hid (ReadsTo w g v (rdNum 8 xs f) w1) := hr
  clear hr
  go_wp2
  go_ret
  exact ⟨rfl, HR.out⟩

set_option maxHeartbeats 400000 in
theorem rInt8_any (h : IsR w g v xs f) (hb : Byts xs) :
    Calls Tryz.prog 32 #[.pointer (some ⟨g, 0, none⟩)] w fun e w' => e = .returned (.int .i8 (IntKind.i8.wrap (rdNum 1 xs f).out)) ∧ ReadsTo w g v (rdNum 1 xs f) w' := by
  have H : Hid (IsR w g v xs f ∧ Byts xs) := ⟨h, hb⟩
  clear h hb
  go_enter Tryz.func32, Tryz.ntmps32
  go_wp2_with fail
  refine (rNumber_any g v xs f 1 _ H.out.1 H.out.2 (by omega)).mono ?_
  rintro e w1 ⟨rfl, hr⟩
  have HR : Hid (ReadsTo w g v (rdNum 1 xs f) w1) := hr
  clear hr
  go_wp2
  go_ret
  exact ⟨rfl, HR.out⟩

set_option maxHeartbeats 400000 in
theorem rBool_any (h : IsR w g v xs f) (hb : Byts xs) :
    Calls Tryz.prog 31 #[.pointer (some ⟨g, 0, none⟩)] w fun e w' => e = .returned (.bool ((rdBool xs f).out == 1)) ∧ ReadsTo w g v (rdBool xs f) w' := by
  by_cases hf : f = 0
  · subst hf
    by_cases hl : xs.length < 1
    · have e1 : rdBool xs 0 = ⟨0, xs, 10⟩ := by unfold rdBool; rw [if_neg (by simp), if_pos hl]
      rw [e1]
      have H : Hid (IsR w g v xs 0) := h
      clear h e1
      go_enter Tryz.func31, Tryz.ntmps31
      go_wp2_with fail
      refine (rPeek_short g v xs 1 _ H.out hl).mono ?_
      rintro e w1 ⟨rfl, rfl⟩
      go_wp2
      go_ret
      exact ⟨rfl, ReadsTo.fail H.out 10⟩
    · have hx := hb.nth 0
      have h2 := h.c2
      have h3 := h.fr 2
      by_cases hc : 1 < xs.getD 0 0
      · have e1 : rdBool xs 0 = ⟨0, xs, 12⟩ := by unfold rdBool; rw [if_neg (by simp), if_neg hl, if_pos hc]
        rw [e1]
        have H : Hid (IsR w g v xs 0) := h
        clear h e1
        go_enter Tryz.func31, Tryz.ntmps31
        go_wp2_with fail
        refine (rPeek_ok g v xs 1 _ H.out (by omega)).mono ?_
        rintro e w1 ⟨ao, rfl, hs, _, rfl⟩
        obtain ⟨b, off, rfl, hcell⟩ := sees_first hs (by omega)
        clear hs
        generalize xs.getD 0 0 = x at *
        go_wp2
        go_ret
        exact ⟨rfl, ReadsTo.fail H.out 12⟩
      · have e1 : rdBool xs 0 = ⟨xs.getD 0 0, xs.drop 1, 0⟩ := by unfold rdBool; rw [if_neg (by simp), if_neg hl, if_neg hc]
        rw [e1]
        have H : Hid (IsR w g v xs 0) := h
        clear h e1 h2 h3
        go_enter Tryz.func31, Tryz.ntmps31
        go_wp2_with fail
        refine (rPeek_ok g v xs 1 _ H.out (by omega)).mono ?_
        rintro e w1 ⟨ao, rfl, hs, hv, rfl⟩
        obtain ⟨b, off, rfl, hcell⟩ := sees_first hs (by omega)
        obtain ⟨l, c, hvv⟩ := hv
        have hbg : b ≠ g := by
          have := H.out.apart (by intro e; rw [e] at hl; simp at hl)
          rw [hvv] at this
          intro e
          exact this (by simp [Value.ownBlock, e])
        have HV : Hid (v = .slice (some ⟨b, off, none⟩) l c) := hvv
        clear hs hvv
        generalize hxx : xs.getD 0 0 = x at *
        have HXX : Hid (xs.getD 0 0 = x) := hxx
        clear hxx
        go_wp2_with fail
        refine (rSkip_ok g v xs 1 0 _ H.out (by omega)).mono ?_
        rintro e w2 ⟨rfl, hw2⟩
        have hcell2 : w2.cell? ⟨b, off, none⟩ = some (.int .u8 x) := by
          rw [hw2, World.cell?_of_block (w := w1) (Below.heap_setCell w1 _ _ b hbg)]; exact hcell
        have HRR : Hid (ReadsTo w1 g v ⟨x, xs.drop 1, 0⟩ w2) := by rw [hw2]; exact ReadsTo.skip H.out (by omega)
        clear hw2 hcell
        go_wp2
        go_ret
        have hxx := HXX.out
        subst hxx
        exact ⟨rfl, HRR.out⟩
  · have e1 : rdBool xs f = ⟨0, xs, f⟩ := by unfold rdBool; rw [if_pos hf]
    rw [e1]
    have H : Hid (IsR w g v xs f ∧ f ≠ 0) := ⟨h, hf⟩
    clear h e1 hf
    go_enter Tryz.func31, Tryz.ntmps31
    go_wp2_with fail
    refine (rPeek_fault g v xs 1 f _ H.out.1 H.out.2).mono ?_
    rintro e w1 ⟨rfl, rfl⟩
    go_wp2
    go_ret
    exact ⟨rfl, ReadsTo.stay H.out.1⟩

theorem rFail_any (e0 : Int) (h : IsR w g v xs f) :
    Calls Tryz.prog 40 #[.pointer (some ⟨g, 0, none⟩), .int .i64 e0] w fun e w' => e = .returned (.tuple #[]) ∧ ReadsTo w g v ⟨0, xs, if f = 0 then e0 else f⟩ w' := by
  have h2 := h.c2
  have h3 := h.fr 2
  have H : Hid (IsR w g v xs f) := h
  clear h
  by_cases hf : f = 0
  · subst hf
    rw [if_pos rfl]
    go_enter Tryz.func40, Tryz.ntmps40
    go_wp2_with fail
    refine (rReads_any g v xs 0 _ H.out).mono ?_
    rintro e w1 ⟨rfl, rfl⟩
    go_wp2
    go_end0
    exact ⟨rfl, ReadsTo.fail H.out e0⟩
  · rw [if_neg hf]
    have hf' : (f == 0) = false := by simp [hf]
    clear hf
    go_enter Tryz.func40, Tryz.ntmps40
    go_wp2_with fail
    refine (rReads_any g v xs f _ H.out).mono ?_
    rintro e w1 ⟨rfl, rfl⟩
    go_wp2
    go_end0
    exact ⟨rfl, ReadsTo.stay H.out⟩

set_option maxHeartbeats 400000 in
theorem rFloat_any (h : IsR w g v xs f) (hb : Byts xs) :
    Calls Tryz.prog 35 #[.pointer (some ⟨g, 0, none⟩)] w fun e w' => e = .returned (.float .f64 (rdFloat xs f).out.toNat) ∧ ReadsTo w g v (rdFloat xs f) w' := by
  have H : Hid (IsR w g v xs f ∧ Byts xs) := ⟨h, hb⟩
  have h2 := h.c2
  have h3 := h.fr 2
  clear h hb
  by_cases hf : f = 0
  · subst hf
    by_cases hl : xs.length < 8
    · have e1 : rdFloat xs 0 = ⟨0, xs, 10⟩ := by unfold rdFloat; rw [if_neg (by simp), if_pos hl]
      rw [e1]
      clear e1
      go_enter Tryz.func35, Tryz.ntmps35
      go_wp2_with fail
      refine (rPeek_short g v xs 8 _ H.out.1 hl).mono ?_
      rintro e w1 ⟨rfl, rfl⟩
      go_wp2
      go_ret
      exact ⟨rfl, ReadsTo.fail H.out.1 10⟩
    · have hfb := frombits_run
      by_cases hc : 9218868437227405312 < (num (xs.take 8)).toNat % 9223372036854775808
      · have f1 : (FloatKind.f64.format.order (num (xs.take 8)).toNat (num (xs.take 8)).toNat != some .eq) = true := by
          show (Ieee.double.order _ _ != some .eq) = true
          rw [nan_order _ hc]; rfl
        by_cases hc2 : num (xs.take 8) = 9221120237041090560
        · have e1 : rdFloat xs 0 = ⟨num (xs.take 8), xs.drop 8, 0⟩ := by unfold rdFloat; rw [if_neg (by simp), if_neg hl, if_neg (fun h => h.2 hc2)]
          rw [e1]
          have f2 : (num (xs.take 8) != 9221120237041090560) = false := by simp [hc2]
          clear e1 hc hc2 h2 h3
          go_enter Tryz.func35, Tryz.ntmps35
          go_wp2_with fail
          refine (rPeek_ok g v xs 8 _ H.out.1 (by omega)).mono ?_
          rintro e w1 ⟨ao, rfl, hs, _, rfl⟩
          have HS : Hid (Sees w1 (.slice ao 8 8) (xs.take 8)) := hs
          clear hs
          go_wp2_with fail
          refine (join_any _ (xs.take 8) _ HS.out (H.out.2.take 8) (by simp; omega)).mono ?_
          rintro e w2 ⟨rfl, rfl⟩
          go_wp2_with fail
          refine (rSkip_ok g v xs 8 0 _ H.out.1 (by omega)).mono ?_
          rintro e w3 ⟨rfl, hw3⟩
          have HR : Hid (ReadsTo w2 g v ⟨num (xs.take 8), xs.drop 8, 0⟩ w3) := by rw [hw3]; exact ReadsTo.skip H.out.1 (by omega)
          clear hw3
          go_wp2
          go_ret
          exact ⟨rfl, HR.out⟩
        · have e1 : rdFloat xs 0 = ⟨0, xs, 12⟩ := by unfold rdFloat; rw [if_neg (by simp), if_neg hl, if_pos ⟨hc, hc2⟩]
          rw [e1]
          have f2 : (num (xs.take 8) != 9221120237041090560) = true := by simp [hc2]
          clear e1 hc hc2
          go_enter Tryz.func35, Tryz.ntmps35
          go_wp2_with fail
          refine (rPeek_ok g v xs 8 _ H.out.1 (by omega)).mono ?_
          rintro e w1 ⟨ao, rfl, hs, _, rfl⟩
          have HS : Hid (Sees w1 (.slice ao 8 8) (xs.take 8)) := hs
          clear hs
          go_wp2_with fail
          refine (join_any _ (xs.take 8) _ HS.out (H.out.2.take 8) (by simp; omega)).mono ?_
          rintro e w2 ⟨rfl, rfl⟩
          go_wp2
          go_ret
          exact ⟨rfl, ReadsTo.fail H.out.1 12⟩
      · have f1 : (FloatKind.f64.format.order (num (xs.take 8)).toNat (num (xs.take 8)).toNat != some .eq) = false := by
          show (Ieee.double.order _ _ != some .eq) = false
          rw [num_order _ hc]; rfl
        have e1 : rdFloat xs 0 = ⟨num (xs.take 8), xs.drop 8, 0⟩ := by unfold rdFloat; rw [if_neg (by simp), if_neg hl, if_neg (fun h => hc h.1)]
        rw [e1]
        clear e1 hc h2 h3
        go_enter Tryz.func35, Tryz.ntmps35
        go_wp2_with fail
        refine (rPeek_ok g v xs 8 _ H.out.1 (by omega)).mono ?_
        rintro e w1 ⟨ao, rfl, hs, _, rfl⟩
        have HS : Hid (Sees w1 (.slice ao 8 8) (xs.take 8)) := hs
        clear hs
        go_wp2_with fail
        refine (join_any _ (xs.take 8) _ HS.out (H.out.2.take 8) (by simp; omega)).mono ?_
        rintro e w2 ⟨rfl, rfl⟩
        go_wp2_with fail
        refine (rSkip_ok g v xs 8 0 _ H.out.1 (by omega)).mono ?_
        rintro e w3 ⟨rfl, hw3⟩
        have HR : Hid (ReadsTo w2 g v ⟨num (xs.take 8), xs.drop 8, 0⟩ w3) := by rw [hw3]; exact ReadsTo.skip H.out.1 (by omega)
        clear hw3
        go_wp2
        go_ret
        exact ⟨rfl, HR.out⟩
  · have e1 : rdFloat xs f = ⟨0, xs, f⟩ := by unfold rdFloat; rw [if_pos hf]
    rw [e1]
    have HF : Hid (f ≠ 0) := hf
    clear e1 hf
    go_enter Tryz.func35, Tryz.ntmps35
    go_wp2_with fail
    refine (rPeek_fault g v xs 8 f _ H.out.1 HF.out).mono ?_
    rintro e w1 ⟨rfl, rfl⟩
    go_wp2
    go_ret
    exact ⟨rfl, ReadsTo.stay H.out.1⟩
end
end Rz
end Go.Proofs.YtblgipjipeaemaaGreatDoor
