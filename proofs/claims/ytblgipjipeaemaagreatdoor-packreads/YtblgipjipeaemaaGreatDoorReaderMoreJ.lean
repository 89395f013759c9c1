/- What the Reader's Float, Buffer and Text do. -/
import Derived.Test.YtblgipjipeaemaaGreatDoorReaderAllJ
import Derived.Laws.BytesArg
namespace Go.Proofs.YtblgipjipeaemaaGreatDoor
open Go.RowKit
set_option maxRecDepth 8000

theorem frombits_run (n : Int) (w : World) : (callFunc 79 #[.int .u64 n]).run Tryz.prog w = .ok (.value (.float .f64 n.toNat)) w := by
  rw [run_callFunc_extern (e := Extern.MathFloatBits.float64frombits) Tryz.func79 (by kernel_rfl) (by kernel_rfl) (by kernel_rfl) (by kernel_rfl)]
  rfl

/-- A float: by the document: its word. -/
def rdFloat (xs : List Int) (f : Int) : Rd :=
  if f ≠ 0 then ⟨0, xs, f⟩ else if xs.length < 8 then ⟨0, xs, 10⟩
  else if 9218868437227405312 < (num (xs.take 8)).toNat % 9223372036854775808 ∧ num (xs.take 8) ≠ 9221120237041090560 then ⟨0, xs, 12⟩ else ⟨num (xs.take 8), xs.drop 8, 0⟩

section
variable (g : Nat) (v : Value) (xs : List Int) (f : Int) (w : World)

set_option maxHeartbeats 400000 in
theorem rFloat_any (h : IsR w g v xs f) (hb : Byts xs) :
    Calls Tryz.prog 35 #[.pointer (some ⟨g, 0, none⟩)] w fun e w' => e = .returned (.float .f64 (rdFloat xs f).out.toNat) ∧ ReadsTo w g v (rdFloat xs f) w' := by
  have H : Hid (IsR w g v xs f ∧ Byts xs) := ⟨h, hb⟩
  have h2 := h.c2
  have h3 := h.fr 2
  clear h hb
  by_cases hf : f = 0
  · subst hf
    by_cases hl : xs.length < 8
    · have e1 : rdFloat xs 0 = ⟨0, xs, 10⟩ := by unfold rdFloat; rw [if_neg (by simp), if_pos hl]
      rw [e1]
      clear e1
      go_enter Tryz.func35, Tryz.ntmps35
      go_wp2_with fail
      refine (rPeek_short g v xs 8 _ H.out.1 hl).mono ?_
      rintro e w1 ⟨rfl, rfl⟩
      go_wp2
      go_ret
      exact ⟨rfl, ReadsTo.fail H.out.1 10⟩
    · have hfb := frombits_run
      by_cases hc : 9218868437227405312 < (num (xs.take 8)).toNat % 9223372036854775808
      · have f1 : (FloatKind.f64.format.order (num (xs.take 8)).toNat (num (xs.take 8)).toNat != some .eq) = true := by
          show (Ieee.double.order _ _ != some .eq) = true
          rw [nan_order _ hc]; rfl
        by_cases hc2 : num (xs.take 8) = 9221120237041090560
        · have e1 : rdFloat xs 0 = ⟨num (xs.take 8), xs.drop 8, 0⟩ := by unfold rdFloat; rw [if_neg (by simp), if_neg hl, if_neg (fun h => h.2 hc2)]
          rw [e1]
          have f2 : (num (xs.take 8) != 9221120237041090560) = false := by simp [hc2]
          clear e1 hc hc2 h2 h3
          go_enter Tryz.func35, Tryz.ntmps35
          go_wp2_with fail
          refine (rPeek_ok g v xs 8 _ H.out.1 (by omega)).mono ?_
          rintro e w1 ⟨ao, rfl, hs, _, rfl⟩
          have HS : Hid (Sees w1 (.slice ao 8 8) (xs.take 8)) := hs
          clear hs
          go_wp2_with fail
          refine (join_any _ (xs.take 8) _ HS.out (H.out.2.take 8) (by simp; omega)).mono ?_
          rintro e w2 ⟨rfl, rfl⟩
          go_wp2_with fail
          refine (rSkip_ok g v xs 8 0 _ H.out.1 (by omega)).mono ?_
          rintro e w3 ⟨rfl, hw3⟩
          have HR : Hid (ReadsTo w2 g v ⟨num (xs.take 8), xs.drop 8, 0⟩ w3) := by rw [hw3]; exact ReadsTo.skip H.out.1 (by omega)
          clear hw3
          go_wp2
          go_ret
          exact ⟨rfl, HR.out⟩
        · have e1 : rdFloat xs 0 = ⟨0, xs, 12⟩ := by unfold rdFloat; rw [if_neg (by simp), if_neg hl, if_pos ⟨hc, hc2⟩]
          rw [e1]
          have f2 : (num (xs.take 8) != 9221120237041090560) = true := by simp [hc2]
          clear e1 hc hc2
          go_enter Tryz.func35, Tryz.ntmps35
          go_wp2_with fail
          refine (rPeek_ok g v xs 8 _ H.out.1 (by omega)).mono ?_
          rintro e w1 ⟨ao, rfl, hs, _, rfl⟩
          have HS : Hid (Sees w1 (.slice ao 8 8) (xs.take 8)) := hs
          clear hs
          go_wp2_with fail
          refine (join_any _ (xs.take 8) _ HS.out (H.out.2.take 8) (by simp; omega)).mono ?_
          rintro e w2 ⟨rfl, rfl⟩
          go_wp2
          go_ret
          exact ⟨rfl, ReadsTo.fail H.out.1 12⟩
      · have f1 : (FloatKind.f64.format.order (num (xs.take 8)).toNat (num (xs.take 8)).toNat != some .eq) = false := by
          show (Ieee.double.order _ _ != some .eq) = false
          rw [num_order _ hc]; rfl
        have e1 : rdFloat xs 0 = ⟨num (xs.take 8), xs.drop 8, 0⟩ := by unfold rdFloat; rw [if_neg (by simp), if_neg hl, if_neg (fun h => hc h.1)]
        rw [e1]
        clear e1 hc h2 h3
        go_enter Tryz.func35, Tryz.ntmps35
        go_wp2_with fail
        refine (rPeek_ok g v xs 8 _ H.out.1 (by omega)).mono ?_
        rintro e w1 ⟨ao, rfl, hs, _, rfl⟩
        have HS : Hid (Sees w1 (.slice ao 8 8) (xs.take 8)) := hs
        clear hs
        go_wp2_with fail
        refine (join_any _ (xs.take 8) _ HS.out (H.out.2.take 8) (by simp; omega)).mono ?_
        rintro e w2 ⟨rfl, rfl⟩
        go_wp2_with fail
        refine (rSkip_ok g v xs 8 0 _ H.out.1 (by omega)).mono ?_
        rintro e w3 ⟨rfl, hw3⟩
        have HR : Hid (ReadsTo w2 g v ⟨num (xs.take 8), xs.drop 8, 0⟩ w3) := by rw [hw3]; exact ReadsTo.skip H.out.1 (by omega)
        clear hw3
        go_wp2
        go_ret
        exact ⟨rfl, HR.out⟩
  · have e1 : rdFloat xs f = ⟨0, xs, f⟩ := by unfold rdFloat; rw [if_pos hf]
    rw [e1]
    have HF : Hid (f ≠ 0) := hf
    clear e1 hf
    go_enter Tryz.func35, Tryz.ntmps35
    go_wp2_with fail
    refine (rPeek_fault g v xs 8 f _ H.out.1 HF.out).mono ?_
    rintro e w1 ⟨rfl, rfl⟩
    go_wp2
    go_ret
    exact ⟨rfl, ReadsTo.stay H.out.1⟩

set_option maxHeartbeats 400000 in
theorem rBuffer_any (most : Int) (h : IsR w g v xs f) (hb : Byts xs) :
    Calls Tryz.prog 38 #[.pointer (some ⟨g, 0, none⟩), .int .i64 most] w fun e w' => ∃ u, e = .returned u ∧ Cut w' v u (rdBuf most xs f).1 ∧ ReadsTo w g v (rdBuf most xs f).2 w' := by
  have H : Hid (IsR w g v xs f ∧ Byts xs) := ⟨h, hb⟩
  clear h hb
  go_enter Tryz.func38, Tryz.ntmps38
  go_wp2_with fail
  refine (rSized_any g v xs f _ most H.out.1 H.out.2).mono ?_
  rintro e w1 ⟨u, rfl, hc⟩
  have HC : Hid (Cut w1 v u (rdBuf most xs f).1 ∧ ReadsTo w g v (rdBuf most xs f).2 w1) := hc
  clear hc
  go_wp2
  go_ret
  exact ⟨_, rfl, HC.out⟩

theorem run_text (w : World) (u : Value) (ys : List Int) (h : Sees w u ys) : (convert 22 9 u).run Tryz.prog w = .ok (.string (strOfNums ys)) w := by
  obtain ⟨ao, cap, rfl, _, _, _, h3⟩ := h
  rcases h3 with rfl | ⟨b, off, rfl, h3⟩
  · cases ao with
    | none => exact run_convert_bytes_nil w 22 5 Tryz.underlying22 Tryz.underlying5 _ _ _ Tryz.underlying9
    | some a =>
      rw [run_convert_bytes_string w 22 9 5 _ _ _ Tryz.underlying22 Tryz.underlying5 Tryz.underlying9]
      have hl : (loadCells a 0).run Tryz.prog w = .ok #[] w := by simp [loadCells, loadCellsFrom]
      simp [Conv.bytesToString, strOfNums, hl]
      rfl
  · exact run_convert_bytes_arg w 22 5 Tryz.underlying22 Tryz.underlying5 b off ys.length cap ys rfl h3 _ Tryz.underlying9

set_option maxHeartbeats 400000 in
theorem rText_any (most : Int) (h : IsR w g v xs f) (hb : Byts xs) :
    Calls Tryz.prog 36 #[.pointer (some ⟨g, 0, none⟩), .int .i64 most] w fun e w' => e = .returned (.string (strOfNums (rdBuf most xs f).1)) ∧ ReadsTo w g v (rdBuf most xs f).2 w' := by
  have H : Hid (IsR w g v xs f ∧ Byts xs) := ⟨h, hb⟩
  clear h hb
  go_enter Tryz.func36, Tryz.ntmps36
  go_wp2_with fail
  refine (rSized_any g v xs f _ most H.out.1 H.out.2).mono ?_
  rintro e w1 ⟨u, rfl, hc, ht⟩
  have hcv := run_text w1 u _ hc.1
  have HC : Hid (ReadsTo w g v (rdBuf most xs f).2 w1) := ht
  clear hc ht
  go_wp2
  go_ret
  exact ⟨rfl, HC.out⟩
end
end Go.Proofs.YtblgipjipeaemaaGreatDoor
