/- The document's own Reader (lagoonref01): Float. -/
import Derived.Test.YtblgipjipeaemaaGreatDoorFrmBJ
import Derived.Test.YtblgipjipeaemaaGreatDoorRefR5J
import Derived.Test.YtblgipjipeaemaaGreatDoorReaderMoreJ
namespace Go.Proofs.YtblgipjipeaemaaGreatDoor
open Go.RowKit
set_option maxRecDepth 8000

/-- A NaN. -/
def Nan (x : Nat) : Prop := 9218868437227405312 < x % 9223372036854775808

/-- What the document's Float may answer where a word n is read: that word, any NaN for a NaN. -/
def FlOf (n x : Nat) : Prop := x < 18446744073709551616 ∧ (¬ Nan n → x = n) ∧ (Nan n → Nan x)

theorem flOf_nought : FlOf 0 0 := ⟨by omega, fun _ => rfl, fun h => by unfold Nan at h; omega⟩

section
variable (g : Nat) (v : Value) (bs : List Int) (p : Nat) (f : Int) (w : World)

set_option maxHeartbeats 2000000 in
theorem qFloat_any (h : IsQ w g v bs p f) (hb : Byts bs) : Calls Tryz.prog 46 #[.pointer (some ⟨g, 0, none⟩)] w fun e w' => ∃ x, e = .returned (.float .f64 x) ∧ FlOf (rdFloat (bs.drop p) f).out.toNat x ∧ QTo w g v bs (rdFloat (bs.drop p) f) w' := by
  have c1 := h.c1
  have H : Hid (IsQ w g v bs p f ∧ p ≤ bs.length) := ⟨h, h.2.2.1⟩
  have hbd : Byts (bs.drop p) := fun x hx => hb x (List.mem_of_mem_drop hx)
  have HN : Hid _ := qNumber_any g v bs p f w 8 h hb (by omega)
  clear h
  by_cases hok : f = 0 ∧ 8 ≤ (bs.drop p).length
  · have hd := num_bd (bs.drop p) hbd 8 hok.2
    rw [show (256 : Int) ^ 8 = 18446744073709551616 by decide] at hd
    have e0 : rdNum 8 (bs.drop p) f = ⟨num ((bs.drop p).take 8), (bs.drop p).drop 8, 0⟩ := by unfold rdNum; rw [if_neg (by simp [hok.1]), if_neg (by omega)]
    have e1 : rdFloat (bs.drop p) f = if 9218868437227405312 < (num ((bs.drop p).take 8)).toNat % 9223372036854775808 ∧ num ((bs.drop p).take 8) ≠ 9221120237041090560 then ⟨0, bs.drop p, 12⟩ else ⟨num ((bs.drop p).take 8), (bs.drop p).drop 8, 0⟩ := by unfold rdFloat; rw [if_neg (by simp [hok.1]), if_neg (by omega)]
    have e2 : decide (f = 0 ∧ 8 ≤ (bs.drop p).length) = true := by rw [decide_eq_true_iff]; exact hok
    obtain ⟨N, hNn⟩ : ∃ N : Nat, num ((bs.drop p).take 8) = N := ⟨(num ((bs.drop p).take 8)).toNat, by omega⟩
    rw [hNn] at e0 e1 hd
    have hN : N < 18446744073709551616 := by omega
    have hn := HN.out
    rw [e0, e2] at hn
    rw [e1, Int.toNat_natCast]
    have e3 : ((N : Int) ≠ 9221120237041090560) ↔ N ≠ 9221120237041090560 := by omega
    simp only [e3]
    have HM : Hid _ := hn
    clear hn HN e0 e1 e2 e3 hd hNn hok hbd
    by_cases hc : 9218868437227405312 < N % 9223372036854775808 ∧ N ≠ 9221120237041090560
    · have hdc : decide (¬ (9218868437227405312 < N % 9223372036854775808 ∧ N ≠ 9221120237041090560)) = false := by rw [decide_eq_false_iff_not]; exact not_not_intro hc
      rw [if_pos hc]
      clear hc
      go_enter Tryz.func46, Tryz.ntmps46
      go_wp2_with fail
      refine Calls.mono HM.out ?_
      rintro e w1 ⟨rfl, hq1⟩
      have HQ1 : Hid (QTo w g v bs ⟨(N : Int), (bs.drop p).drop 8, 0⟩ w1) := hq1
      clear hq1 HM
      have HF0 := refFrom_any w1 N hN
      rw [hdc] at HF0
      have HF : Hid _ := HF0
      clear HF0
      go_wp2_with fail
      refine Calls.mono HF.out ?_
      clear HF
      rintro e w2 ⟨x, x1, rfl, x2, x3, n0, hw2⟩
      have HX : Hid (FlOf N x ∧ Kept w1 w2 (fun _ => False)) := ⟨⟨x1, x2, x3⟩, by rw [hw2]; exact (Kept.refl w1 _).drewN n0⟩
      clear x1 x2 x3 hw2
      clear hdc
      obtain ⟨p2, hp2, hq2, hk2⟩ := HQ1.out
      have HF2 : Hid _ := qFault_any g v bs p2 0 w2 p 12 (hq2.kept HX.out.2 (fun h => h) (fun _ _ h => h)) H.out.2
      have HK : Hid (Kept w w2 (· = g)) := hk2.trans HX.out.2 (fun _ _ h => h.elim)
      clear hp2 hq2 hk2 HQ1
      go_wp2_with fail
      refine Calls.mono HF2.out ?_
      rintro e w3 ⟨rfl, h3, k3⟩
      have HR : Hid (QTo w g v bs ⟨0, bs.drop p, 12⟩ w3) := ⟨p, rfl, h3, HK.out.trans k3 (fun _ _ h => h)⟩
      clear h3 k3
      go_wp2
      go_ret
      exact ⟨0, rfl, flOf_nought, HR.out⟩
    · have hdc : decide (¬ (9218868437227405312 < N % 9223372036854775808 ∧ N ≠ 9221120237041090560)) = true := by rw [decide_eq_true_iff]; exact hc
      rw [if_neg hc]
      clear hc
      go_enter Tryz.func46, Tryz.ntmps46
      go_wp2_with fail
      refine Calls.mono HM.out ?_
      rintro e w1 ⟨rfl, hq1⟩
      have HQ1 : Hid (QTo w g v bs ⟨(N : Int), (bs.drop p).drop 8, 0⟩ w1) := hq1
      clear hq1 HM
      have HF0 := refFrom_any w1 N hN
      rw [hdc] at HF0
      have HF : Hid _ := HF0
      clear HF0
      go_wp2_with fail
      refine Calls.mono HF.out ?_
      clear HF
      rintro e w2 ⟨x, x1, rfl, x2, x3, n0, hw2⟩
      have HX : Hid (FlOf N x ∧ Kept w1 w2 (fun _ => False)) := ⟨⟨x1, x2, x3⟩, by rw [hw2]; exact (Kept.refl w1 _).drewN n0⟩
      clear x1 x2 x3 hw2
      clear hdc
      obtain ⟨p2, hp2, hq2, hk2⟩ := HQ1.out
      have HR : Hid (QTo w g v bs ⟨(N : Int), (bs.drop p).drop 8, 0⟩ w2) := ⟨p2, hp2, hq2.kept HX.out.2 (fun h => h) (fun _ _ h => h), hk2.trans HX.out.2 (fun _ _ h => h.elim)⟩
      clear hp2 hq2 hk2 HQ1
      go_wp2
      go_ret
      exact ⟨x, rfl, by rw [Int.toNat_natCast]; exact HX.out.1, HR.out⟩
  · have e0 : ∃ fo, rdNum 8 (bs.drop p) f = ⟨0, bs.drop p, fo⟩ ∧ rdFloat (bs.drop p) f = ⟨0, bs.drop p, fo⟩ := by
      unfold rdNum rdFloat
      by_cases hf : f ≠ 0
      · exact ⟨f, by rw [if_pos hf], by rw [if_pos hf]⟩
      · rw [if_neg hf, if_neg hf]
        have hl : (bs.drop p).length < 8 := by
          have hf' : f = 0 := by simpa using hf
          have := fun h => hok ⟨hf', h⟩
          omega
        exact ⟨10, by rw [if_pos hl], by rw [if_pos hl]⟩
    obtain ⟨fo, e0, e1⟩ := e0
    have e2 : decide (f = 0 ∧ 8 ≤ (bs.drop p).length) = false := by rw [decide_eq_false_iff_not]; exact hok
    have hn := HN.out
    rw [e0, e2] at hn
    rw [e1]
    have HM : Hid _ := hn
    clear hn HN e0 e1 e2 hok
    go_enter Tryz.func46, Tryz.ntmps46
    go_wp2_with fail
    refine Calls.mono HM.out ?_
    rintro e w1 ⟨rfl, hq1⟩
    have HQ1 : Hid (QTo w g v bs ⟨0, bs.drop p, fo⟩ w1) := hq1
    clear hq1 HM
    go_wp2
    go_ret
    exact ⟨0, rfl, flOf_nought, HQ1.out⟩
end
end Go.Proofs.YtblgipjipeaemaaGreatDoor
