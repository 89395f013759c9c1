/- The document's own Reader (lagoonref01): Int64. -/
import Derived.Test.YtblgipjipeaemaaGreatDoorRefRJ
import Derived.Deep.RegionHeld
import Derived.Test.YtblgipjipeaemaaGreatDoorOneJ
import Derived.Test.YtblgipjipeaemaaGreatDoorRawJ
namespace Go.Proofs.YtblgipjipeaemaaGreatDoor
open Go.RowKit
set_option maxRecDepth 8000

theorem wrap64_idR {n : Int} (h0 : -9223372036854775808 ≤ n) (h1 : n ≤ 9223372036854775807) : wrap64 n = n := by unfold wrap64; omega

section
variable (g : Nat) (v : Value) (bs : List Int) (p : Nat) (f : Int) (w : World)

set_option maxHeartbeats 400000 in
theorem qInt64_any (h : IsQ w g v bs p f) (hb : Byts bs) : Calls Tryz.prog 45 #[.pointer (some ⟨g, 0, none⟩)] w fun e w' => e = .returned (.int .i64 (wrap64 (rdNum 8 (bs.drop p) f).out)) ∧ QTo w g v bs (rdNum 8 (bs.drop p) f) w' := by
  have H : Hid (IsQ w g v bs p f) := h
  have hbd : Byts (bs.drop p) := fun x hx => hb x (List.mem_of_mem_drop hx)
  have hx := rdNum_bd 8 (bs.drop p) f hbd
  have h1 : (256 : Int) ^ 8 = 18446744073709551616 := by decide
  rw [h1] at hx
  clear h h1 hbd
  go_enter Tryz.func45, Tryz.ntmps45
  go_wp2_with fail
  refine (qNumber_any g v bs p f _ 8 H.out hb (by omega)).mono ?_
  rintro e w1 ⟨rfl, hq⟩
  have HQ : Hid (QTo w g v bs (rdNum 8 (bs.drop p) f) w1) := hq
  clear hq
  generalize hY : (rdNum 8 (bs.drop p) f).out = y at *
  have HY : Hid ((rdNum 8 (bs.drop p) f).out = y) := hY
  clear hY
  generalize decide (f = 0 ∧ 8 ≤ (bs.drop p).length) = t at *
  by_cases hy : 9223372036854775807 < y
  · go_wp2
    go_ret
    refine ⟨?_, HQ.out⟩
    rw [HY.out]
    have e : wrap64 y = y - 18446744073709551616 := by unfold wrap64; omega
    rw [e]
    have e2 : -1 - (18446744073709551615 - y) = y - 18446744073709551616 := by omega
    show Ending.returned (.int .i64 (-1 - (18446744073709551615 - y))) = _
    rw [e2]
  · go_wp2
    go_ret
    refine ⟨?_, HQ.out⟩
    rw [HY.out, wrap64_idR (by omega) (by omega)]
    rfl

end
end Go.Proofs.YtblgipjipeaemaaGreatDoor

/- The document's own Reader (lagoonref01): fault, Bool, Int64 and Raw. -/
namespace Go.Proofs.YtblgipjipeaemaaGreatDoor
open Go.RowKit
set_option maxRecDepth 8000

section
variable (g : Nat) (v : Value) (bs : List Int) (p : Nat) (f : Int) (w : World)

theorem qInt8_any (h : IsQ w g v bs p f) (hb : Byts bs) : Calls Tryz.prog 42 #[.pointer (some ⟨g, 0, none⟩)] w fun e w' => e = .returned (.int .i8 (IntKind.i8.wrap (rdNum 1 (bs.drop p) f).out)) ∧ QTo w g v bs (rdNum 1 (bs.drop p) f) w' := by
  have H : Hid (IsQ w g v bs p f) := h
  have hbd : Byts (bs.drop p) := fun x hx => hb x (List.mem_of_mem_drop hx)
  have hx := rdNum_bd 1 (bs.drop p) f hbd
  have h1 : (256 : Int) ^ 1 = 256 := by decide
  rw [h1] at hx
  clear h h1 hbd
  go_enter Tryz.func42, Tryz.ntmps42
  go_wp2_with fail
  refine (qNumber_any g v bs p f _ 1 H.out hb (by omega)).mono ?_
  rintro e w1 ⟨rfl, hq⟩
  have HQ : Hid (QTo w g v bs (rdNum 1 (bs.drop p) f) w1) := hq
  clear hq
  generalize hY : (rdNum 1 (bs.drop p) f).out = y at *
  have HY : Hid ((rdNum 1 (bs.drop p) f).out = y) := hY
  clear hY
  generalize decide (f = 0 ∧ 1 ≤ (bs.drop p).length) = t at *
  by_cases hy : 127 < y
  · go_wp2
    go_ret
    refine ⟨?_, HQ.out⟩
    rw [HY.out]
    rw [wrap8_is, if_pos (by omega)]
    show Ending.returned (.int .i8 (y - 256)) = _
    congr 2
    omega
  · go_wp2
    go_ret
    refine ⟨?_, HQ.out⟩
    rw [HY.out]
    rw [wrap8_is, if_neg (by omega)]
    show Ending.returned (.int .i8 y) = _
    congr 2
    omega

set_option maxHeartbeats 400000 in
theorem qFault_any (q : Nat) (e0 : Int) (h : IsQ w g v bs p f) (hq : q ≤ bs.length) : Calls Tryz.prog 83 #[.pointer (some ⟨g, 0, none⟩), .int .i64 q, .int .i64 e0] w fun e w' => e = .returned (.tuple #[]) ∧ IsQ w' g v bs q e0 ∧ Kept w w' (· = g) := by
  have c1 := h.c1
  have f1 := h.fr 1
  have c2 := h.c2
  have f2 := h.fr 2
  have hk : Kept w ((w.setCell ⟨g, 1, none⟩ (.int .i64 q)).setCell ⟨g, 2, none⟩ (.int .i64 e0)) (fun x => x = g) := ((Kept.refl w (fun x => x = g)).setCell ⟨g, 1, none⟩ _ (fun _ => rfl)).setCell ⟨g, 2, none⟩ _ (fun _ => rfl)
  have HR : Hid (IsQ ((w.setCell ⟨g, 1, none⟩ (.int .i64 q)).setCell ⟨g, 2, none⟩ (.int .i64 e0)) g v bs q e0 ∧ Kept w ((w.setCell ⟨g, 1, none⟩ (.int .i64 q)).setCell ⟨g, 2, none⟩ (.int .i64 e0)) (fun x => x = g)) := ⟨(h.set1 hq).set2 e0, hk⟩
  clear h hk
  go_enter Tryz.func83, Tryz.ntmps83
  go_wp2
  go_end0
  exact ⟨rfl, HR.out⟩

theorem rdNum1 (xs : List Int) (f : Int) : rdNum 1 xs f = if f ≠ 0 then ⟨0, xs, f⟩ else if xs.length < 1 then ⟨0, xs, 10⟩ else ⟨xs.getD 0 0, xs.drop 1, 0⟩ := by
  unfold rdNum
  by_cases hf : f ≠ 0
  · rw [if_pos hf, if_pos hf]
  · rw [if_neg hf, if_neg hf]
    by_cases hl : xs.length < 1
    · rw [if_pos hl, if_pos hl]
    · rw [if_neg hl, if_neg hl, take1 (by omega)]
      simp [num]

set_option maxHeartbeats 400000 in
theorem qBool_any (h : IsQ w g v bs p f) (hb : Byts bs) : Calls Tryz.prog 41 #[.pointer (some ⟨g, 0, none⟩)] w fun e w' => e = .returned (.bool ((rdBool (bs.drop p) f).out == 1)) ∧ QTo w g v bs (rdBool (bs.drop p) f) w' := by
  have c1 := h.c1
  have hp := h.2.2.1
  have H : Hid (IsQ w g v bs p f) := h
  clear h
  have hnum := qNumber_any g v bs p f w 1 H.out hb (by omega)
  by_cases hok : f = 0 ∧ 1 ≤ (bs.drop p).length
  · have e0 : rdNum 1 (bs.drop p) f = ⟨(bs.drop p).getD 0 0, (bs.drop p).drop 1, 0⟩ := by rw [rdNum1, if_neg (by simp [hok.1]), if_neg (by omega)]
    rw [e0, decide_eq_true hok] at hnum
    have HN : Hid _ := hnum
    clear hnum e0
    by_cases hy : 1 < (bs.drop p).getD 0 0
    · have e1 : rdBool (bs.drop p) f = ⟨0, bs.drop p, 12⟩ := by unfold rdBool; rw [if_neg (by simp [hok.1]), if_neg (by omega), if_pos hy]
      rw [e1]
      clear e1 hok
      have hy' : decide ((1 : Int) < (bs.drop p).getD 0 0) = true := by simp only [decide_eq_true_eq]; exact hy
      go_enter Tryz.func41, Tryz.ntmps41
      go_wp2_with fail
      refine Calls.mono HN.out ?_
      rintro e w1 ⟨rfl, q, hq0, hq, hk⟩
      have HQ : Hid (IsQ w1 g v bs q 0 ∧ Kept w w1 (· = g)) := ⟨hq, hk⟩
      clear hq hk hq0
      generalize (bs.drop p).getD 0 0 = y at *
      go_wp2_with fail
      refine (qFault_any g v bs q 0 _ p 12 HQ.out.1 hp).mono ?_
      rintro e w2 ⟨rfl, h2, hk2⟩
      have HR : Hid (QTo w g v bs ⟨0, bs.drop p, 12⟩ w2) := ⟨p, rfl, h2, HQ.out.2.trans hk2 (fun _ _ h => h)⟩
      clear h2 hk2
      go_wp2
      go_ret
      exact ⟨rfl, HR.out⟩
    · have e1 : rdBool (bs.drop p) f = ⟨(bs.drop p).getD 0 0, (bs.drop p).drop 1, 0⟩ := by unfold rdBool; rw [if_neg (by simp [hok.1]), if_neg (by omega), if_neg hy]
      rw [e1]
      clear e1 hok
      have hy' : decide ((1 : Int) < (bs.drop p).getD 0 0) = false := by simp only [decide_eq_false_iff_not]; exact hy
      go_enter Tryz.func41, Tryz.ntmps41
      go_wp2_with fail
      refine Calls.mono HN.out ?_
      rintro e w1 ⟨rfl, hq⟩
      have HQ : Hid (QTo w g v bs ⟨(bs.drop p).getD 0 0, (bs.drop p).drop 1, 0⟩ w1) := hq
      clear hq
      generalize hY : (bs.drop p).getD 0 0 = y at *
      have HY2 : Hid ((bs.drop p).getD 0 0 = y) := hY
      clear hY
      go_wp2
      go_ret
      refine ⟨?_, ?_⟩
      · rw [HY2.out]; rfl
      · rw [HY2.out]; exact HQ.out
  · have e0 : ∃ fo, rdNum 1 (bs.drop p) f = ⟨0, bs.drop p, fo⟩ ∧ rdBool (bs.drop p) f = ⟨0, bs.drop p, fo⟩ := by
      rw [rdNum1]
      unfold rdBool
      by_cases hf : f ≠ 0
      · exact ⟨f, by rw [if_pos hf], by rw [if_pos hf]⟩
      · rw [if_neg hf, if_neg hf]
        have hl : (bs.drop p).length < 1 := by
          have hf' : f = 0 := by simpa using hf
          have := fun h => hok ⟨hf', h⟩
          omega
        exact ⟨10, by rw [if_pos hl], by rw [if_pos hl]⟩
    obtain ⟨fo, e0, e1⟩ := e0
    rw [e0, decide_eq_false hok] at hnum
    rw [e1]
    have HN : Hid _ := hnum
    clear hnum e0 e1 hok
    go_enter Tryz.func41, Tryz.ntmps41
    go_wp2_with fail
    refine Calls.mono HN.out ?_
    rintro e w1 ⟨rfl, hq⟩
    have HQ : Hid (QTo w g v bs ⟨0, bs.drop p, fo⟩ w1) := hq
    clear hq
    go_wp2
    go_ret
    exact ⟨rfl, HQ.out⟩

end
end Go.Proofs.YtblgipjipeaemaaGreatDoor

/- What put of the statements does with raw bytes, and put for all kinds of values in one word. -/
namespace Go.Proofs.YtblgipjipeaemaaGreatDoor
open Go.RowKit
set_option maxRecDepth 8000

end Go.Proofs.YtblgipjipeaemaaGreatDoor
