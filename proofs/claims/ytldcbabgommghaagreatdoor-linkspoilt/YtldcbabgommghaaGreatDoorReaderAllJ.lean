/- What the Reader's size does: it looks at a length, or at a count, and stays ahead of it; the fault where it may not be. -/
import Derived.Test.YtldcbabgommghaaGreatDoorReaderJ
import Derived.WalkKit
import Derived.Laws.FloatArith
import Derived.Laws.Externs
import Derived.WalkLawsBesides
namespace Go.Proofs.YtldcbabgommghaaGreatDoor
open Go.RowKit
set_option maxRecDepth 8000

/-- The count that stands ahead: the first four bytes as an int32. -/
def ahead (xs : List Int) : Int := wrap32 (num (xs.take 4))

theorem wrap32_bd (n : Int) : -2147483648 ≤ wrap32 n ∧ wrap32 n ≤ 2147483647 := by unfold wrap32; omega

section
variable (g : Nat) (v : Value) (xs : List Int) (most : Int) (w : World)

set_option maxHeartbeats 400000 in
theorem rSize_fault (f : Int) (h : IsR w g v xs f) (hf : f ≠ 0) :
    Calls Tryz.prog 141 #[.pointer (some ⟨g, 0, none⟩), .int .i64 most] w fun e w' => e = .returned (.tuple #[.int .i64 0, .bool false]) ∧ w' = w := by
  have H : Hid (IsR w g v xs f ∧ f ≠ 0) := ⟨h, hf⟩
  clear h hf
  go_enter Tryz.func141, Tryz.ntmps141
  go_wp2_with fail
  refine (rPeek_fault g v xs 4 f _ H.out.1 H.out.2).mono ?_
  rintro e w1 ⟨rfl, rfl⟩
  go_wp2
  go_ret2
  exact ⟨rfl, rfl⟩

set_option maxHeartbeats 400000 in
theorem rSize_short (h : IsR w g v xs 0) (hl : xs.length < 4) :
    Calls Tryz.prog 141 #[.pointer (some ⟨g, 0, none⟩), .int .i64 most] w fun e w' => e = .returned (.tuple #[.int .i64 0, .bool false]) ∧ w' = w.setCell ⟨g, 2, none⟩ (.int .i64 10) := by
  have H : Hid (IsR w g v xs 0) := h
  clear h
  go_enter Tryz.func141, Tryz.ntmps141
  go_wp2_with fail
  refine (rPeek_short g v xs 4 _ H.out hl).mono ?_
  rintro e w1 ⟨rfl, rfl⟩
  go_wp2
  go_ret2
  exact ⟨rfl, rfl⟩

set_option maxHeartbeats 400000 in
theorem rSize_wide (h : IsR w g v xs 0) (hb : Byts xs) (hl : 4 ≤ xs.length) (hn : ahead xs < 0 ∨ most < ahead xs) :
    Calls Tryz.prog 141 #[.pointer (some ⟨g, 0, none⟩), .int .i64 most] w fun e w' => e = .returned (.tuple #[.int .i64 0, .bool false]) ∧ w' = w.setCell ⟨g, 2, none⟩ (.int .i64 11) := by
  have H : Hid (IsR w g v xs 0 ∧ Byts xs) := ⟨h, hb⟩
  have h2 := h.c2
  have h3 := h.fr 2
  clear h hb
  unfold ahead at hn
  have hw1 := (wrap32_bd (num (xs.take 4))).1
  have hw2 := (wrap32_bd (num (xs.take 4))).2
  rcases hn with hn | hn
  · have b1 : decide (wrap32 (num (xs.take 4)) < 0) = true := by simp; omega
    go_enter Tryz.func141, Tryz.ntmps141
    go_wp2_with fail
    refine (rPeek_ok g v xs 4 _ H.out.1 hl).mono ?_
    rintro e w1 ⟨ao, rfl, hs, _, rfl⟩
    have HS : Hid (Sees w1 (.slice ao 4 4) (xs.take 4)) := hs
    clear hs
    go_wp2_with fail
    refine (join_any _ (xs.take 4) _ HS.out (H.out.2.take 4) (by simp; omega)).mono ?_
    rintro e w2 ⟨rfl, rfl⟩
    go_wp2
    go_ret2
    exact ⟨rfl, rfl⟩
  · by_cases hm : wrap32 (num (xs.take 4)) < 0
    · have b1 : decide (wrap32 (num (xs.take 4)) < 0) = true := by simp; omega
      go_enter Tryz.func141, Tryz.ntmps141
      go_wp2_with fail
      refine (rPeek_ok g v xs 4 _ H.out.1 hl).mono ?_
      rintro e w1 ⟨ao, rfl, hs, _, rfl⟩
      have HS : Hid (Sees w1 (.slice ao 4 4) (xs.take 4)) := hs
      clear hs
      go_wp2_with fail
      refine (join_any _ (xs.take 4) _ HS.out (H.out.2.take 4) (by simp; omega)).mono ?_
      rintro e w2 ⟨rfl, rfl⟩
      go_wp2
      go_ret2
      exact ⟨rfl, rfl⟩
    · have b1 : decide (wrap32 (num (xs.take 4)) < 0) = false := by simp; omega
      have b2 : decide (most < wrap32 (num (xs.take 4))) = true := by simp; omega
      go_enter Tryz.func141, Tryz.ntmps141
      go_wp2_with fail
      refine (rPeek_ok g v xs 4 _ H.out.1 hl).mono ?_
      rintro e w1 ⟨ao, rfl, hs, _, rfl⟩
      have HS : Hid (Sees w1 (.slice ao 4 4) (xs.take 4)) := hs
      clear hs
      go_wp2_with fail
      refine (join_any _ (xs.take 4) _ HS.out (H.out.2.take 4) (by simp; omega)).mono ?_
      rintro e w2 ⟨rfl, rfl⟩
      go_wp2
      go_ret2
      exact ⟨rfl, rfl⟩

set_option maxHeartbeats 400000 in
theorem rSize_over (h : IsR w g v xs 0) (hb : Byts xs) (hl : 4 ≤ xs.length) (hn : 0 ≤ ahead xs) (hm : ahead xs ≤ most) (ho : (xs.length : Int) - 4 < ahead xs) :
    Calls Tryz.prog 141 #[.pointer (some ⟨g, 0, none⟩), .int .i64 most] w fun e w' => e = .returned (.tuple #[.int .i64 0, .bool false]) ∧ w' = w.setCell ⟨g, 2, none⟩ (.int .i64 10) := by
  have H : Hid (IsR w g v xs 0 ∧ Byts xs) := ⟨h, hb⟩
  have h1 := h.c1
  have h2 := h.c2
  have h3 := h.fr 2
  obtain ⟨av, cv, rfl, q1, q2, _, _⟩ := h.2
  unfold maxLen at q2
  clear h hb
  unfold ahead at hn hm ho
  have hw1 := (wrap32_bd (num (xs.take 4))).1
  have hw2 := (wrap32_bd (num (xs.take 4))).2
  have b1 : decide (wrap32 (num (xs.take 4)) < 0) = false := by simp; omega
  have b2 : decide (most < wrap32 (num (xs.take 4))) = false := by simp; omega
  go_enter Tryz.func141, Tryz.ntmps141
  go_wp2_with fail
  refine (rPeek_ok g _ xs 4 _ H.out.1 hl).mono ?_
  rintro e w1 ⟨ao, rfl, hs, _, rfl⟩
  have HS : Hid (Sees w1 (.slice ao 4 4) (xs.take 4)) := hs
  clear hs
  go_wp2_with fail
  refine (join_any _ (xs.take 4) _ HS.out (H.out.2.take 4) (by simp; omega)).mono ?_
  rintro e w2 ⟨rfl, rfl⟩
  go_wp2
  go_ret2
  exact ⟨rfl, rfl⟩

set_option maxHeartbeats 400000 in
theorem rSize_ok (h : IsR w g v xs 0) (hb : Byts xs) (hl : 4 ≤ xs.length) (hn : 0 ≤ ahead xs) (hm : ahead xs ≤ most) (ho : ahead xs ≤ (xs.length : Int) - 4) :
    Calls Tryz.prog 141 #[.pointer (some ⟨g, 0, none⟩), .int .i64 most] w fun e w' => e = .returned (.tuple #[.int .i64 (ahead xs), .bool true]) ∧ w' = w := by
  have H : Hid (IsR w g v xs 0 ∧ Byts xs) := ⟨h, hb⟩
  have h1 := h.c1
  obtain ⟨av, cv, rfl, q1, q2, _, _⟩ := h.2
  unfold maxLen at q2
  clear h hb
  unfold ahead at hn hm ho ⊢
  have hw1 := (wrap32_bd (num (xs.take 4))).1
  have hw2 := (wrap32_bd (num (xs.take 4))).2
  have b1 : decide (wrap32 (num (xs.take 4)) < 0) = false := by simp; omega
  have b2 : decide (most < wrap32 (num (xs.take 4))) = false := by simp; omega
  go_enter Tryz.func141, Tryz.ntmps141
  go_wp2_with fail
  refine (rPeek_ok g _ xs 4 _ H.out.1 hl).mono ?_
  rintro e w1 ⟨ao, rfl, hs, _, rfl⟩
  have HS : Hid (Sees w1 (.slice ao 4 4) (xs.take 4)) := hs
  clear hs
  go_wp2_with fail
  refine (join_any _ (xs.take 4) _ HS.out (H.out.2.take 4) (by simp; omega)).mono ?_
  rintro e w2 ⟨rfl, rfl⟩
  go_wp2
  go_ret2
  exact ⟨rfl, rfl⟩
end

end Go.Proofs.YtldcbabgommghaaGreatDoor

/- Plain facts on IEEE 754 doubles as words: what a word with sign, exponent and fraction stands for, and that doubling, halving, comparing and taking 1 away are exact where the document's own Bits does them; no Go function is walked here. -/
namespace Go.Proofs.YtldcbabgommghaaGreatDoor
open Ieee
set_option maxRecDepth 8000

end Go.Proofs.YtldcbabgommghaaGreatDoor

/- More plain facts on IEEE 754 doubles: what stands behind the point taken back as a whole number; 1 taken away. -/
namespace Go.Proofs.YtldcbabgommghaaGreatDoor
open Ieee
set_option maxRecDepth 8000

end Go.Proofs.YtldcbabgommghaaGreatDoor

/- A float's bits with one form for what is not a number; what is a number is like itself. -/
namespace Go.Proofs.YtldcbabgommghaaGreatDoor
open Ieee
set_option maxRecDepth 8000

end Go.Proofs.YtldcbabgommghaaGreatDoor

/- What the rest of the Reader's calls do: Bool, Int8, Uint32, Int64, Float, Buffer, Raw, Fail and End. -/
namespace Go.Proofs.YtldcbabgommghaaGreatDoor
open Go.RowKit
set_option maxRecDepth 8000

section
variable (g : Nat) (v : Value) (xs : List Int) (f : Int) (w : World)

set_option maxHeartbeats 400000 in
theorem rUint32_any (h : IsR w g v xs f) (hb : Byts xs) :
    Calls Tryz.prog 56 #[.pointer (some ⟨g, 0, none⟩)] w fun e w' => e = .returned (.int .u32 (rdNum 4 xs f).out) ∧ ReadsTo w g v (rdNum 4 xs f) w' := by
  have hbd := rdNum_bd 4 xs f hb
  have h4 : (256 : Int) ^ 4 = 4294967296 := by decide
  rw [h4] at hbd
  have b1 := hbd.1
  have b2 := hbd.2
  have H : Hid (IsR w g v xs f ∧ Byts xs) := ⟨h, hb⟩
  clear h hb h4 hbd
  go_enter Tryz.func56, Tryz.ntmps56
  go_wp2_with fail
  refine (rNumber_any g v xs f 4 _ H.out.1 H.out.2 (by omega)).mono ?_
  rintro e w1 ⟨rfl, hr⟩
  have HR : Hid (ReadsTo w g v (rdNum 4 xs f) w1) := hr
  clear hr
  go_wp2
  go_ret
  exact ⟨rfl, HR.out⟩

set_option maxHeartbeats 400000 in
theorem rInt64_any (h : IsR w g v xs f) (hb : Byts xs) :
    Calls Tryz.prog 87 #[.pointer (some ⟨g, 0, none⟩)] w fun e w' => e = .returned (.int .i64 (wrap64 (rdNum 8 xs f).out)) ∧ ReadsTo w g v (rdNum 8 xs f) w' := by
  have H : Hid (IsR w g v xs f ∧ Byts xs) := ⟨h, hb⟩
  clear h hb
  go_enter Tryz.func87, Tryz.ntmps87
  go_wp2_with fail
  refine (rNumber_any g v xs f 8 _ H.out.1 H.out.2 (by omega)).mono ?_
  rintro e w1 ⟨rfl, hr⟩
  have HR : Hid (ReadsTo w g v (rdNum 8 xs f) w1) := hr
  clear hr
  go_wp2
  go_ret
  exact ⟨rfl, HR.out⟩

set_option maxHeartbeats 400000 in
theorem rInt8_any (h : IsR w g v xs f) (hb : Byts xs) :
    Calls Tryz.prog 57 #[.pointer (some ⟨g, 0, none⟩)] w fun e w' => e = .returned (.int .i8 (IntKind.i8.wrap (rdNum 1 xs f).out)) ∧ ReadsTo w g v (rdNum 1 xs f) w' := by
  have H : Hid (IsR w g v xs f ∧ Byts xs) := ⟨h, hb⟩
  clear h hb
  go_enter Tryz.func57, Tryz.ntmps57
  go_wp2_with fail
  refine (rNumber_any g v xs f 1 _ H.out.1 H.out.2 (by omega)).mono ?_
  rintro e w1 ⟨rfl, hr⟩
  have HR : Hid (ReadsTo w g v (rdNum 1 xs f) w1) := hr
  clear hr
  go_wp2
  go_ret
  exact ⟨rfl, HR.out⟩

/-- A truth: by the document. -/
def rdBool (xs : List Int) (f : Int) : Rd :=
  if f ≠ 0 then ⟨0, xs, f⟩ else if xs.length < 1 then ⟨0, xs, 10⟩ else if 1 < xs.getD 0 0 then ⟨0, xs, 12⟩ else ⟨xs.getD 0 0, xs.drop 1, 0⟩

set_option maxHeartbeats 400000 in
theorem rBool_any (h : IsR w g v xs f) (hb : Byts xs) :
    Calls Tryz.prog 105 #[.pointer (some ⟨g, 0, none⟩)] w fun e w' => e = .returned (.bool ((rdBool xs f).out == 1)) ∧ ReadsTo w g v (rdBool xs f) w' := by
  by_cases hf : f = 0
  · subst hf
    by_cases hl : xs.length < 1
    · have e1 : rdBool xs 0 = ⟨0, xs, 10⟩ := by unfold rdBool; rw [if_neg (by simp), if_pos hl]
      rw [e1]
      have H : Hid (IsR w g v xs 0) := h
      clear h e1
      go_enter Tryz.func105, Tryz.ntmps105
      go_wp2_with fail
      refine (rPeek_short g v xs 1 _ H.out hl).mono ?_
      rintro e w1 ⟨rfl, rfl⟩
      go_wp2
      go_ret
      exact ⟨rfl, ReadsTo.fail H.out 10⟩
    · have hx := hb.nth 0
      have h2 := h.c2
      have h3 := h.fr 2
      by_cases hc : 1 < xs.getD 0 0
      · have e1 : rdBool xs 0 = ⟨0, xs, 12⟩ := by unfold rdBool; rw [if_neg (by simp), if_neg hl, if_pos hc]
        rw [e1]
        have H : Hid (IsR w g v xs 0) := h
        clear h e1
        go_enter Tryz.func105, Tryz.ntmps105
        go_wp2_with fail
        refine (rPeek_ok g v xs 1 _ H.out (by omega)).mono ?_
        rintro e w1 ⟨ao, rfl, hs, _, rfl⟩
        obtain ⟨b, off, rfl, hcell⟩ := sees_first hs (by omega)
        clear hs
        generalize xs.getD 0 0 = x at *
        go_wp2
        go_ret
        exact ⟨rfl, ReadsTo.fail H.out 12⟩
      · have e1 : rdBool xs 0 = ⟨xs.getD 0 0, xs.drop 1, 0⟩ := by unfold rdBool; rw [if_neg (by simp), if_neg hl, if_neg hc]
        rw [e1]
        have H : Hid (IsR w g v xs 0) := h
        clear h e1 h2 h3
        go_enter Tryz.func105, Tryz.ntmps105
        go_wp2_with fail
        refine (rPeek_ok g v xs 1 _ H.out (by omega)).mono ?_
        rintro e w1 ⟨ao, rfl, hs, hv, rfl⟩
        obtain ⟨b, off, rfl, hcell⟩ := sees_first hs (by omega)
        obtain ⟨l, c, hvv⟩ := hv
        have hbg : b ≠ g := by
          have := H.out.apart (by intro e; rw [e] at hl; simp at hl)
          rw [hvv] at this
          intro e
          exact this (by simp [Value.ownBlock, e])
        have HV : Hid (v = .slice (some ⟨b, off, none⟩) l c) := hvv
        clear hs hvv
        generalize hxx : xs.getD 0 0 = x at *
        have HXX : Hid (xs.getD 0 0 = x) := hxx
        clear hxx
        go_wp2_with fail
        refine (rSkip_ok g v xs 1 0 _ H.out (by omega)).mono ?_
        rintro e w2 ⟨rfl, hw2⟩
        have hcell2 : w2.cell? ⟨b, off, none⟩ = some (.int .u8 x) := by
          rw [hw2, World.cell?_of_block (w := w1) (Below.heap_setCell w1 _ _ b hbg)]; exact hcell
        have HRR : Hid (ReadsTo w1 g v ⟨x, xs.drop 1, 0⟩ w2) := by rw [hw2]; exact ReadsTo.skip H.out (by omega)
        clear hw2 hcell
        go_wp2
        go_ret
        have hxx := HXX.out
        subst hxx
        exact ⟨rfl, HRR.out⟩
  · have e1 : rdBool xs f = ⟨0, xs, f⟩ := by unfold rdBool; rw [if_pos hf]
    rw [e1]
    have H : Hid (IsR w g v xs f ∧ f ≠ 0) := ⟨h, hf⟩
    clear h e1 hf
    go_enter Tryz.func105, Tryz.ntmps105
    go_wp2_with fail
    refine (rPeek_fault g v xs 1 f _ H.out.1 H.out.2).mono ?_
    rintro e w1 ⟨rfl, rfl⟩
    go_wp2
    go_ret
    exact ⟨rfl, ReadsTo.stay H.out.1⟩

theorem rEnd_any (h : IsR w g v xs f) :
    Calls Tryz.prog 59 #[.pointer (some ⟨g, 0, none⟩)] w fun e w' => e = .returned (.int .i64 (if f ≠ 0 then f else if xs = [] then 0 else 13)) ∧ w' = w := by
  have h1 := h.c1
  have H : Hid (IsR w g v xs f) := h
  obtain ⟨ao, cap, rfl, q1, q2, _, _⟩ := h.2
  unfold maxLen at q2
  clear h
  by_cases hf : f = 0
  · subst hf
    rw [if_neg (by simp)]
    by_cases hx : xs = []
    · rw [if_pos hx]
      have hl : xs.length = 0 := by rw [hx]; rfl
      clear hx
      have hl' : ¬ (0 : Int) < (xs.length : Int) := by omega
      have HL : Hid (xs.length = 0) := hl
      clear hl
      go_enter Tryz.func59, Tryz.ntmps59
      go_wp2_with fail
      refine (rErr_any g _ xs 0 _ H.out).mono ?_
      rintro e w1 ⟨rfl, rfl⟩
      go_wp2
      go_ret
      exact ⟨rfl, rfl⟩
    · rw [if_neg hx]
      have hl : 0 < xs.length := List.length_pos_iff.2 hx
      clear hx
      go_enter Tryz.func59, Tryz.ntmps59
      go_wp2_with fail
      refine (rErr_any g _ xs 0 _ H.out).mono ?_
      rintro e w1 ⟨rfl, rfl⟩
      go_wp2
      go_ret
      exact ⟨rfl, rfl⟩
  · rw [if_pos hf]
    have hf' : (f != 0) = true := by simp [hf]
    clear hf
    go_enter Tryz.func59, Tryz.ntmps59
    go_wp2_with fail
    refine (rErr_any g _ xs f _ H.out).mono ?_
    rintro e w1 ⟨rfl, rfl⟩
    go_wp2
    go_ret
    exact ⟨rfl, rfl⟩

/-- Raw bytes, a buffer: by the document: what is answered, what is left, the fault. -/
def rdRaw (n : Int) (xs : List Int) (f : Int) : List Int × Rd :=
  if f ≠ 0 then ([], ⟨0, xs, f⟩) else if n < 0 then ([], ⟨0, xs, 11⟩) else if (xs.length : Int) < n then ([], ⟨0, xs, 10⟩) else (xs.take n.toNat, ⟨0, xs.drop n.toNat, 0⟩)

/-- A slice that a Reader answers: it leads to the bytes; it has no spare room; it lies in the Reader's own row, or nowhere. -/
def Cut (w : World) (v u : Value) (ys : List Int) : Prop := Sees w u ys ∧ (∃ ao, u = .slice ao ys.length ys.length) ∧ ∀ k, u.ownBlock = some k → v.ownBlock = some k

theorem cut_nil (w : World) (v : Value) : Cut w v (.slice none 0 0) [] := ⟨sees_nil w, ⟨none, rfl⟩, fun k hk => by simp [Value.ownBlock] at hk⟩

set_option maxHeartbeats 400000 in
theorem rTake_any (n : Int) (h : IsR w g v xs f) :
    Calls Tryz.prog 120 #[.pointer (some ⟨g, 0, none⟩), .int .i64 n] w fun e w' => ∃ u, e = .returned u ∧ Cut w' v u (rdRaw n xs f).1 ∧ ReadsTo w g v (rdRaw n xs f).2 w' := by
  by_cases hf : f = 0
  · subst hf
    by_cases hn : n < 0
    · have e1 : rdRaw n xs 0 = ([], ⟨0, xs, 11⟩) := by unfold rdRaw; rw [if_neg (by simp), if_pos hn]
      rw [e1]
      refine (rTake_neg g v xs n w h hn).mono ?_
      rintro e w1 ⟨rfl, rfl⟩
      exact ⟨_, rfl, cut_nil _ _, ReadsTo.fail h 11⟩
    · obtain ⟨k, rfl⟩ := Int.eq_ofNat_of_zero_le (show 0 ≤ n by omega)
      by_cases hl : (xs.length : Int) < k
      · have e1 : rdRaw k xs 0 = ([], ⟨0, xs, 10⟩) := by unfold rdRaw; rw [if_neg (by simp), if_neg hn, if_pos hl]
        rw [e1]
        refine (rTake_short g v xs k w h (by omega)).mono ?_
        rintro e w1 ⟨rfl, rfl⟩
        exact ⟨_, rfl, cut_nil _ _, ReadsTo.fail h 10⟩
      · have e1 : rdRaw k xs 0 = (xs.take k, ⟨0, xs.drop k, 0⟩) := by unfold rdRaw; rw [if_neg (by simp), if_neg hn, if_neg hl, Int.toNat_natCast]
        rw [e1]
        refine (rTake_ok g v xs k w h (by omega)).mono ?_
        rintro e w1 ⟨ao, rfl, hs, ⟨l, c, hv⟩, rfl⟩
        have hlen : (xs.take k).length = k := by simp; omega
        refine ⟨_, rfl, ⟨hs.set _ _ (fun hx e => ?_), ⟨ao, by rw [hlen]⟩, fun j hj => ?_⟩, ReadsTo.skip h (by omega)⟩
        · have := h.apart (fun e2 => hx (by rw [e2]; simp))
          rw [hv] at this
          cases ao with
          | none => simp [Value.ownBlock] at e
          | some a => exact this (by simpa [Value.ownBlock] using e)
        · rw [hv]
          cases ao with
          | none => simp [Value.ownBlock] at hj
          | some a => simpa [Value.ownBlock] using hj
  · have e1 : rdRaw n xs f = ([], ⟨0, xs, f⟩) := by unfold rdRaw; rw [if_pos hf]
    rw [e1]
    refine (rTake_fault g v xs n f w h hf).mono ?_
    rintro e w1 ⟨rfl, rfl⟩
    exact ⟨_, rfl, cut_nil _ _, ReadsTo.stay h⟩

/-- A buffer, a text: by the document. -/
def rdBuf (most : Int) (xs : List Int) (f : Int) : List Int × Rd :=
  if f ≠ 0 then ([], ⟨0, xs, f⟩) else if xs.length < 4 then ([], ⟨0, xs, 10⟩) else if ahead xs < 0 ∨ most < ahead xs then ([], ⟨0, xs, 11⟩)
  else if (xs.length : Int) - 4 < ahead xs then ([], ⟨0, xs, 10⟩) else ((xs.drop 4).take (ahead xs).toNat, ⟨0, (xs.drop 4).drop (ahead xs).toNat, 0⟩)

set_option maxHeartbeats 400000 in
theorem rSized_any (most : Int) (h : IsR w g v xs f) (hb : Byts xs) :
    Calls Tryz.prog 133 #[.pointer (some ⟨g, 0, none⟩), .int .i64 most] w fun e w' => ∃ u, e = .returned u ∧ Cut w' v u (rdBuf most xs f).1 ∧ ReadsTo w g v (rdBuf most xs f).2 w' := by
  have H : Hid (IsR w g v xs f ∧ Byts xs) := ⟨h, hb⟩
  clear h hb
  by_cases hf : f = 0
  · subst hf
    by_cases hl : xs.length < 4
    · have e1 : rdBuf most xs 0 = ([], ⟨0, xs, 10⟩) := by unfold rdBuf; rw [if_neg (by simp), if_pos hl]
      rw [e1]
      clear e1
      go_enter Tryz.func133, Tryz.ntmps133
      go_wp2_with fail
      refine (rSize_short g v xs most _ H.out.1 hl).mono ?_
      rintro e w1 ⟨rfl, rfl⟩
      go_wp2
      go_ret
      exact ⟨_, rfl, cut_nil _ _, ReadsTo.fail H.out.1 10⟩
    · by_cases hw : ahead xs < 0 ∨ most < ahead xs
      · have e1 : rdBuf most xs 0 = ([], ⟨0, xs, 11⟩) := by unfold rdBuf; rw [if_neg (by simp), if_neg hl, if_pos hw]
        rw [e1]
        have HW : Hid _ := hw
        clear e1 hw
        go_enter Tryz.func133, Tryz.ntmps133
        go_wp2_with fail
        refine (rSize_wide g v xs most _ H.out.1 H.out.2 (by omega) HW.out).mono ?_
        rintro e w1 ⟨rfl, rfl⟩
        go_wp2
        go_ret
        exact ⟨_, rfl, cut_nil _ _, ReadsTo.fail H.out.1 11⟩
      · have hn : 0 ≤ ahead xs := by omega
        have hm : ahead xs ≤ most := by omega
        by_cases ho : (xs.length : Int) - 4 < ahead xs
        · have e1 : rdBuf most xs 0 = ([], ⟨0, xs, 10⟩) := by unfold rdBuf; rw [if_neg (by simp), if_neg hl, if_neg hw, if_pos ho]
          rw [e1]
          clear e1 hw
          go_enter Tryz.func133, Tryz.ntmps133
          go_wp2_with fail
          refine (rSize_over g v xs most _ H.out.1 H.out.2 (by omega) hn hm ho).mono ?_
          rintro e w1 ⟨rfl, rfl⟩
          go_wp2
          go_ret
          exact ⟨_, rfl, cut_nil _ _, ReadsTo.fail H.out.1 10⟩
        · have e1 : rdBuf most xs 0 = ((xs.drop 4).take (ahead xs).toNat, ⟨0, (xs.drop 4).drop (ahead xs).toNat, 0⟩) := by unfold rdBuf; rw [if_neg (by simp), if_neg hl, if_neg hw, if_neg ho]
          rw [e1]
          clear e1 hw
          go_enter Tryz.func133, Tryz.ntmps133
          go_wp2_with fail
          refine (rSize_ok g v xs most _ H.out.1 H.out.2 (by omega) hn hm (by omega)).mono ?_
          rintro e w1 ⟨rfl, rfl⟩
          go_wp2_with fail
          refine (rSkip_ok g v xs 4 0 _ H.out.1 (by omega)).mono ?_
          rintro e w2 ⟨rfl, hw2⟩
          have HR : Hid (IsR w2 g (cutFrom v 4) (xs.drop 4) 0 ∧ Kept w1 w2 (· = g) ∧ ∀ k, (cutFrom v 4).ownBlock = some k → v.ownBlock = some k) := by
            rw [hw2]
            refine ⟨H.out.1.skip (by omega), (Kept.refl w1 _).setCell _ _ (fun _ => rfl), fun k hk => ?_⟩
            obtain ⟨ao, cap, rfl, _⟩ := H.out.1.2
            exact cutFrom_block hk
          have e2 : rdRaw (ahead xs) (xs.drop 4) 0 = ((xs.drop 4).take (ahead xs).toNat, ⟨0, (xs.drop 4).drop (ahead xs).toNat, 0⟩) := by
            unfold rdRaw
            rw [if_neg (by simp), if_neg (by omega), if_neg (by rw [List.length_drop]; omega)]
          have HE2 : Hid _ := e2
          clear hw2 e2
          go_wp2_with fail
          refine (rTake_any g _ (xs.drop 4) 0 _ (ahead xs) HR.out.1).mono ?_
          rintro e w3 ⟨u, rfl, hc, ht⟩
          rw [HE2.out] at hc ht
          have HC : Hid (Cut w3 v u ((xs.drop 4).take (ahead xs).toNat) ∧ ReadsTo w1 g v ⟨0, (xs.drop 4).drop (ahead xs).toNat, 0⟩ w3) := by
            refine ⟨⟨hc.1, hc.2.1, fun k hk => HR.out.2.2 k (hc.2.2 k hk)⟩, ?_⟩
            obtain ⟨v', t1, t2, t3⟩ := ht
            exact ⟨v', t1, fun k hk => HR.out.2.2 k (t2 k hk), HR.out.2.1.trans t3 (fun _ _ h => h)⟩
          clear hc ht
          go_wp2
          go_ret
          exact ⟨_, rfl, HC.out⟩
  · have e1 : rdBuf most xs f = ([], ⟨0, xs, f⟩) := by unfold rdBuf; rw [if_pos hf]
    rw [e1]
    have HF : Hid (f ≠ 0) := hf
    clear e1 hf
    go_enter Tryz.func133, Tryz.ntmps133
    go_wp2_with fail
    refine (rSize_fault g v xs most _ f H.out.1 HF.out).mono ?_
    rintro e w1 ⟨rfl, rfl⟩
    go_wp2
    go_ret
    exact ⟨_, rfl, cut_nil _ _, ReadsTo.stay H.out.1⟩
end
end Go.Proofs.YtldcbabgommghaaGreatDoor
