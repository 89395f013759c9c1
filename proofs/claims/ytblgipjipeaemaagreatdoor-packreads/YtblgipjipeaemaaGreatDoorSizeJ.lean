/- What the Reader's size does: it looks at a length, or at a count, and stays ahead of it; the fault where it may not be. -/
import Derived.Test.YtblgipjipeaemaaGreatDoorReaderJ
namespace Go.Proofs.YtblgipjipeaemaaGreatDoor
open Go.RowKit
set_option maxRecDepth 8000

/-- The count that stands ahead: the first four bytes as an int32. -/
def ahead (xs : List Int) : Int := wrap32 (num (xs.take 4))

theorem wrap32_bd (n : Int) : -2147483648 ≤ wrap32 n ∧ wrap32 n ≤ 2147483647 := by unfold wrap32; omega

section
variable (g : Nat) (v : Value) (xs : List Int) (most : Int) (w : World)

set_option maxHeartbeats 400000 in
theorem rSize_fault (f : Int) (h : IsR w g v xs f) (hf : f ≠ 0) :
    Calls Tryz.prog 107 #[.pointer (some ⟨g, 0, none⟩), .int .i64 most] w fun e w' => e = .returned (.tuple #[.int .i64 0, .bool false]) ∧ w' = w := by
  have H : Hid (IsR w g v xs f ∧ f ≠ 0) := ⟨h, hf⟩
  clear h hf
  go_enter Tryz.func107, Tryz.ntmps107
  go_wp2_with fail
  refine (rPeek_fault g v xs 4 f _ H.out.1 H.out.2).mono ?_
  rintro e w1 ⟨rfl, rfl⟩
  go_wp2
  go_ret2
  exact ⟨rfl, rfl⟩

set_option maxHeartbeats 400000 in
theorem rSize_short (h : IsR w g v xs 0) (hl : xs.length < 4) :
    Calls Tryz.prog 107 #[.pointer (some ⟨g, 0, none⟩), .int .i64 most] w fun e w' => e = .returned (.tuple #[.int .i64 0, .bool false]) ∧ w' = w.setCell ⟨g, 2, none⟩ (.int .i64 10) := by
  have H : Hid (IsR w g v xs 0) := h
  clear h
  go_enter Tryz.func107, Tryz.ntmps107
  go_wp2_with fail
  refine (rPeek_short g v xs 4 _ H.out hl).mono ?_
  rintro e w1 ⟨rfl, rfl⟩
  go_wp2
  go_ret2
  exact ⟨rfl, rfl⟩

set_option maxHeartbeats 400000 in
theorem rSize_wide (h : IsR w g v xs 0) (hb : Byts xs) (hl : 4 ≤ xs.length) (hn : ahead xs < 0 ∨ most < ahead xs) :
    Calls Tryz.prog 107 #[.pointer (some ⟨g, 0, none⟩), .int .i64 most] w fun e w' => e = .returned (.tuple #[.int .i64 0, .bool false]) ∧ w' = w.setCell ⟨g, 2, none⟩ (.int .i64 11) := by
  have H : Hid (IsR w g v xs 0 ∧ Byts xs) := ⟨h, hb⟩
  have h2 := h.c2
  have h3 := h.fr 2
  clear h hb
  unfold ahead at hn
  have hw1 := (wrap32_bd (num (xs.take 4))).1
  have hw2 := (wrap32_bd (num (xs.take 4))).2
  rcases hn with hn | hn
  · have b1 : decide (wrap32 (num (xs.take 4)) < 0) = true := by simp; omega
    go_enter Tryz.func107, Tryz.ntmps107
    go_wp2_with fail
    refine (rPeek_ok g v xs 4 _ H.out.1 hl).mono ?_
    rintro e w1 ⟨ao, rfl, hs, _, rfl⟩
    have HS : Hid (Sees w1 (.slice ao 4 4) (xs.take 4)) := hs
    clear hs
    go_wp2_with fail
    refine (join_any _ (xs.take 4) _ HS.out (H.out.2.take 4) (by simp; omega)).mono ?_
    rintro e w2 ⟨rfl, rfl⟩
    go_wp2
    go_ret2
    exact ⟨rfl, rfl⟩
  · by_cases hm : wrap32 (num (xs.take 4)) < 0
    · have b1 : decide (wrap32 (num (xs.take 4)) < 0) = true := by simp; omega
      go_enter Tryz.func107, Tryz.ntmps107
      go_wp2_with fail
      refine (rPeek_ok g v xs 4 _ H.out.1 hl).mono ?_
      rintro e w1 ⟨ao, rfl, hs, _, rfl⟩
      have HS : Hid (Sees w1 (.slice ao 4 4) (xs.take 4)) := hs
      clear hs
      go_wp2_with fail
      refine (join_any _ (xs.take 4) _ HS.out (H.out.2.take 4) (by simp; omega)).mono ?_
      rintro e w2 ⟨rfl, rfl⟩
      go_wp2
      go_ret2
      exact ⟨rfl, rfl⟩
    · have b1 : decide (wrap32 (num (xs.take 4)) < 0) = false := by simp; omega
      have b2 : decide (most < wrap32 (num (xs.take 4))) = true := by simp; omega
      go_enter Tryz.func107, Tryz.ntmps107
      go_wp2_with fail
      refine (rPeek_ok g v xs 4 _ H.out.1 hl).mono ?_
      rintro e w1 ⟨ao, rfl, hs, _, rfl⟩
      have HS : Hid (Sees w1 (.slice ao 4 4) (xs.take 4)) := hs
      clear hs
      go_wp2_with fail
      refine (join_any _ (xs.take 4) _ HS.out (H.out.2.take 4) (by simp; omega)).mono ?_
      rintro e w2 ⟨rfl, rfl⟩
      go_wp2
      go_ret2
      exact ⟨rfl, rfl⟩

set_option maxHeartbeats 400000 in
theorem rSize_over (h : IsR w g v xs 0) (hb : Byts xs) (hl : 4 ≤ xs.length) (hn : 0 ≤ ahead xs) (hm : ahead xs ≤ most) (ho : (xs.length : Int) - 4 < ahead xs) :
    Calls Tryz.prog 107 #[.pointer (some ⟨g, 0, none⟩), .int .i64 most] w fun e w' => e = .returned (.tuple #[.int .i64 0, .bool false]) ∧ w' = w.setCell ⟨g, 2, none⟩ (.int .i64 10) := by
  have H : Hid (IsR w g v xs 0 ∧ Byts xs) := ⟨h, hb⟩
  have h1 := h.c1
  have h2 := h.c2
  have h3 := h.fr 2
  obtain ⟨av, cv, rfl, q1, q2, _, _⟩ := h.2
  unfold maxLen at q2
  clear h hb
  unfold ahead at hn hm ho
  have hw1 := (wrap32_bd (num (xs.take 4))).1
  have hw2 := (wrap32_bd (num (xs.take 4))).2
  have b1 : decide (wrap32 (num (xs.take 4)) < 0) = false := by simp; omega
  have b2 : decide (most < wrap32 (num (xs.take 4))) = false := by simp; omega
  go_enter Tryz.func107, Tryz.ntmps107
  go_wp2_with fail
  refine (rPeek_ok g _ xs 4 _ H.out.1 hl).mono ?_
  rintro e w1 ⟨ao, rfl, hs, _, rfl⟩
  have HS : Hid (Sees w1 (.slice ao 4 4) (xs.take 4)) := hs
  clear hs
  go_wp2_with fail
  refine (join_any _ (xs.take 4) _ HS.out (H.out.2.take 4) (by simp; omega)).mono ?_
  rintro e w2 ⟨rfl, rfl⟩
  go_wp2
  go_ret2
  exact ⟨rfl, rfl⟩

set_option maxHeartbeats 400000 in
theorem rSize_ok (h : IsR w g v xs 0) (hb : Byts xs) (hl : 4 ≤ xs.length) (hn : 0 ≤ ahead xs) (hm : ahead xs ≤ most) (ho : ahead xs ≤ (xs.length : Int) - 4) :
    Calls Tryz.prog 107 #[.pointer (some ⟨g, 0, none⟩), .int .i64 most] w fun e w' => e = .returned (.tuple #[.int .i64 (ahead xs), .bool true]) ∧ w' = w := by
  have H : Hid (IsR w g v xs 0 ∧ Byts xs) := ⟨h, hb⟩
  have h1 := h.c1
  obtain ⟨av, cv, rfl, q1, q2, _, _⟩ := h.2
  unfold maxLen at q2
  clear h hb
  unfold ahead at hn hm ho ⊢
  have hw1 := (wrap32_bd (num (xs.take 4))).1
  have hw2 := (wrap32_bd (num (xs.take 4))).2
  have b1 : decide (wrap32 (num (xs.take 4)) < 0) = false := by simp; omega
  have b2 : decide (most < wrap32 (num (xs.take 4))) = false := by simp; omega
  go_enter Tryz.func107, Tryz.ntmps107
  go_wp2_with fail
  refine (rPeek_ok g _ xs 4 _ H.out.1 hl).mono ?_
  rintro e w1 ⟨ao, rfl, hs, _, rfl⟩
  have HS : Hid (Sees w1 (.slice ao 4 4) (xs.take 4)) := hs
  clear hs
  go_wp2_with fail
  refine (join_any _ (xs.take 4) _ HS.out (H.out.2.take 4) (by simp; omega)).mono ?_
  rintro e w2 ⟨rfl, rfl⟩
  go_wp2
  go_ret2
  exact ⟨rfl, rfl⟩
end

theorem nilErr_any (w : World) : Calls Tryz.prog 23 #[.pointer none] w fun e w' => e = .returned (.int .i64 1) ∧ w' = w := by
  go_enter Tryz.func23, Tryz.ntmps23
  go_wp2
  go_ret
  exact ⟨rfl, rfl⟩

theorem nilReads_any (w : World) : Calls Tryz.prog 81 #[.pointer none] w fun e w' => e = .returned (.bool false) ∧ w' = w := by
  go_enter Tryz.func81, Tryz.ntmps81
  go_wp2_with fail
  refine (nilErr_any _).mono ?_
  rintro e w1 ⟨rfl, rfl⟩
  go_wp2
  go_ret
  exact ⟨rfl, rfl⟩

theorem nilPeek_any (n : Int) (w : World) : Calls Tryz.prog 77 #[.pointer none, .int .i64 n] w fun e w' => e = .returned (.tuple #[.slice none 0 0, .bool false]) ∧ w' = w := by
  go_enter Tryz.func77, Tryz.ntmps77
  go_wp2_with fail
  refine (nilReads_any _).mono ?_
  rintro e w1 ⟨rfl, rfl⟩
  go_wp2
  go_ret2
  exact ⟨rfl, rfl⟩

theorem nilSize_any (most : Int) (w : World) : Calls Tryz.prog 107 #[.pointer none, .int .i64 most] w fun e w' => e = .returned (.tuple #[.int .i64 0, .bool false]) ∧ w' = w := by
  go_enter Tryz.func107, Tryz.ntmps107
  go_wp2_with fail
  refine (nilPeek_any _ _).mono ?_
  rintro e w1 ⟨rfl, rfl⟩
  go_wp2
  go_ret2
  exact ⟨rfl, rfl⟩

end Go.Proofs.YtblgipjipeaemaaGreatDoor
