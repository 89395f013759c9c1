/- What path's fault, isPath, isName, checked, ahead, split answer. -/
import Derived.Test.YtgdbcdddcejehaaPaD
namespace Go.Proofs.Ytgdbcdddcejehaa
open Go.RowKit Go.Shelf
set_option maxRecDepth 8000

theorem toList_eq (s : ByteArray) : s.toList = s.data.toList := Lib.toList_data s

theorem opens_cons {l : Bs} (h : opens l = true) : ∃ r, l = 47 :: r := by
  cases l with
  | nil => simp [opens] at h
  | cons b r => simp [opens] at h; exact ⟨r, by rw [h]⟩

theorem fault_opens {l : Bs} (h1 : l ≠ [47]) (h : opens l = true) : (faultL l : Int) = min (plc (rf l)) (min (plc (firstF nf (slots l 0))) (plc (sizeF l))) := by
  obtain ⟨r, rfl⟩ := opens_cons h
  unfold faultL plc
  rw [if_neg h1]
  simp only [if_true]
  omega

theorem fault_closed {l : Bs} (h : opens l = false) : faultL l = 0 := by
  unfold faultL
  cases l with
  | nil => rfl
  | cons b r => simp [opens] at h; simp [h]

theorem min_parts {a b c m : Int} (h : m = min a (min b c)) : m ≤ a ∧ m ≤ b ∧ m ≤ c ∧ (m = a ∨ m = b ∨ m = c) := by omega

set_option maxHeartbeats 1000000 in
theorem fault_any (s : ByteArray) (w : World) (hl : s.size ≤ 4294967296) :
    Calls Try.prog 38 #[.string s] w fun e w' => e = .returned (.int .i64 (faultL s.data.toList : Nat)) ∧ Below w.heap.size w w' := by
  go_enter Try.func38, Try.ntmps38
  go_wp2_with (first
    | (go_at_call 42; refine (hasPrefix_slash _ _).mono ?_; rintro e w' ⟨rfl, rfl⟩)
    | fail)
  · have h : (s.toList == [47]) = true := by assumption
    rw [toList_eq] at h
    have h := beq_iff_eq.1 h
    go_ret
    refine ⟨?_, Below.refl _ _⟩
    rw [h]; rfl
  · have h : (!opens s.data.toList) = true := by assumption
    have h : opens s.data.toList = false := by simpa using h
    go_ret
    refine ⟨?_, Below.refl _ _⟩
    rw [fault_closed h]; rfl
  · have h1 : (s.toList == [47]) = false := by assumption
    rw [toList_eq] at h1
    have h2 : (!opens s.data.toList) = false := by assumption
    have h2 : opens s.data.toList = true := by simpa using h2
    have HF : Hid _ := fault_opens (by simpa using h1) h2
    clear h1 h2
    refine (runeFault_any _ _).mono ?_
    rintro e w1 ⟨rfl, hb1⟩
    go_wp2_with fail
    refine (nameFault_any _ _ hl).mono ?_
    rintro e w2 ⟨rfl, hb2⟩
    go_wp2_with fail
    refine (sizeFault_any _ _).mono ?_
    rintro e w3 ⟨rfl, rfl⟩
    go_wp2
    all_goals (go_ret; refine ⟨ret_int ?_, hb1.trans (hb2.mono hb1.size)⟩; have hm := min_parts HF.out; clear HF)
    all_goals (generalize plc (rf s.data.toList) = a at *; generalize plc (firstF nf (slots s.data.toList 0)) = b at *; generalize plc (sizeF s.data.toList) = c at *)
    all_goals (have hi : (if b < a then b else a) ≤ a ∧ (if b < a then b else a) ≤ b ∧ ((if b < a then b else a) = a ∨ (if b < a then b else a) = b) := by split <;> omega)
    all_goals omega

/-- Is it a path? -/
def isPb (l : Bs) : Bool := decide (faultL l = sound)

theorem isPb_iff {l : Bs} (h : l.length ≤ 4294967296) : isPb l = true ↔ IsP l := by
  unfold isPb
  rw [decide_eq_true_eq]
  exact fault_sound l (by unfold sound; omega)

theorem isPath_any (s : ByteArray) (w : World) (hl : s.size ≤ 4294967296) :
    Calls Try.prog 82 #[.string s] w fun e w' => e = .returned (.bool (isPb s.data.toList)) ∧ Below w.heap.size w w' := by
  have hb : isPb s.data.toList = (((faultL s.data.toList : Nat) : Int) == 9223372036854775807) := by
    unfold isPb sound
    rw [Bool.eq_iff_iff]
    simp only [decide_eq_true_eq, beq_iff_eq]
    omega
  rw [hb]
  clear hb
  go_enter Try.func82, Try.ntmps82
  go_wp2_with fail
  refine (fault_any _ _ hl).mono ?_
  rintro e w1 ⟨rfl, hb1⟩
  go_wp2
  go_ret
  exact ⟨rfl, hb1⟩

/-- A text that has to be a path. -/
def checkedV (l : Bs) : Value := .tuple (if isPb l then #[bytesV l, .int .i64 0] else #[.string ⟨#[]⟩, .int .i64 50])

theorem check_any (s : ByteArray) (w : World) (hl : s.size ≤ 4294967296) :
    Calls Try.prog 33 #[.string s] w fun e w' => e = .returned (.tuple (if isPb s.data.toList then #[.int .i64 0, .int .i64 0] else #[.int .i64 (faultL s.data.toList : Nat), .int .i64 50])) ∧ Below w.heap.size w w' := by
  by_cases hb : faultL s.data.toList = sound
  · have h1 : isPb s.data.toList = true := by unfold isPb; simpa using hb
    rw [h1, if_pos rfl]
    have hc : ((faultL s.data.toList : Nat) : Int) = 9223372036854775807 := by rw [hb]; rfl
    clear hb h1
    go_enter Try.func33, Try.ntmps33
    go_wp2_with fail
    refine (fault_any _ _ hl).mono ?_
    rintro e w1 ⟨rfl, hb1⟩
    rw [hc]
    go_wp2
    go_ret2
    exact ⟨rfl, hb1⟩
  · have h1 : isPb s.data.toList = false := by unfold isPb; simpa using hb
    rw [h1, if_neg (by simp)]
    have hc : ¬ ((faultL s.data.toList : Nat) : Int) = 9223372036854775807 := fun e => hb (by unfold sound; omega)
    obtain ⟨v, hv, HFa⟩ : ∃ v : Int, v = ((faultL s.data.toList : Nat) : Int) ∧ Hid (Calls Try.prog 38 #[.string s] w fun e w' => e = .returned (.int .i64 v) ∧ Below w.heap.size w w') := ⟨_, rfl, fault_any s w hl⟩
    rw [← hv] at hc ⊢
    clear hv
    have hc2 : (v == 9223372036854775807) = false := by simpa using hc
    clear hb h1
    go_enter Try.func33, Try.ntmps33
    go_wp2_with fail
    refine HFa.out.mono ?_
    rintro e w1 ⟨rfl, hb1⟩
    go_wp2
    go_ret2
    exact ⟨rfl, hb1⟩

end Go.Proofs.Ytgdbcdddcejehaa
