/- What path's fault, isPath, isName, checked, ahead, split answer. -/
import Derived.Test.YtkcapiblicfboaaGreatDoorPaDJ
namespace Go.Proofs.YtkcapiblicfboaaGreatDoor
open Go.RowKit Go.Shelf
set_option maxRecDepth 8000

theorem toList_eq (s : ByteArray) : s.toList = s.data.toList := Lib.toList_data s

theorem opens_cons {l : Bs} (h : opens l = true) : ∃ r, l = 47 :: r := by
  cases l with
  | nil => simp [opens] at h
  | cons b r => simp [opens] at h; exact ⟨r, by rw [h]⟩

theorem fault_opens {l : Bs} (h1 : l ≠ [47]) (h : opens l = true) : (faultL l : Int) = min (plc (rf l)) (min (plc (firstF nf (slots l 0))) (plc (sizeF l))) := by
  obtain ⟨r, rfl⟩ := opens_cons h
  unfold faultL plc
  rw [if_neg h1]
  simp only [if_true]
  omega

theorem fault_closed {l : Bs} (h : opens l = false) : faultL l = 0 := by
  unfold faultL
  cases l with
  | nil => rfl
  | cons b r => simp [opens] at h; simp [h]

theorem min_parts {a b c m : Int} (h : m = min a (min b c)) : m ≤ a ∧ m ≤ b ∧ m ≤ c ∧ (m = a ∨ m = b ∨ m = c) := by omega

set_option maxHeartbeats 1000000 in
theorem fault_any (s : ByteArray) (w : World) (hl : s.size ≤ 4294967296) :
    Calls Tryz.prog 90 #[.string s] w fun e w' => e = .returned (.int .i64 (faultL s.data.toList : Nat)) ∧ Below w.heap.size w w' := by
  go_enter Tryz.func90, Tryz.ntmps90
  go_wp2_with (first
    | (go_at_call 95; refine (hasPrefix_slash _ _).mono ?_; rintro e w' ⟨rfl, rfl⟩)
    | fail)
  · have h : (s.toList == [47]) = true := by assumption
    rw [toList_eq] at h
    have h := beq_iff_eq.1 h
    go_ret
    refine ⟨?_, Below.refl _ _⟩
    rw [h]; rfl
  · have h : (!opens s.data.toList) = true := by assumption
    have h : opens s.data.toList = false := by simpa using h
    go_ret
    refine ⟨?_, Below.refl _ _⟩
    rw [fault_closed h]; rfl
  · have h1 : (s.toList == [47]) = false := by assumption
    rw [toList_eq] at h1
    have h2 : (!opens s.data.toList) = false := by assumption
    have h2 : opens s.data.toList = true := by simpa using h2
    have HF : Hid _ := fault_opens (by simpa using h1) h2
    clear h1 h2
    refine (runeFault_any _ _).mono ?_
    rintro e w1 ⟨rfl, hb1⟩
    go_wp2_with fail
    refine (nameFault_any _ _ hl).mono ?_
    rintro e w2 ⟨rfl, hb2⟩
    go_wp2_with fail
    refine (sizeFault_any _ _).mono ?_
    rintro e w3 ⟨rfl, rfl⟩
    go_wp2
    all_goals (go_ret; refine ⟨ret_int ?_, hb1.trans (hb2.mono hb1.size)⟩; have hm := min_parts HF.out; clear HF)
    all_goals (generalize plc (rf s.data.toList) = a at *; generalize plc (firstF nf (slots s.data.toList 0)) = b at *; generalize plc (sizeF s.data.toList) = c at *)
    all_goals (have hi : (if b < a then b else a) ≤ a ∧ (if b < a then b else a) ≤ b ∧ ((if b < a then b else a) = a ∨ (if b < a then b else a) = b) := by split <;> omega)
    all_goals omega

/-- Is it a path? -/
def isPb (l : Bs) : Bool := decide (faultL l = sound)

theorem isPb_iff {l : Bs} (h : l.length ≤ 4294967296) : isPb l = true ↔ IsP l := by
  unfold isPb
  rw [decide_eq_true_eq]
  exact fault_sound l (by unfold sound; omega)

theorem isPath_any (s : ByteArray) (w : World) (hl : s.size ≤ 4294967296) :
    Calls Tryz.prog 149 #[.string s] w fun e w' => e = .returned (.bool (isPb s.data.toList)) ∧ Below w.heap.size w w' := by
  have hb : isPb s.data.toList = (((faultL s.data.toList : Nat) : Int) == 9223372036854775807) := by
    unfold isPb sound
    rw [Bool.eq_iff_iff]
    simp only [decide_eq_true_eq, beq_iff_eq]
    omega
  rw [hb]
  clear hb
  go_enter Tryz.func149, Tryz.ntmps149
  go_wp2_with fail
  refine (fault_any _ _ hl).mono ?_
  rintro e w1 ⟨rfl, hb1⟩
  go_wp2
  go_ret
  exact ⟨rfl, hb1⟩

/-- A text that has to be a path. -/
def checkedV (l : Bs) : Value := .tuple (if isPb l then #[bytesV l, .int .i64 0] else #[.string ⟨#[]⟩, .int .i64 50])

theorem check_any (s : ByteArray) (w : World) (hl : s.size ≤ 4294967296) :
    Calls Tryz.prog 85 #[.string s] w fun e w' => e = .returned (.tuple (if isPb s.data.toList then #[.int .i64 0, .int .i64 0] else #[.int .i64 (faultL s.data.toList : Nat), .int .i64 50])) ∧ Below w.heap.size w w' := by
  by_cases hb : faultL s.data.toList = sound
  · have h1 : isPb s.data.toList = true := by unfold isPb; simpa using hb
    rw [h1, if_pos rfl]
    have hc : ((faultL s.data.toList : Nat) : Int) = 9223372036854775807 := by rw [hb]; rfl
    clear hb h1
    go_enter Tryz.func85, Tryz.ntmps85
    go_wp2_with fail
    refine (fault_any _ _ hl).mono ?_
    rintro e w1 ⟨rfl, hb1⟩
    rw [hc]
    go_wp2
    go_ret2
    exact ⟨rfl, hb1⟩
  · have h1 : isPb s.data.toList = false := by unfold isPb; simpa using hb
    rw [h1, if_neg (by simp)]
    have hc : ¬ ((faultL s.data.toList : Nat) : Int) = 9223372036854775807 := fun e => hb (by unfold sound; omega)
    obtain ⟨v, hv, HFa⟩ : ∃ v : Int, v = ((faultL s.data.toList : Nat) : Int) ∧ Hid (Calls Tryz.prog 90 #[.string s] w fun e w' => e = .returned (.int .i64 v) ∧ Below w.heap.size w w') := ⟨_, rfl, fault_any s w hl⟩
    rw [← hv] at hc ⊢
    clear hv
    have hc2 : (v == 9223372036854775807) = false := by simpa using hc
    clear hb h1
    go_enter Tryz.func85, Tryz.ntmps85
    go_wp2_with fail
    refine HFa.out.mono ?_
    rintro e w1 ⟨rfl, hb1⟩
    go_wp2
    go_ret2
    exact ⟨rfl, hb1⟩

end Go.Proofs.YtkcapiblicfboaaGreatDoor

/- What path's isName, ahead, split, Parent, Base and Join answer. -/
namespace Go.Proofs.YtkcapiblicfboaaGreatDoor
open Go.RowKit Go.Shelf
set_option maxRecDepth 8000

theorem app_list (a b : ByteArray) : (a ++ b).data.toList = a.data.toList ++ b.data.toList := by
  rw [ByteArray.data_append, Array.toList_append]

theorem app_size (a b : ByteArray) : (a ++ b).size = a.size + b.size := by
  rw [size_list, app_list, List.length_append, ← size_list, ← size_list]

theorem list_bytes (l : Bs) : (⟨l.toArray⟩ : ByteArray).data.toList = l := rfl

theorem eq_of_list {a b : ByteArray} (h : a.data.toList = b.data.toList) : a = b := by
  cases a; cases b; simp at h; simp [h]

/-- A name. -/
def nmB (l : Bs) : Bool := decide (nf l = none) && decide (rf l = none) && decide ((47 : UInt8) ∉ l)

theorem nmB_iff (l : Bs) : nmB l = true ↔ NameOK l ∧ NoSlash l := by
  unfold nmB NameOK NoSlash
  simp only [Bool.and_eq_true, decide_eq_true_eq]

theorem nf_ok {l : Bs} (h : nf l = none) : l ≠ [] ∧ l.length ≤ 24 ∧ l ≠ [46] ∧ l ≠ [46, 46] := by
  unfold nf at h
  split at h
  · simp at h
  · split at h
    · simp at h
    · rename_i h1 h2
      exact ⟨fun e => h2 (.inl e), by omega, fun e => h2 (.inr (.inl e)), fun e => h2 (.inr (.inr e))⟩

theorem isPb_name {l : Bs} (h0 : l ≠ []) (hn : NoSlash l) (hl : l.length ≤ 4294967295) : isPb (47 :: l) = nmB l := by
  rw [Bool.eq_iff_iff, isPb_iff (by simp; omega), nmB_iff]
  constructor
  · rintro (h | ⟨r, e, _, h⟩)
    · simp at h; exact absurd h h0
    · simp only [List.cons.injEq, true_and] at e
      subst e
      exact ⟨h l (by rw [segs_none hn]; simp), hn⟩
  · rintro ⟨h, _⟩
    have := nf_ok h.1
    refine .inr ⟨l, rfl, by simp; omega, fun s hs => ?_⟩
    rw [segs_none hn] at hs
    simp at hs
    subst hs
    exact h

theorem eq_list' (s : ByteArray) (x : Bs) : (s.toList == x) = decide (s.data.toList = x) := by
  rw [toList_eq, Bool.eq_iff_iff]; simp

theorem ahead_any (s : ByteArray) (p : Nat) (h1 : 1 ≤ p) (h2 : p ≤ s.size) (hl : s.size ≤ 4294967296) (w : World) :
    Calls Tryz.prog 150 #[.string s, .int .i64 (p : Int)] w fun e w' => e = .returned (bytesV (s.data.toList.take (max (p - 1) 1))) ∧ w' = w := by
  have he : ∀ k, bytesV (s.data.toList.take k) = .string (s.extract 0 k) := fun k => by
    unfold bytesV; rw [Lib.extract_eq]; simp
  rw [he]
  by_cases h : 2 ≤ p
  · have hk : max (p - 1) 1 = p - 1 := by omega
    rw [hk]
    obtain ⟨q, rfl⟩ : ∃ q, p = q + 1 := ⟨p - 1, by omega⟩
    have hq : 1 ≤ q := by omega
    clear hk h he
    simp only [Nat.add_sub_cancel]
    have c1 : (q : Int) ≤ s.size := by omega
    go_enter Tryz.func150, Tryz.ntmps150
    go_wp2
    go_ret
    exact ⟨rfl, rfl⟩
  · have hk : max (p - 1) 1 = 1 := by omega
    rw [hk]
    obtain rfl : p = 1 := by omega
    clear hk h he
    go_enter Tryz.func150, Tryz.ntmps150
    go_wp2
    go_ret
    exact ⟨rfl, rfl⟩

end Go.Proofs.YtkcapiblicfboaaGreatDoor

/- What path's split, Parent, Base and Join answer. -/
namespace Go.Proofs.YtkcapiblicfboaaGreatDoor
open Go.RowKit Go.Shelf
set_option maxRecDepth 8000

/-- A text, parted at its last slash. -/
def cutL : Bs → Option (Bs × Bs)
  | [] => none
  | x :: r => match cutL r with
    | some (a, b) => some (x :: a, b)
    | none => if x = 47 then some ([], r) else none

theorem cutL_none : ∀ {l : Bs}, cutL l = none → NoSlash l
  | [], _ => by simp [NoSlash]
  | x :: r, h => by
    simp only [cutL] at h
    cases hr : cutL r with
    | some ab => rw [hr] at h; simp at h
    | none =>
      rw [hr] at h
      have := cutL_none hr
      simp only at h
      split at h
      · simp at h
      · rename_i hx
        simp only [NoSlash, List.mem_cons, not_or]
        exact ⟨fun e => hx e.symm, this⟩

theorem cutL_some : ∀ {l a b : Bs}, cutL l = some (a, b) → l = a ++ 47 :: b ∧ NoSlash b
  | [], _, _, h => by simp [cutL] at h
  | x :: r, a, b, h => by
    simp only [cutL] at h
    cases hr : cutL r with
    | some ab =>
      obtain ⟨a', b'⟩ := ab
      rw [hr] at h
      simp only [Option.some.injEq, Prod.mk.injEq] at h
      obtain ⟨rfl, rfl⟩ := h
      have := cutL_some hr
      exact ⟨by rw [List.cons_append, ← this.1], this.2⟩
    | none =>
      rw [hr] at h
      simp only at h
      split at h
      · rename_i hx
        simp only [Option.some.injEq, Prod.mk.injEq] at h
        obtain ⟨rfl, rfl⟩ := h
        exact ⟨by rw [hx]; rfl, cutL_none hr⟩
      · simp at h

theorem cutL_free {l : Bs} (h : NoSlash l) : cutL l = none := by
  cases hc : cutL l with
  | none => rfl
  | some ab =>
    obtain ⟨a, b⟩ := ab
    have := (cutL_some hc).1
    exact absurd (by rw [this]; simp) h

theorem cutL_app (b : Bs) (hb : NoSlash b) : ∀ a : Bs, cutL (a ++ 47 :: b) = some (a, b)
  | [] => by simp [cutL, cutL_free hb]
  | x :: a => by simp only [List.cons_append, cutL, cutL_app b hb a]

/-- The path above one. -/
def parL (l : Bs) : Bs := if l = [47] ∨ isPb l = false then [] else match cutL l with | some (a, _) => (if a = [] then [47] else a) | none => []
/-- A path's last name. -/
def basL (l : Bs) : Bs := if l = [47] ∨ isPb l = false then [] else match cutL l with | some (_, b) => b | none => []

theorem isPb_head {l : Bs} (h : isPb l = true) (hl : l.length ≤ 4294967296) : ∃ r, l = 47 :: r := by
  rcases (isPb_iff hl).1 h with rfl | ⟨r, e, _⟩
  · exact ⟨[], rfl⟩
  · exact ⟨r, e⟩

theorem cut_path {l : Bs} (h : isPb l = true) (hl : l.length ≤ 4294967296) : ∃ a b, cutL l = some (a, b) ∧ l = a ++ 47 :: b ∧ NoSlash b := by
  obtain ⟨r, hr⟩ := isPb_head h hl
  cases hc : cutL l with
  | none => exact absurd (by rw [hr]; simp) (cutL_none hc)
  | some ab => exact ⟨ab.1, ab.2, rfl, cutL_some hc⟩

/-- A path and a name below it. -/
def jn (d n : Bs) : Bs := if d = [47] then 47 :: n else d ++ 47 :: n

def joinV (d n : Bs) : Value := .tuple (if isPb d && nmB n && isPb (jn d n) then #[bytesV (jn d n), .int .i64 0] else #[.string ⟨#[]⟩, .int .i64 50])

theorem bytesV_list (s : ByteArray) (l : Bs) (h : s.data.toList = l) : bytesV l = .string s := by
  subst h; unfold bytesV; rw [bytes_self]

end Go.Proofs.YtkcapiblicfboaaGreatDoor
