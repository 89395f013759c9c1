/- What path's isName, ahead, split, Parent, Base and Join answer. -/
import Derived.Test.YtgaemldkpfbomabDoorPaE
namespace Go.Proofs.YtgaemldkpfbomabDoor
open Go.RowKit Go.Shelf
set_option maxRecDepth 8000

theorem app_list (a b : ByteArray) : (a ++ b).data.toList = a.data.toList ++ b.data.toList := by
  rw [ByteArray.data_append, Array.toList_append]

theorem app_size (a b : ByteArray) : (a ++ b).size = a.size + b.size := by
  rw [size_list, app_list, List.length_append, ← size_list, ← size_list]

theorem list_bytes (l : Bs) : (⟨l.toArray⟩ : ByteArray).data.toList = l := rfl

theorem eq_of_list {a b : ByteArray} (h : a.data.toList = b.data.toList) : a = b := by
  cases a; cases b; simp at h; simp [h]

/-- A name. -/
def nmB (l : Bs) : Bool := decide (nf l = none) && decide (rf l = none) && decide ((47 : UInt8) ∉ l)

theorem nmB_iff (l : Bs) : nmB l = true ↔ NameOK l ∧ NoSlash l := by
  unfold nmB NameOK NoSlash
  simp only [Bool.and_eq_true, decide_eq_true_eq]

theorem nf_ok {l : Bs} (h : nf l = none) : l ≠ [] ∧ l.length ≤ 24 ∧ l ≠ [46] ∧ l ≠ [46, 46] := by
  unfold nf at h
  split at h
  · simp at h
  · split at h
    · simp at h
    · rename_i h1 h2
      exact ⟨fun e => h2 (.inl e), by omega, fun e => h2 (.inr (.inl e)), fun e => h2 (.inr (.inr e))⟩

theorem isPb_name {l : Bs} (h0 : l ≠ []) (hn : NoSlash l) (hl : l.length ≤ 4294967295) : isPb (47 :: l) = nmB l := by
  rw [Bool.eq_iff_iff, isPb_iff (by simp; omega), nmB_iff]
  constructor
  · rintro (h | ⟨r, e, _, h⟩)
    · simp at h; exact absurd h h0
    · simp only [List.cons.injEq, true_and] at e
      subst e
      exact ⟨h l (by rw [segs_none hn]; simp), hn⟩
  · rintro ⟨h, _⟩
    have := nf_ok h.1
    refine .inr ⟨l, rfl, by simp; omega, fun s hs => ?_⟩
    rw [segs_none hn] at hs
    simp at hs
    subst hs
    exact h

theorem eq_list' (s : ByteArray) (x : Bs) : (s.toList == x) = decide (s.data.toList = x) := by
  rw [toList_eq, Bool.eq_iff_iff]; simp

set_option maxHeartbeats 400000 in
theorem isName_any (s : ByteArray) (w : World) (hl : s.size ≤ 4294967295) :
    Calls Tryd.prog 17 #[.string s] w fun e w' => e = .returned (.bool (nmB s.data.toList)) ∧ Below w.heap.size w w' := by
  have e0 := eq_list' s []
  by_cases h0 : s.data.toList = []
  · have hb : nmB s.data.toList = false := by rw [h0]; decide
    rw [hb]
    have e1 : s.toList = [] := by rw [toList_eq, h0]
    have e2 : s.toList.isEmpty = true := by rw [e1]; rfl
    clear h0 hb e0
    go_enter Tryd.func17, Tryd.ntmps17
    go_wp2
    go_ret
    exact ⟨rfl, Below.refl _ _⟩
  · have e1 : ¬ s.toList = [] := by rw [toList_eq]; exact h0
    have e2 : s.toList.isEmpty = false := by cases h : s.toList with
      | nil => exact absurd h e1
      | cons b r => rfl
    by_cases hm : (47 : UInt8) ∈ s.data.toList
    · have hb : nmB s.data.toList = false := by
        have h : decide ((47 : UInt8) ∉ s.data.toList) = false := decide_eq_false (fun h => h hm)
        unfold nmB; rw [h, Bool.and_false]
      rw [hb]
      have hd := decide_eq_true hm
      clear h0 hb hm e0
      go_enter Tryd.func17, Tryd.ntmps17
      go_wp2_with (go_at_call 30; refine (contains_slash _ _).mono ?_; rintro e w1 ⟨rfl, rfl⟩; rw [hd])
      go_ret
      exact ⟨rfl, Below.refl _ _⟩
    · have hb := isPb_name h0 hm (by rw [← size_list]; exact hl)
      have hz := app_size slashB s
      have ha : (slashB ++ s).data.toList = 47 :: s.data.toList := by rw [app_list]; rfl
      have hd := decide_eq_false hm
      have HP : Hid (∀ w, Calls Tryd.prog 16 #[.string (slashB ++ s)] w fun e w' => e = .returned (.bool (nmB s.data.toList)) ∧ Below w.heap.size w w') := fun w => by
        have := isPath_any (slashB ++ s) w (by rw [hz]; show 1 + s.size ≤ _; omega)
        rw [ha, hb] at this
        exact this
      clear h0 hb hm e0 hz ha
      cases hv : nmB s.data.toList with
      | true =>
        rw [hv] at HP
        go_enter Tryd.func17, Tryd.ntmps17
        go_wp2_with (first | (go_at_call 30; refine (contains_slash _ _).mono ?_; rintro e w1 ⟨rfl, rfl⟩; rw [hd]) | (go_at_call 16; refine (HP.out _).mono ?_; rintro e w2 ⟨rfl, hb2⟩))
        go_ret
        exact ⟨rfl, hb2⟩
      | false =>
        rw [hv] at HP
        go_enter Tryd.func17, Tryd.ntmps17
        go_wp2_with (first | (go_at_call 30; refine (contains_slash _ _).mono ?_; rintro e w1 ⟨rfl, rfl⟩; rw [hd]) | (go_at_call 16; refine (HP.out _).mono ?_; rintro e w2 ⟨rfl, hb2⟩))
        go_ret
        exact ⟨rfl, hb2⟩

theorem ahead_any (s : ByteArray) (p : Nat) (h1 : 1 ≤ p) (h2 : p ≤ s.size) (hl : s.size ≤ 4294967296) (w : World) :
    Calls Tryd.prog 29 #[.string s, .int .i64 (p : Int)] w fun e w' => e = .returned (bytesV (s.data.toList.take (max (p - 1) 1))) ∧ w' = w := by
  have he : ∀ k, bytesV (s.data.toList.take k) = .string (s.extract 0 k) := fun k => by
    unfold bytesV; rw [Lib.extract_eq]; simp
  rw [he]
  by_cases h : 2 ≤ p
  · have hk : max (p - 1) 1 = p - 1 := by omega
    rw [hk]
    obtain ⟨q, rfl⟩ : ∃ q, p = q + 1 := ⟨p - 1, by omega⟩
    have hq : 1 ≤ q := by omega
    clear hk h he
    simp only [Nat.add_sub_cancel]
    have c1 : (q : Int) ≤ s.size := by omega
    go_enter Tryd.func29, Tryd.ntmps29
    go_wp2
    go_ret
    exact ⟨rfl, rfl⟩
  · have hk : max (p - 1) 1 = 1 := by omega
    rw [hk]
    obtain rfl : p = 1 := by omega
    clear hk h he
    go_enter Tryd.func29, Tryd.ntmps29
    go_wp2
    go_ret
    exact ⟨rfl, rfl⟩

end Go.Proofs.YtgaemldkpfbomabDoor
