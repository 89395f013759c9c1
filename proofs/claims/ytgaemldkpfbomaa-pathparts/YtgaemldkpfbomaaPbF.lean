/- What the document's last, Parent and Base answer. -/
import Derived.Test.YtgaemldkpfbomaaPaL
import Derived.Test.YtgaemldkpfbomaaPbC
namespace Go.Proofs.Ytgaemldkpfbomaa
open Go.RowKit Go.Shelf
set_option maxRecDepth 8000

set_option maxHeartbeats 1000000 in
theorem last_any (s : ByteArray) (a b : Bs) (hs : s.data.toList = a ++ 47 :: b) (hb : NoSlash b) (hl : s.size ≤ 4294967296) (w : World) :
    Calls Try.prog 29 #[.string s] w fun e w' => e = .returned (.int .i64 (a.length : Int)) ∧ w' = w := by
  have hz : s.size = a.length + 1 + b.length := by rw [size_list, hs]; simp; omega
  have ha : a.length < s.size := by omega
  have HS : Hid (s.data.toList = a ++ 47 :: b ∧ NoSlash b ∧ s.size = a.length + 1 + b.length) := ⟨hs, hb, hz⟩
  clear hs hb hz
  go_enter Try.func29, Try.ntmps29
  go_wp2
  go_loop [3, 4] (fun va vi => ∃ i j : Nat, i ≤ s.size ∧ vi = .int .i64 (i : Int) ∧ va = .int .i64 (j : Int) ∧ (a.length < i → j = a.length)) (fun _ vi => s.size - (intOf vi).toNat)
  case atStart => exact ⟨0, 0, Nat.zero_le _, rfl, rfl, fun h => by omega⟩
  case round =>
    obtain ⟨i, j, hi, rfl, rfl, hj⟩ := hrel
    have HJ : Hid (a.length < i → j = a.length) := hj
    clear hj
    by_cases hlt : i < s.size
    · have hc : s[i] = (a ++ 47 :: b).getD i 0 := by rw [byte_at, HS.out.1]
      have hH : Hid ((a.length < i → s[i] ≠ 47) ∧ (i = a.length → s[i] = 47)) := by
        refine ⟨fun h he => ?_, fun h => ?_⟩
        · rw [hc, List.getD_eq_getElem?_getD, List.getElem?_append_right (by omega)] at he
          obtain ⟨k, hk⟩ : ∃ k, i - a.length = k + 1 := ⟨i - a.length - 1, by omega⟩
          rw [hk, List.getElem?_cons_succ] at he
          have hz := HS.out.2.2
          rw [List.getElem?_eq_getElem (by omega)] at he
          exact HS.out.2.1 (by rw [← he]; exact List.getElem_mem _)
        · rw [hc, h, getD_mid]
      clear hc
      by_cases h47 : s[i] = 47
      · have hnat : ((s[i].toNat : Int) == 47) = true := by rw [h47]; rfl
        have HN : Hid (a.length < i + 1 → i = a.length) := fun h => by
          by_cases e : i = a.length
          · exact e
          · exact absurd h47 (hH.out.1 (by omega))
        clear h47
        go_wp2
        refine ⟨⟨i + 1, i, by omega, by simp, rfl, HN.out⟩, ?_⟩
        simp [intOf]; omega
      · have hnat : ((s[i].toNat : Int) == 47) = false := by
          rw [beq_eq_false_iff_ne]
          intro e
          exact h47 (UInt8.toNat_inj.1 (by show s[i].toNat = 47; omega))
        have HN : Hid (a.length < i + 1 → j = a.length) := fun h => by
          by_cases e : i = a.length
          · exact absurd (hH.out.2 e) h47
          · exact HJ.out (by omega)
        clear h47
        go_wp2
        refine ⟨⟨i + 1, j, by omega, by simp, rfl, HN.out⟩, ?_⟩
        simp [intOf]; omega
    · have hja := HJ.out (by omega)
      go_wp2
      go_ret
      exact ⟨rfl, rfl⟩

set_option maxHeartbeats 1000000 in
theorem parentR_any (s : ByteArray) (w : World) (hl : s.size ≤ 4294967295) :
    Calls Try.prog 15 #[.string s] w fun e w' => e = .returned (bytesV (parL s.data.toList)) ∧ Below w.heap.size w w' := by
  have e1 := eq_list' s [47]
  cases hi : isPb s.data.toList with
  | false =>
    have hp : parL s.data.toList = [] := by unfold parL; rw [if_pos (.inr hi)]
    rw [hp]
    clear hp e1
    go_enter Try.func15, Try.ntmps15
    go_wp2_with fail
    refine (is_any s hl _).mono ?_
    rintro e w1 ⟨rfl, hb1⟩
    rw [hi]
    go_wp2
    go_ret
    exact ⟨rfl, hb1⟩
  | true =>
    by_cases h47 : s.data.toList = [47]
    · have hp : parL s.data.toList = [] := by unfold parL; rw [if_pos (.inl h47)]
      rw [hp]
      rw [decide_eq_true h47] at e1
      clear hp h47
      go_enter Try.func15, Try.ntmps15
      go_wp2_with fail
      refine (is_any s hl _).mono ?_
      rintro e w1 ⟨rfl, hb1⟩
      rw [hi]
      go_wp2
      go_ret
      exact ⟨rfl, hb1⟩
    · rw [decide_eq_false h47] at e1
      obtain ⟨a, b, hab, hn, _, hp, _⟩ := par_bas hi h47 (by rw [← size_list]; omega)
      have HA : Hid (s.data.toList = a ++ 47 :: b ∧ NoSlash b) := ⟨hab, hn⟩
      have hz : a.length ≤ s.size := by rw [size_list, hab]; simp
      rw [hp]
      by_cases ha : a = []
      · rw [if_pos ha]
        have h0 : a.length = 0 := by rw [ha]; rfl
        clear hp hab hn h47
        go_enter Try.func15, Try.ntmps15
        go_wp2_with fail
        refine (is_any s hl _).mono ?_
        rintro e w1 ⟨rfl, hb1⟩
        rw [hi]
        go_wp2_with fail
        refine (last_any s a b HA.out.1 HA.out.2 (by omega) _).mono ?_
        rintro e w2 ⟨rfl, rfl⟩
        rw [h0]
        go_wp2
        go_ret
        exact ⟨rfl, hb1⟩
      · rw [if_neg ha]
        have h0 : ¬ a.length = 0 := fun e => ha (List.eq_nil_of_length_eq_zero e)
        have hv : bytesV a = .string (s.extract 0 a.length) := by
          refine bytesV_list _ _ ?_
          rw [Lib.extract_eq, list_bytes, hab]
          simp
        rw [hv]
        have h0' : (((a.length : Nat) : Int) == 0) = false := by rw [beq_eq_false_iff_ne]; omega
        obtain ⟨k, hk⟩ : ∃ k, k = a.length := ⟨_, rfl⟩
        have HLa : Hid (∀ w, Calls Try.prog 29 #[.string s] w fun e w' => e = .returned (.int .i64 (k : Int)) ∧ w' = w) := fun w => by rw [hk]; exact last_any s a b HA.out.1 HA.out.2 (by omega) w
        rw [← hk] at h0 hz h0' ⊢
        clear hp hab hn h47 hv ha hk
        go_enter Try.func15, Try.ntmps15
        go_wp2_with fail
        refine (is_any s hl _).mono ?_
        rintro e w1 ⟨rfl, hb1⟩
        rw [hi]
        go_wp2_with fail
        refine (HLa.out _).mono ?_
        rintro e w2 ⟨rfl, rfl⟩
        go_wp2
        go_ret
        exact ⟨rfl, hb1⟩

set_option maxHeartbeats 1000000 in
theorem baseR_any (s : ByteArray) (w : World) (hl : s.size ≤ 4294967295) :
    Calls Try.prog 16 #[.string s] w fun e w' => e = .returned (bytesV (basL s.data.toList)) ∧ Below w.heap.size w w' := by
  cases hi : isPb s.data.toList with
  | false =>
    have hp : basL s.data.toList = [] := by unfold basL; rw [if_pos (.inr hi)]
    rw [hp]
    clear hp
    go_enter Try.func16, Try.ntmps16
    go_wp2_with fail
    refine (is_any s hl _).mono ?_
    rintro e w1 ⟨rfl, hb1⟩
    rw [hi]
    go_wp2
    go_ret
    exact ⟨rfl, hb1⟩
  | true =>
    obtain ⟨a, b, hab, hn, hp⟩ : ∃ a b, s.data.toList = a ++ 47 :: b ∧ NoSlash b ∧ basL s.data.toList = b := by
      by_cases h47 : s.data.toList = [47]
      · exact ⟨[], [], h47, by simp [NoSlash], by unfold basL; rw [if_pos (.inl h47)]⟩
      · obtain ⟨a, b, hab, hn, _, _, hp⟩ := par_bas hi h47 (by rw [← size_list]; omega)
        exact ⟨a, b, hab, hn, hp⟩
    have HA : Hid (s.data.toList = a ++ 47 :: b ∧ NoSlash b) := ⟨hab, hn⟩
    have hz : a.length + 1 ≤ s.size := by rw [size_list, hab]; simp
    rw [hp]
    have hv : bytesV b = .string (s.extract (a.length + 1) s.size) := by
      refine bytesV_list _ _ ?_
      rw [Lib.extract_eq, list_bytes, List.take_of_length_le (by rw [List.length_drop, ← size_list]; exact Nat.le_refl _), hab]
      simp
    rw [hv]
    obtain ⟨k, hk⟩ : ∃ k, k = a.length := ⟨_, rfl⟩
    have HLa : Hid (∀ w, Calls Try.prog 29 #[.string s] w fun e w' => e = .returned (.int .i64 (k : Int)) ∧ w' = w) := fun w => by rw [hk]; exact last_any s a b HA.out.1 HA.out.2 (by omega) w
    rw [← hk] at hz ⊢
    clear hp hab hn hv hk
    go_enter Try.func16, Try.ntmps16
    go_wp2_with fail
    refine (is_any s hl _).mono ?_
    rintro e w1 ⟨rfl, hb1⟩
    rw [hi]
    go_wp2_with fail
    refine (HLa.out _).mono ?_
    rintro e w2 ⟨rfl, rfl⟩
    go_wp2
    go_ret
    exact ⟨rfl, hb1⟩

end Go.Proofs.Ytgaemldkpfbomaa
