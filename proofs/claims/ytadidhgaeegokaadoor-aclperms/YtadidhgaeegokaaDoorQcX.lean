/- The walk of AclPerms: every number and every text. -/
import Derived.Test.YtadidhgaeegokaaDoorQcW
import Derived.Test.YtadidhgaeegokaaDoorQcN
namespace Go.Proofs.YtadidhgaeegokaaDoor
open Go.RowKit Go.Shelf
set_option maxRecDepth 8000

theorem ppV_form (l : Bs) : ∃ a b : Int, ppV l = .tuple #[.int .i8 a, .int .i64 b] := by
  unfold ppV
  split
  · exact ⟨_, _, rfl⟩
  · split
    · exact ⟨_, _, rfl⟩
    · exact ⟨_, _, rfl⟩

/-- A number's text, and what that text reads as. -/
theorem permV_form (p : Int) : ∃ (f : ByteArray) (e a b : Int), permV p = .tuple #[.string f, .int .i64 e] ∧ ppV f.data.toList = .tuple #[.int .i8 a, .int .i64 b] ∧ (e = 0 ∧ a = p ∧ b = 0 ∨ e = 60) := by
  unfold permV
  by_cases h : p < 0 ∨ 31 < p
  · rw [if_pos h]
    exact ⟨_, _, 0, 60, rfl, none_back, .inr rfl⟩
  · rw [if_neg h]
    obtain ⟨n, rfl, hn⟩ : ∃ n : Nat, p = (n : Int) ∧ n < 32 := ⟨p.toNat, by omega, by omega⟩
    exact ⟨_, _, n, 0, rfl, back_all hn, .inl ⟨rfl, rfl, rfl⟩⟩

set_option maxHeartbeats 2000000 in
theorem perms_walk (p : Int) (s : ByteArray) (w : World) (hL : Ltr w) :
    Calls Tryd.prog 4 #[.int .i8 p, .string s] w fun e w' => e = .returned (.bool true) ∧ Below w.heap.size w w' := by
  by_cases hs : 2147483647 < s.size
  · have d0 : decide (2147483647 < (s.size : Int)) = true := by simp; omega
    clear hL
    go_enter Tryd.func4, Tryd.ntmps4
    go_wp2
    go_ret
    exact ⟨rfl, Below.refl _ _⟩
  have d0 : decide (2147483647 < (s.size : Int)) = false := by simp; omega
  have HP : Hid (∀ V, Ltr V → Calls Tryd.prog 9 #[.int .i8 p] V fun e w' => e = .returned (permV p) ∧ Below V.heap.size V w') := fun V hV => aclPerms_any p V hV
  have HQ : Hid (∀ V, Calls Tryd.prog 10 #[.int .i8 p] V fun e w' => e = .returned (permV p) ∧ w' = V) := fun V => perms_any p V
  have HR : Hid (∀ V, Calls Tryd.prog 12 #[.string s] V fun e w' => e = .returned (ppV s.data.toList) ∧ Below V.heap.size V w') := fun V => (refParse_any s V (by omega)).mono (fun e w' hh => ⟨by rw [hh.1, parse_same], by obtain ⟨m, hm⟩ := hh.2; rw [hm]; exact below_drewN (Below.refl _ _) _⟩)
  have HS : Hid (∀ V, Ltr V → Calls Tryd.prog 11 #[.string s] V fun e w' => e = .returned (ppV s.data.toList) ∧ Below V.heap.size V w') := fun V hV => parse_any s V hV
  obtain ⟨f, er, a, b, h1, h2, h3⟩ := permV_form p
  obtain ⟨c, d, h4⟩ := ppV_form s.data.toList
  have HT : Hid (∀ V, Ltr V → Calls Tryd.prog 11 #[.string f] V fun e w' => e = .returned (.tuple #[.int .i8 a, .int .i64 b]) ∧ Below V.heap.size V w') := fun V hV => by rw [← h2]; exact parse_any f V hV
  rw [h1] at HP HQ
  rw [h4] at HR HS
  have HL : Hid (Ltr w) := hL
  clear hL h1 h2 h4
  have e1 : (f.toList != f.toList) = false := by simp
  have e2 : (er != er) = false := by simp
  have e3 : (c != c) = false := by simp
  have e4 : (d != d) = false := by simp
  go_enter Tryd.func4, Tryd.ntmps4
  go_wp2_with fail
  go_at_call 9
  refine (HP.out _ HL.out).mono ?_
  rintro e w1 ⟨rfl, hB⟩
  have H1 : Hid (Below w.heap.size w w1) := hB
  clear hB
  go_wp2_with fail
  go_at_call 10
  refine (HQ.out _).mono ?_
  rintro e w2 ⟨rfl, rfl⟩
  go_wp2_with fail
  go_at_call 11
  refine (HS.out _ (HL.out.below H1.out)).mono ?_
  rintro e w3 ⟨rfl, hB⟩
  have H3 : Hid (Below w.heap.size w w3) := H1.out.trans (hB.mono H1.out.size)
  clear hB H1
  go_wp2_with fail
  go_at_call 12
  refine (HR.out _).mono ?_
  rintro e w4 ⟨rfl, hB⟩
  have H4 : Hid (Below w.heap.size w w4) := H3.out.trans (hB.mono H3.out.size)
  clear hB H3
  go_wp2_with fail
  go_at_call 8
  refine (lives6_yes _).mono ?_
  rintro e w5 ⟨rfl, hB⟩
  have H5 : Hid (Below w.heap.size w w5) := H4.out.trans (hB.mono H4.out.size)
  clear hB H4
  go_wp2_with fail
  go_at_call 11
  refine (HT.out _ (HL.out.below H5.out)).mono ?_
  rintro e w6 ⟨rfl, hB⟩
  have H6 : Hid (Below w.heap.size w w6) := H5.out.trans (hB.mono H5.out.size)
  clear hB H5
  rcases h3 with ⟨rfl, rfl, rfl⟩ | rfl
  · have e5 : (a == a) = true := by simp
    go_wp2
    go_ret
    exact ⟨rfl, H6.out⟩
  · go_wp2
    go_ret
    exact ⟨rfl, H6.out⟩

end Go.Proofs.YtadidhgaeegokaaDoor
