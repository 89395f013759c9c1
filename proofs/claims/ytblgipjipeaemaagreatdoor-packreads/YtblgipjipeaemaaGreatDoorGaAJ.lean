/- get and should of the statements: Fail, and a kind that is none; get's asking. -/
import Derived.Test.YtblgipjipeaemaaGreatDoorShAJ
import Derived.Deep.RegionHeld
namespace Go.Proofs.YtblgipjipeaemaaGreatDoor
open Go.RowKit
set_option maxRecDepth 8000

section
variable (g : Nat) (v : Value) (xs : List Int) (f on n : Int) (x : Nat) (s : ByteArray) (ao : Option Addr) (l cap : Nat) (w : World)

set_option maxHeartbeats 1000000 in
theorem get_ask (h : IsR w g v xs f) :
    Calls Tryz.prog 19 #[.pointer (some ⟨g, 0, none⟩), opv 10 on n x s (.slice ao l cap)] w fun e w' => e = .returned (.agg (told false xs.length 0 ⟨#[]⟩ (.slice none 0 0) f (if f ≠ 0 then f else if xs = [] then 0 else 13))) ∧ ReadsTo w g v ⟨0, xs, f⟩ w' := by
  have hsf := store_float
  have H : Hid (IsR w g v xs f) := h
  have hid : wrap64 (xs.length : Int) = xs.length := by
    obtain ⟨_, _, _, q1, q2, _⟩ := h.2
    unfold maxLen at q2
    exact wrap64_id (by omega) (by omega)
  clear h
  obtain ⟨E0, hE0⟩ : ∃ E0 : Int, E0 = (if f ≠ 0 then f else if xs = [] then 0 else 13) := ⟨_, rfl⟩
  have HE : Hid _ := hE0
  rw [← hE0]
  clear hE0
  go_enter Tryz.func19, Tryz.ntmps19
  go_wp2_with fail
  refine (rLeft_any g v xs f _ ((H.out.alloc _).alloc _)).mono ?_
  rintro e w1 ⟨rfl, hw1⟩
  have hp : ReadsTo ((w.alloc (opc 10 on n x s (.slice ao l cap))).alloc told0) g v ⟨0, xs, f⟩ w1 := by rw [hw1]; exact ReadsTo.stay ((H.out.alloc _).alloc _)
  have h1 : IsR w1 g v xs f := by rw [hw1]; exact (H.out.alloc _).alloc _
  have hbox := told_kept H.out hp
  obtain ⟨k0, k1, k2, k3, k4, k5, k6, kf⟩ := row7 hbox
  have HP : Hid (ReadsTo ((w.alloc (opc 10 on n x s (.slice ao l cap))).alloc told0) g v ⟨0, xs, f⟩ w1 ∧ IsR w1 g v xs f) := ⟨hp, h1⟩
  clear hp h1 hw1
  go_wp2_with fail
  refine (rErr_any g v xs f _ HP.out.2).mono ?_
  rintro e w2 ⟨rfl, rfl⟩
  go_wp2_with fail
  have hend := rEnd_any g v xs f _ HP.out.2
  rw [← HE.out] at hend
  refine hend.mono ?_
  rintro e w3 ⟨rfl, rfl⟩
  clear hend
  go_wp2
  exact got _ _ _ _ _ _ _ hbox rfl rfl ⟨rfl, HP.out.1.told (lt_of_block H.out.1) hbox _ _ _ _ _ _ _⟩

set_option maxHeartbeats 1000000 in
theorem get_fail (h : IsR w g v xs f) :
    Calls Tryz.prog 19 #[.pointer (some ⟨g, 0, none⟩), opv 11 on n x s (.slice ao l cap)] w fun e w' => e = .returned (.agg (told false 0 0 ⟨#[]⟩ (.slice none 0 0) 0 0)) ∧ ReadsTo w g v ⟨0, xs, if f = 0 then n else f⟩ w' := by
  have hsf := store_float
  have H : Hid (IsR w g v xs f) := h
  clear h
  obtain ⟨F, hF⟩ : ∃ F : Int, F = (if f = 0 then n else f) := ⟨_, rfl⟩
  rw [← hF]
  have HF : Hid _ := hF
  clear hF
  go_enter Tryz.func19, Tryz.ntmps19
  go_wp2_with fail
  have hfl := rFail_any g v xs f ((w.alloc (opc 11 on n x s (.slice ao l cap))).alloc told0) n ((H.out.alloc _).alloc _)
  rw [← HF.out] at hfl
  refine hfl.mono ?_
  clear hfl
  rintro e w1 ⟨rfl, hp⟩
  have hbox := told_kept H.out hp
  obtain ⟨k0, k1, k2, k3, k4, k5, k6, kf⟩ := row7 hbox
  have HP : Hid (ReadsTo ((w.alloc (opc 11 on n x s (.slice ao l cap))).alloc told0) g v ⟨0, xs, F⟩ w1) := hp
  clear hp
  go_wp2
  exact got _ _ _ _ _ _ _ hbox rfl rfl ⟨rfl, HP.out.told (lt_of_block H.out.1) hbox _ _ _ _ _ _ _⟩

set_option maxHeartbeats 1000000 in
theorem get_else (kind : Int) (hk : kind < 1 ∨ 11 < kind) (h : IsR w g v xs f) :
    Calls Tryz.prog 19 #[.pointer (some ⟨g, 0, none⟩), opv kind on n x s (.slice ao l cap)] w fun e w' => e = .returned (.agg (told false 0 0 ⟨#[]⟩ (.slice none 0 0) 0 0)) ∧ ReadsTo w g v ⟨0, xs, f⟩ w' := by
  have hsf := store_float
  have H : Hid (IsR w g v xs f) := h
  clear h
  have n1 : (kind == 1) = false := by rw [beq_eq_false_iff_ne]; omega
  have n2 : (kind == 2) = false := by rw [beq_eq_false_iff_ne]; omega
  have n3 : (kind == 3) = false := by rw [beq_eq_false_iff_ne]; omega
  have n4 : (kind == 4) = false := by rw [beq_eq_false_iff_ne]; omega
  have n5 : (kind == 5) = false := by rw [beq_eq_false_iff_ne]; omega
  have n6 : (kind == 6) = false := by rw [beq_eq_false_iff_ne]; omega
  have n7 : (kind == 7) = false := by rw [beq_eq_false_iff_ne]; omega
  have n8 : (kind == 8) = false := by rw [beq_eq_false_iff_ne]; omega
  have n9 : (kind == 9) = false := by rw [beq_eq_false_iff_ne]; omega
  have n10 : (kind == 10) = false := by rw [beq_eq_false_iff_ne]; omega
  have n11 : (kind == 11) = false := by rw [beq_eq_false_iff_ne]; omega
  obtain ⟨V, eV⟩ : ∃ V, V = ((w.alloc (opc kind on n x s (.slice ao l cap))).alloc told0) := ⟨_, rfl⟩
  have hp : ReadsTo ((w.alloc (opc kind on n x s (.slice ao l cap))).alloc told0) g v ⟨0, xs, f⟩ V := by rw [eV]; exact ReadsTo.stay ((H.out.alloc _).alloc _)
  have hbox := told_kept H.out hp
  obtain ⟨k0, k1, k2, k3, k4, k5, k6, kf⟩ := row7 hbox
  have HP : Hid (ReadsTo ((w.alloc (opc kind on n x s (.slice ao l cap))).alloc told0) g v ⟨0, xs, f⟩ V) := hp
  have HE : Hid _ := eV
  clear hp hk eV
  go_enter Tryz.func19, Tryz.ntmps19
  go_upto_region 26 with fail
  rw [← HE.out]
  clear HE
  go_wp2
  exact got _ _ _ _ _ _ _ hbox rfl rfl ⟨rfl, HP.out.told (lt_of_block H.out.1) hbox _ _ _ _ _ _ _⟩
end

section
variable (g : Nat) (v : Value) (bs : List Int) (p : Nat) (f on n : Int) (x : Nat) (s : ByteArray) (ao : Option Addr) (l cap : Nat) (w : World)

set_option maxHeartbeats 1000000 in
theorem should_fail (h : IsQ w g v bs p f) :
    Calls Tryz.prog 20 #[.pointer (some ⟨g, 0, none⟩), opv 11 on n x s (.slice ao l cap)] w fun e w' => e = .returned (.agg (told false 0 0 ⟨#[]⟩ (.slice none 0 0) 0 0)) ∧ QTo w g v bs ⟨0, bs.drop p, if f = 0 then n else f⟩ w' := by
  have hsf := store_float
  have H : Hid (IsQ w g v bs p f) := h
  clear h
  obtain ⟨F, hF⟩ : ∃ F : Int, F = (if f = 0 then n else f) := ⟨_, rfl⟩
  rw [← hF]
  have HF : Hid _ := hF
  clear hF
  go_enter Tryz.func20, Tryz.ntmps20
  go_wp2_with fail
  have hfl := qFail_any g v bs p f ((w.alloc (opc 11 on n x s (.slice ao l cap))).alloc told0) n ((H.out.alloc _).alloc _)
  rw [← HF.out] at hfl
  refine hfl.mono ?_
  clear hfl
  rintro e w1 ⟨rfl, hp⟩
  have hbox := toldQ_kept H.out hp
  obtain ⟨k0, k1, k2, k3, k4, k5, k6, kf⟩ := row7 hbox
  have HP : Hid (QTo ((w.alloc (opc 11 on n x s (.slice ao l cap))).alloc told0) g v bs ⟨0, bs.drop p, F⟩ w1) := hp
  clear hp
  go_wp2
  exact gotQ _ _ _ _ _ _ _ hbox rfl rfl ⟨rfl, HP.out.told (lt_of_block H.out.1) hbox _ _ _ _ _ _ _⟩

set_option maxHeartbeats 1000000 in
theorem should_else (kind : Int) (hk : kind < 1 ∨ 11 < kind) (h : IsQ w g v bs p f) :
    Calls Tryz.prog 20 #[.pointer (some ⟨g, 0, none⟩), opv kind on n x s (.slice ao l cap)] w fun e w' => e = .returned (.agg (told false 0 0 ⟨#[]⟩ (.slice none 0 0) 0 0)) ∧ QTo w g v bs ⟨0, bs.drop p, f⟩ w' := by
  have hsf := store_float
  have H : Hid (IsQ w g v bs p f) := h
  clear h
  have n1 : (kind == 1) = false := by rw [beq_eq_false_iff_ne]; omega
  have n2 : (kind == 2) = false := by rw [beq_eq_false_iff_ne]; omega
  have n3 : (kind == 3) = false := by rw [beq_eq_false_iff_ne]; omega
  have n4 : (kind == 4) = false := by rw [beq_eq_false_iff_ne]; omega
  have n5 : (kind == 5) = false := by rw [beq_eq_false_iff_ne]; omega
  have n6 : (kind == 6) = false := by rw [beq_eq_false_iff_ne]; omega
  have n7 : (kind == 7) = false := by rw [beq_eq_false_iff_ne]; omega
  have n8 : (kind == 8) = false := by rw [beq_eq_false_iff_ne]; omega
  have n9 : (kind == 9) = false := by rw [beq_eq_false_iff_ne]; omega
  have n10 : (kind == 10) = false := by rw [beq_eq_false_iff_ne]; omega
  have n11 : (kind == 11) = false := by rw [beq_eq_false_iff_ne]; omega
  obtain ⟨V, eV⟩ : ∃ V, V = ((w.alloc (opc kind on n x s (.slice ao l cap))).alloc told0) := ⟨_, rfl⟩
  have hp : QTo ((w.alloc (opc kind on n x s (.slice ao l cap))).alloc told0) g v bs ⟨0, bs.drop p, f⟩ V := by rw [eV]; exact QTo.stay ((H.out.alloc _).alloc _) 0
  have hbox := toldQ_kept H.out hp
  obtain ⟨k0, k1, k2, k3, k4, k5, k6, kf⟩ := row7 hbox
  have HP : Hid (QTo ((w.alloc (opc kind on n x s (.slice ao l cap))).alloc told0) g v bs ⟨0, bs.drop p, f⟩ V) := hp
  have HE : Hid _ := eV
  clear hp hk eV
  go_enter Tryz.func20, Tryz.ntmps20
  go_upto_region 24 with fail
  rw [← HE.out]
  clear HE
  go_wp2
  exact gotQ _ _ _ _ _ _ _ hbox rfl rfl ⟨rfl, HP.out.told (lt_of_block H.out.1) hbox _ _ _ _ _ _ _⟩
end
end Go.Proofs.YtblgipjipeaemaaGreatDoor
