/- The law's get, and where what is left and what is answered lies. -/
import Derived.Test.YtblgipjipeaemaaGreatDoorRzBJ
import Derived.Test.YtblgipjipeaemaaGreatDoorOneJ
import Derived.Test.YtblgipjipeaemaaGreatDoorGaAJ
namespace Go.Proofs.YtblgipjipeaemaaGreatDoor
open Go.RowKit
set_option maxRecDepth 8000
namespace Rz

/-- Behind a Reader's call inside get: the block of the answer stands. -/
theorem told_kept {w w1 : World} {o : Obj} {g : Nat} {v : Value} {s : Rd} {xs : List Int} {f : Int} (h : IsR w g v xs f) (hp : ReadsTo ((w.alloc o).alloc told0) g v s w1) : w1.heap[w.heap.size + 1]? = some told0 := by
  obtain ⟨v', _, _, h3⟩ := hp
  have hn := heap_alloc_new (w.alloc o) told0
  have e : (w.alloc o).heap.size = w.heap.size + 1 := by simp
  rw [e] at hn
  exact h3.heap hn (fun hs => by have := lt_of_block h.1; omega)

theorem ReadsTo.told {w w1 : World} {o o' : Obj} {g : Nat} {v : Value} {s : Rd} (h : ReadsTo ((w.alloc o).alloc o') g v s w1) (hg : g < w.heap.size) (hbox : w1.heap[w.heap.size + 1]? = some told0) (c0 c1 c2 c3 c4 c5 c6 : Value) :
    ReadsTo w g v s (((((((w1.setCell ⟨w.heap.size + 1, 0, none⟩ c0).setCell ⟨w.heap.size + 1, 1, none⟩ c1).setCell ⟨w.heap.size + 1, 2, none⟩ c2).setCell ⟨w.heap.size + 1, 3, none⟩ c3).setCell ⟨w.heap.size + 1, 4, none⟩ c4).setCell ⟨w.heap.size + 1, 5, none⟩ c5).setCell ⟨w.heap.size + 1, 6, none⟩ c6) := by
  obtain ⟨v', h1, h2, h3⟩ := h
  have hK : ∀ w0 : World, ∀ S : Nat → Prop, Kept w0 w1 S → (w.heap.size + 1 < w0.heap.size → S (w.heap.size + 1)) → Kept w0 (((((((w1.setCell ⟨w.heap.size + 1, 0, none⟩ c0).setCell ⟨w.heap.size + 1, 1, none⟩ c1).setCell ⟨w.heap.size + 1, 2, none⟩ c2).setCell ⟨w.heap.size + 1, 3, none⟩ c3).setCell ⟨w.heap.size + 1, 4, none⟩ c4).setCell ⟨w.heap.size + 1, 5, none⟩ c5).setCell ⟨w.heap.size + 1, 6, none⟩ c6) S := fun w0 S hk hs =>
    ((((((hk.setCell _ c0 hs).setCell _ c1 hs).setCell _ c2 hs).setCell _ c3 hs).setCell _ c4 hs).setCell _ c5 hs).setCell _ c6 hs
  refine ⟨v', h1.kept' (hK w1 (fun k => k = w.heap.size + 1) (Kept.refl _ _) (fun _ => rfl)) (by omega) (fun hx k hk e => ?_), h2, hK w _ ?_ (by omega)⟩
  · exact told0_apart hbox h1.2 hx (by rw [hk, e])
  · exact (((Kept.refl w _).alloc o).alloc o').trans h3 (fun _ _ e => e)

theorem Cut.told {w1 : World} {v u : Value} {ys rest : List Int} {b : Nat} (h : Cut w1 v u ys rest) (hbox : w1.heap[b]? = some told0) (c0 c1 c2 c3 c4 c5 c6 : Value) :
    Cut (((((((w1.setCell ⟨b, 0, none⟩ c0).setCell ⟨b, 1, none⟩ c1).setCell ⟨b, 2, none⟩ c2).setCell ⟨b, 3, none⟩ c3).setCell ⟨b, 4, none⟩ c4).setCell ⟨b, 5, none⟩ c5).setCell ⟨b, 6, none⟩ c6) v u ys rest := by
  refine ⟨?_, h.2⟩
  have hs : b < w1.heap.size → (fun k => k = b) b := fun _ => rfl
  refine h.1.kept' (S := fun k => k = b) (((((((((Kept.refl w1 (fun k => k = b)).setCell ⟨b, 0, none⟩ c0 hs).setCell ⟨b, 1, none⟩ c1 hs).setCell ⟨b, 2, none⟩ c2 hs).setCell ⟨b, 3, none⟩ c3 hs).setCell ⟨b, 4, none⟩ c4 hs).setCell ⟨b, 5, none⟩ c5 hs).setCell ⟨b, 6, none⟩ c6 hs)) (fun hx k hk e => ?_)
  exact told0_apart hbox h.1 hx (by rw [hk, e])

section
variable (g : Nat) (v : Value) (xs : List Int) (f on n : Int) (x : Nat) (s : ByteArray) (ao : Option Addr) (l cap : Nat) (w : World)

set_option maxHeartbeats 400000 in
theorem get_bool (h : IsR w g v xs f) (hb : Byts xs) :
    Calls Tryz.prog 19 #[.pointer (some ⟨g, 0, none⟩), opv 1 on n x s (.slice ao l cap)] w fun e w' => e = .returned (.agg (told ((rdBool xs f).out == 1) 0 0 ⟨#[]⟩ (.slice none 0 0) 0 0)) ∧ ReadsTo w g v (rdBool xs f) w' := by
  have hsf := store_float
  have H : Hid (IsR w g v xs f ∧ Byts xs) := ⟨h, hb⟩
  clear h hb
  go_enter Tryz.func19, Tryz.ntmps19
  go_wp2_with fail
  refine (rBool_any g v xs f _ ((H.out.1.alloc _).alloc _) H.out.2).mono ?_
  rintro e w1 ⟨rfl, hp⟩
  have hbox := told_kept H.out.1 hp
  obtain ⟨k0, k1, k2, k3, k4, k5, k6, kf⟩ := row7 hbox
  have HP : Hid (ReadsTo ((w.alloc (opc 1 on n x s (.slice ao l cap))).alloc told0) g v (rdBool xs f) w1) := hp
  clear hp
  go_wp2
  exact got _ _ _ _ _ _ _ hbox rfl rfl ⟨rfl, HP.out.told (lt_of_block H.out.1.1) hbox _ _ _ _ _ _ _⟩

set_option maxHeartbeats 400000 in
theorem get_int8 (h : IsR w g v xs f) (hb : Byts xs) :
    Calls Tryz.prog 19 #[.pointer (some ⟨g, 0, none⟩), opv 2 on n x s (.slice ao l cap)] w fun e w' => e = .returned (.agg (told false (IntKind.i8.wrap (rdNum 1 xs f).out) 0 ⟨#[]⟩ (.slice none 0 0) 0 0)) ∧ ReadsTo w g v (rdNum 1 xs f) w' := by
  have hsf := store_float
  have H : Hid (IsR w g v xs f ∧ Byts xs) := ⟨h, hb⟩
  clear h hb
  have hid := i8_64 (rdNum 1 xs f).out
  go_enter Tryz.func19, Tryz.ntmps19
  go_wp2_with fail
  refine (rInt8_any g v xs f _ ((H.out.1.alloc _).alloc _) H.out.2).mono ?_
  rintro e w1 ⟨rfl, hp⟩
  have hbox := told_kept H.out.1 hp
  obtain ⟨k0, k1, k2, k3, k4, k5, k6, kf⟩ := row7 hbox
  have HP : Hid (ReadsTo ((w.alloc (opc 2 on n x s (.slice ao l cap))).alloc told0) g v (rdNum 1 xs f) w1) := hp
  clear hp
  go_wp2
  exact got _ _ _ _ _ _ _ hbox rfl rfl ⟨rfl, HP.out.told (lt_of_block H.out.1.1) hbox _ _ _ _ _ _ _⟩

set_option maxHeartbeats 400000 in
theorem get_int32 (h : IsR w g v xs f) (hb : Byts xs) :
    Calls Tryz.prog 19 #[.pointer (some ⟨g, 0, none⟩), opv 3 on n x s (.slice ao l cap)] w fun e w' => e = .returned (.agg (told false (down32 (rdNum 4 xs f).out) 0 ⟨#[]⟩ (.slice none 0 0) 0 0)) ∧ ReadsTo w g v (rdNum 4 xs f) w' := by
  have hsf := store_float
  have H : Hid (IsR w g v xs f ∧ Byts xs) := ⟨h, hb⟩
  clear h hb
  have hid := d32_64 (rdNum 4 xs f).out
  go_enter Tryz.func19, Tryz.ntmps19
  go_wp2_with fail
  refine (rInt32_any g v xs f _ ((H.out.1.alloc _).alloc _) H.out.2).mono ?_
  rintro e w1 ⟨rfl, hp⟩
  have hbox := told_kept H.out.1 hp
  obtain ⟨k0, k1, k2, k3, k4, k5, k6, kf⟩ := row7 hbox
  have HP : Hid (ReadsTo ((w.alloc (opc 3 on n x s (.slice ao l cap))).alloc told0) g v (rdNum 4 xs f) w1) := hp
  clear hp
  go_wp2
  exact got _ _ _ _ _ _ _ hbox rfl rfl ⟨rfl, HP.out.told (lt_of_block H.out.1.1) hbox _ _ _ _ _ _ _⟩

set_option maxHeartbeats 400000 in
theorem get_uint32 (h : IsR w g v xs f) (hb : Byts xs) :
    Calls Tryz.prog 19 #[.pointer (some ⟨g, 0, none⟩), opv 4 on n x s (.slice ao l cap)] w fun e w' => e = .returned (.agg (told false (rdNum 4 xs f).out 0 ⟨#[]⟩ (.slice none 0 0) 0 0)) ∧ ReadsTo w g v (rdNum 4 xs f) w' := by
  have hsf := store_float
  have H : Hid (IsR w g v xs f ∧ Byts xs) := ⟨h, hb⟩
  clear h hb
  have hid : wrap64 (rdNum 4 xs f).out = (rdNum 4 xs f).out := by
    have := rdNum_bd 4 xs f H.out.2
    have h4 : (256 : Int) ^ 4 = 4294967296 := by decide
    rw [h4] at this
    exact wrap64_id (by omega) (by omega)
  go_enter Tryz.func19, Tryz.ntmps19
  go_wp2_with fail
  refine (rUint32_any g v xs f _ ((H.out.1.alloc _).alloc _) H.out.2).mono ?_
  rintro e w1 ⟨rfl, hp⟩
  have hbox := told_kept H.out.1 hp
  obtain ⟨k0, k1, k2, k3, k4, k5, k6, kf⟩ := row7 hbox
  have HP : Hid (ReadsTo ((w.alloc (opc 4 on n x s (.slice ao l cap))).alloc told0) g v (rdNum 4 xs f) w1) := hp
  clear hp
  go_wp2
  exact got _ _ _ _ _ _ _ hbox rfl rfl ⟨rfl, HP.out.told (lt_of_block H.out.1.1) hbox _ _ _ _ _ _ _⟩

set_option maxHeartbeats 400000 in
theorem get_int64 (h : IsR w g v xs f) (hb : Byts xs) :
    Calls Tryz.prog 19 #[.pointer (some ⟨g, 0, none⟩), opv 5 on n x s (.slice ao l cap)] w fun e w' => e = .returned (.agg (told false (wrap64 (rdNum 8 xs f).out) 0 ⟨#[]⟩ (.slice none 0 0) 0 0)) ∧ ReadsTo w g v (rdNum 8 xs f) w' := by
  have hsf := store_float
  have H : Hid (IsR w g v xs f ∧ Byts xs) := ⟨h, hb⟩
  clear h hb
  go_enter Tryz.func19, Tryz.ntmps19
  go_wp2_with fail
  refine (rInt64_any g v xs f _ ((H.out.1.alloc _).alloc _) H.out.2).mono ?_
  rintro e w1 ⟨rfl, hp⟩
  have hbox := told_kept H.out.1 hp
  obtain ⟨k0, k1, k2, k3, k4, k5, k6, kf⟩ := row7 hbox
  have HP : Hid (ReadsTo ((w.alloc (opc 5 on n x s (.slice ao l cap))).alloc told0) g v (rdNum 8 xs f) w1) := hp
  clear hp
  go_wp2
  exact got _ _ _ _ _ _ _ hbox rfl rfl ⟨rfl, HP.out.told (lt_of_block H.out.1.1) hbox _ _ _ _ _ _ _⟩

set_option maxHeartbeats 400000 in
theorem get_float (h : IsR w g v xs f) (hb : Byts xs) :
    Calls Tryz.prog 19 #[.pointer (some ⟨g, 0, none⟩), opv 6 on n x s (.slice ao l cap)] w fun e w' => e = .returned (.agg (told false 0 (rdFloat xs f).out.toNat ⟨#[]⟩ (.slice none 0 0) 0 0)) ∧ ReadsTo w g v (rdFloat xs f) w' := by
  have hsf := store_float
  have H : Hid (IsR w g v xs f ∧ Byts xs) := ⟨h, hb⟩
  clear h hb
  go_enter Tryz.func19, Tryz.ntmps19
  go_wp2_with fail
  refine (rFloat_any g v xs f _ ((H.out.1.alloc _).alloc _) H.out.2).mono ?_
  rintro e w1 ⟨rfl, hp⟩
  have hbox := told_kept H.out.1 hp
  obtain ⟨k0, k1, k2, k3, k4, k5, k6, kf⟩ := row7 hbox
  have HP : Hid (ReadsTo ((w.alloc (opc 6 on n x s (.slice ao l cap))).alloc told0) g v (rdFloat xs f) w1) := hp
  clear hp
  go_wp2
  exact got _ _ _ _ _ _ _ hbox rfl rfl ⟨rfl, HP.out.told (lt_of_block H.out.1.1) hbox _ _ _ _ _ _ _⟩

set_option maxHeartbeats 400000 in
theorem get_text (h : IsR w g v xs f) (hb : Byts xs) :
    Calls Tryz.prog 19 #[.pointer (some ⟨g, 0, none⟩), opv 7 on n x s (.slice ao l cap)] w fun e w' => e = .returned (.agg (told false 0 0 (strOfNums (rdBuf n xs f).1) (.slice none 0 0) 0 0)) ∧ ReadsTo w g v ((rdBuf n xs f).2) w' := by
  have hsf := store_float
  have H : Hid (IsR w g v xs f ∧ Byts xs) := ⟨h, hb⟩
  clear h hb
  go_enter Tryz.func19, Tryz.ntmps19
  go_wp2_with fail
  refine (bound_any n _).mono ?_
  rintro e w0 ⟨rfl, rfl⟩
  go_wp2_with fail
  refine (rText_any g v xs f _ n ((H.out.1.alloc _).alloc _) H.out.2).mono ?_
  rintro e w1 ⟨rfl, hp⟩
  have hbox := told_kept H.out.1 hp
  obtain ⟨k0, k1, k2, k3, k4, k5, k6, kf⟩ := row7 hbox
  have HP : Hid (ReadsTo ((w.alloc (opc 7 on n x s (.slice ao l cap))).alloc told0) g v ((rdBuf n xs f).2) w1) := hp
  clear hp
  go_wp2
  exact got _ _ _ _ _ _ _ hbox rfl rfl ⟨rfl, HP.out.told (lt_of_block H.out.1.1) hbox _ _ _ _ _ _ _⟩

set_option maxHeartbeats 400000 in
theorem get_buffer (h : IsR w g v xs f) (hb : Byts xs) :
    Calls Tryz.prog 19 #[.pointer (some ⟨g, 0, none⟩), opv 8 on n x s (.slice ao l cap)] w fun e w' => ∃ u, e = .returned (.agg (told false 0 0 ⟨#[]⟩ u 0 0)) ∧ Cut w' v u (rdBuf n xs f).1 (rdBuf n xs f).2.rest ∧ ReadsTo w g v (rdBuf n xs f).2 w' := by
  have hsf := store_float
  have H : Hid (IsR w g v xs f ∧ Byts xs) := ⟨h, hb⟩
  clear h hb
  go_enter Tryz.func19, Tryz.ntmps19
  go_wp2_with fail
  refine (bound_any n _).mono ?_
  rintro e w0 ⟨rfl, rfl⟩
  go_wp2_with fail
  refine (rBuffer_any g v xs f _ n ((H.out.1.alloc _).alloc _) H.out.2).mono ?_
  rintro e w1 ⟨u, rfl, hc, hp⟩
  have hbox := told_kept H.out.1 hp
  obtain ⟨k0, k1, k2, k3, k4, k5, k6, kf⟩ := row7 hbox
  obtain ⟨ua, hu⟩ := hc.2.1
  generalize hq : (rdBuf n xs f).1.length = q at hu
  subst hu
  have HP : Hid (Cut w1 v (.slice ua q q) (rdBuf n xs f).1 (rdBuf n xs f).2.rest ∧ ReadsTo ((w.alloc (opc 8 on n x s (.slice ao l cap))).alloc told0) g v (rdBuf n xs f).2 w1) := ⟨hc, hp⟩
  clear hp hc hq
  go_wp2
  exact got _ _ _ _ _ _ _ hbox rfl rfl ⟨_, rfl, HP.out.1.told hbox _ _ _ _ _ _ _, HP.out.2.told (lt_of_block H.out.1.1) hbox _ _ _ _ _ _ _⟩

set_option maxHeartbeats 400000 in
theorem get_raw (h : IsR w g v xs f) (hb : Byts xs) :
    Calls Tryz.prog 19 #[.pointer (some ⟨g, 0, none⟩), opv 9 on n x s (.slice ao l cap)] w fun e w' => ∃ u, e = .returned (.agg (told false 0 0 ⟨#[]⟩ u 0 0)) ∧ Cut w' v u (rdRaw n xs f).1 (rdRaw n xs f).2.rest ∧ ReadsTo w g v (rdRaw n xs f).2 w' := by
  have hsf := store_float
  have H : Hid (IsR w g v xs f ∧ Byts xs) := ⟨h, hb⟩
  clear h hb
  go_enter Tryz.func19, Tryz.ntmps19
  go_wp2_with fail
  refine (bound_any n _).mono ?_
  rintro e w0 ⟨rfl, rfl⟩
  go_wp2_with fail
  refine (rRaw_any g v xs f _ n ((H.out.1.alloc _).alloc _)).mono ?_
  rintro e w1 ⟨u, rfl, hc, hp⟩
  have hbox := told_kept H.out.1 hp
  obtain ⟨k0, k1, k2, k3, k4, k5, k6, kf⟩ := row7 hbox
  obtain ⟨ua, hu⟩ := hc.2.1
  generalize hq : (rdRaw n xs f).1.length = q at hu
  subst hu
  have HP : Hid (Cut w1 v (.slice ua q q) (rdRaw n xs f).1 (rdRaw n xs f).2.rest ∧ ReadsTo ((w.alloc (opc 9 on n x s (.slice ao l cap))).alloc told0) g v (rdRaw n xs f).2 w1) := ⟨hc, hp⟩
  clear hp hc hq
  go_wp2
  exact got _ _ _ _ _ _ _ hbox rfl rfl ⟨_, rfl, HP.out.1.told hbox _ _ _ _ _ _ _, HP.out.2.told (lt_of_block H.out.1.1) hbox _ _ _ _ _ _ _⟩

set_option maxHeartbeats 1000000 in
theorem get_ask (h : IsR w g v xs f) :
    Calls Tryz.prog 19 #[.pointer (some ⟨g, 0, none⟩), opv 10 on n x s (.slice ao l cap)] w fun e w' => e = .returned (.agg (told false xs.length 0 ⟨#[]⟩ (.slice none 0 0) f (if f ≠ 0 then f else if xs = [] then 0 else 13))) ∧ ReadsTo w g v ⟨0, xs, f⟩ w' := by
  have hsf := store_float
  have H : Hid (IsR w g v xs f) := h
  have hid : wrap64 (xs.length : Int) = xs.length := by
    obtain ⟨_, _, _, q1, q2, _⟩ := h.2
    unfold maxLen at q2
    exact wrap64_id (by omega) (by omega)
  clear h
  obtain ⟨E0, hE0⟩ : ∃ E0 : Int, E0 = (if f ≠ 0 then f else if xs = [] then 0 else 13) := ⟨_, rfl⟩
  have HE : Hid _ := hE0
  rw [← hE0]
  clear hE0
  go_enter Tryz.func19, Tryz.ntmps19
  go_wp2_with fail
  refine (rLeft_any g v xs f _ ((H.out.alloc _).alloc _)).mono ?_
  rintro e w1 ⟨rfl, hw1⟩
  have hp : ReadsTo ((w.alloc (opc 10 on n x s (.slice ao l cap))).alloc told0) g v ⟨0, xs, f⟩ w1 := by rw [hw1]; exact ReadsTo.stay ((H.out.alloc _).alloc _)
  have h1 : IsR w1 g v xs f := by rw [hw1]; exact (H.out.alloc _).alloc _
  have hbox := told_kept H.out hp
  obtain ⟨k0, k1, k2, k3, k4, k5, k6, kf⟩ := row7 hbox
  have HP : Hid (ReadsTo ((w.alloc (opc 10 on n x s (.slice ao l cap))).alloc told0) g v ⟨0, xs, f⟩ w1 ∧ IsR w1 g v xs f) := ⟨hp, h1⟩
  clear hp h1 hw1
  go_wp2_with fail
  refine (rErr_any g v xs f _ HP.out.2).mono ?_
  rintro e w2 ⟨rfl, rfl⟩
  go_wp2_with fail
  have hend := rEnd_any g v xs f _ HP.out.2
  rw [← HE.out] at hend
  refine hend.mono ?_
  rintro e w3 ⟨rfl, rfl⟩
  clear hend
  go_wp2
  exact got _ _ _ _ _ _ _ hbox rfl rfl ⟨rfl, HP.out.1.told (lt_of_block H.out.1) hbox _ _ _ _ _ _ _⟩

set_option maxHeartbeats 1000000 in
theorem get_fail (h : IsR w g v xs f) :
    Calls Tryz.prog 19 #[.pointer (some ⟨g, 0, none⟩), opv 11 on n x s (.slice ao l cap)] w fun e w' => e = .returned (.agg (told false 0 0 ⟨#[]⟩ (.slice none 0 0) 0 0)) ∧ ReadsTo w g v ⟨0, xs, if f = 0 then n else f⟩ w' := by
  have hsf := store_float
  have H : Hid (IsR w g v xs f) := h
  clear h
  obtain ⟨F, hF⟩ : ∃ F : Int, F = (if f = 0 then n else f) := ⟨_, rfl⟩
  rw [← hF]
  have HF : Hid _ := hF
  clear hF
  go_enter Tryz.func19, Tryz.ntmps19
  go_wp2_with fail
  have hfl := rFail_any g v xs f ((w.alloc (opc 11 on n x s (.slice ao l cap))).alloc told0) n ((H.out.alloc _).alloc _)
  rw [← HF.out] at hfl
  refine hfl.mono ?_
  clear hfl
  rintro e w1 ⟨rfl, hp⟩
  have hbox := told_kept H.out hp
  obtain ⟨k0, k1, k2, k3, k4, k5, k6, kf⟩ := row7 hbox
  have HP : Hid (ReadsTo ((w.alloc (opc 11 on n x s (.slice ao l cap))).alloc told0) g v ⟨0, xs, F⟩ w1) := hp
  clear hp
  go_wp2
  exact got _ _ _ _ _ _ _ hbox rfl rfl ⟨rfl, HP.out.told (lt_of_block H.out.1) hbox _ _ _ _ _ _ _⟩

set_option maxHeartbeats 1000000 in
theorem get_else (kind : Int) (hk : kind < 1 ∨ 11 < kind) (h : IsR w g v xs f) :
    Calls Tryz.prog 19 #[.pointer (some ⟨g, 0, none⟩), opv kind on n x s (.slice ao l cap)] w fun e w' => e = .returned (.agg (told false 0 0 ⟨#[]⟩ (.slice none 0 0) 0 0)) ∧ ReadsTo w g v ⟨0, xs, f⟩ w' := by
  have hsf := store_float
  have H : Hid (IsR w g v xs f) := h
  clear h
  have n1 : (kind == 1) = false := by rw [beq_eq_false_iff_ne]; omega
  have n2 : (kind == 2) = false := by rw [beq_eq_false_iff_ne]; omega
  have n3 : (kind == 3) = false := by rw [beq_eq_false_iff_ne]; omega
  have n4 : (kind == 4) = false := by rw [beq_eq_false_iff_ne]; omega
  have n5 : (kind == 5) = false := by rw [beq_eq_false_iff_ne]; omega
  have n6 : (kind == 6) = false := by rw [beq_eq_false_iff_ne]; omega
  have n7 : (kind == 7) = false := by rw [beq_eq_false_iff_ne]; omega
  have n8 : (kind == 8) = false := by rw [beq_eq_false_iff_ne]; omega
  have n9 : (kind == 9) = false := by rw [beq_eq_false_iff_ne]; omega
  have n10 : (kind == 10) = false := by rw [beq_eq_false_iff_ne]; omega
  have n11 : (kind == 11) = false := by rw [beq_eq_false_iff_ne]; omega
  obtain ⟨V, eV⟩ : ∃ V, V = ((w.alloc (opc kind on n x s (.slice ao l cap))).alloc told0) := ⟨_, rfl⟩
  have hp : ReadsTo ((w.alloc (opc kind on n x s (.slice ao l cap))).alloc told0) g v ⟨0, xs, f⟩ V := by rw [eV]; exact ReadsTo.stay ((H.out.alloc _).alloc _)
  have hbox := told_kept H.out hp
  obtain ⟨k0, k1, k2, k3, k4, k5, k6, kf⟩ := row7 hbox
  have HP : Hid (ReadsTo ((w.alloc (opc kind on n x s (.slice ao l cap))).alloc told0) g v ⟨0, xs, f⟩ V) := hp
  have HE : Hid _ := eV
  clear hp hk eV
  go_enter Tryz.func19, Tryz.ntmps19
  go_upto_region 26 with fail
  rw [← HE.out]
  clear HE
  go_wp2
  exact got _ _ _ _ _ _ _ hbox rfl rfl ⟨rfl, HP.out.told (lt_of_block H.out.1) hbox _ _ _ _ _ _ _⟩
end

theorem get_any (kind : Int) (hk0 : 1 ≤ kind) (hk1 : kind ≤ 9) (g : Nat) (v : Value) (xs : List Int) (f on n : Int) (x : Nat) (s : ByteArray) (ao : Option Addr) (l cap : Nat) (w : World) (h : IsR w g v xs f) (hb : Byts xs) :
    Calls Tryz.prog 19 #[.pointer (some ⟨g, 0, none⟩), opv kind on n x s (.slice ao l cap)] w fun e w' =>
      ∃ u, e = .returned (.agg (told (ansOf kind n xs f).b (ansOf kind n xs f).n (ansOf kind n xs f).x (ansOf kind n xs f).s u 0 0)) ∧ Cut w' v u (ansOf kind n xs f).ys (ansOf kind n xs f).st.rest ∧ ReadsTo w g v (ansOf kind n xs f).st w' := by
  have hc : kind = 1 ∨ kind = 2 ∨ kind = 3 ∨ kind = 4 ∨ kind = 5 ∨ kind = 6 ∨ kind = 7 ∨ kind = 8 ∨ kind = 9 := by omega
  rcases hc with rfl | rfl | rfl | rfl | rfl | rfl | rfl | rfl | rfl
  · exact (get_bool g v xs f on n x s ao l cap w h hb).mono fun e w' q => ⟨_, q.1, cut_nil _ _ _, q.2⟩
  · exact (get_int8 g v xs f on n x s ao l cap w h hb).mono fun e w' q => ⟨_, q.1, cut_nil _ _ _, q.2⟩
  · exact (get_int32 g v xs f on n x s ao l cap w h hb).mono fun e w' q => ⟨_, q.1, cut_nil _ _ _, q.2⟩
  · exact (get_uint32 g v xs f on n x s ao l cap w h hb).mono fun e w' q => ⟨_, q.1, cut_nil _ _ _, q.2⟩
  · exact (get_int64 g v xs f on n x s ao l cap w h hb).mono fun e w' q => ⟨_, q.1, cut_nil _ _ _, q.2⟩
  · exact (get_float g v xs f on n x s ao l cap w h hb).mono fun e w' q => ⟨_, q.1, cut_nil _ _ _, q.2⟩
  · exact (get_text g v xs f on n x s ao l cap w h hb).mono fun e w' q => ⟨_, q.1, cut_nil _ _ _, q.2⟩
  · exact get_buffer g v xs f on n x s ao l cap w h hb
  · exact get_raw g v xs f on n x s ao l cap w h hb
end Rz
end Go.Proofs.YtblgipjipeaemaaGreatDoor
