/- The law's lives of layer 20. -/
import Derived.Test.YtlnoighjdmjdeaaQuI
namespace Go.Proofs.Ytlnoighjdmjdeaa
open Go.RowKit Go.Shelf
set_option maxRecDepth 8000

abbrev sy3 : SyD := syD [1, 1, 1] [0, 0, 0]
theorem ok3 : NewOk [1, 1, 1] [0, 0, 0] := ⟨by decide, by decide, rfl, fun i hi => by
  have h3 : i < 3 := hi
  have : i = 0 ∨ i = 1 ∨ i = 2 := by omega
  rcases this with rfl | rfl | rfl <;> decide, ⟨0, by decide, by decide⟩⟩
theorem has3 : sy3.has (3 : Nat).testBit = true ∧ sy3.has (4 : Nat).testBit = false := by decide +kernel
abbrev ac3 : AcD := (ac0.put 0 1 5).put 2 1 3
theorem com3 : ac3.com sy3 3 = (true, 1, 3) := by decide +kernel
theorem ac3so : (ac0.put 0 1 5).so < 256 ∧ ac3.so < 256 := by decide +kernel

/-- Three numbers laid. -/
theorem sees3 (w : World) (x y z : Int) : SeesQ (w.alloc (.cells #[.int .i64 x, .int .i64 y, .int .i64 z] 3)) (.slice (some ⟨w.heap.size, 0, none⟩) 3 3) [x, y, z] := by
  refine ⟨some ⟨w.heap.size, 0, none⟩, 3, rfl, Nat.le_refl _, by unfold maxLen; omega, .inr ⟨w.heap.size, 0, rfl, fun i hi => ?_⟩⟩
  have hr := heap_alloc_new w (.cells #[.int .i64 x, .int .i64 y, .int .i64 z] 3)
  have h3 : i < 3 := hi
  have : i = 0 ∨ i = 1 ∨ i = 2 := by omega
  rcases this with rfl | rfl | rfl <;> exact cell_of_row _ _ _ _ _ _ hr

theorem lives20 (w : World) : Calls Try.prog 11 #[] w fun e w' => e = .returned (.bool true) ∧ Below w.heap.size w w' := by
  have hq := eqZx 1 3 1 3
  obtain ⟨W1, hW1⟩ : ∃ W1, W1 = (w.alloc (.cells #[.int .i64 1, .int .i64 1, .int .i64 1] 3)).alloc (.cells #[.int .i64 0, .int .i64 0, .int .i64 0] 3) := ⟨_, rfl⟩
  have hb1 : Below w.heap.size w W1 := by rw [hW1]; exact two_alloc w _ _
  have s1 : SeesQ W1 (.slice (some ⟨w.heap.size, 0, none⟩) 3 3) [1, 1, 1] := by rw [hW1]; exact (sees3 w 1 1 1).below (one_alloc _ _)
  have s2 : SeesQ W1 (.slice (some ⟨w.heap.size + 1, 0, none⟩) 3 3) [0, 0, 0] := by
    rw [hW1]
    have := sees3 (w.alloc (.cells #[.int .i64 1, .int .i64 1, .int .i64 1] 3)) 0 0 0
    rwa [World.size_alloc] at this
  have HC1 : Hid (Calls Try.prog 9 #[.slice (some ⟨w.heap.size, 0, none⟩) 3 3, .slice (some ⟨w.heap.size + 1, 0, none⟩) 3 3] W1 fun e w' => e = .returned (.tuple #[.pointer (some ⟨W1.heap.size, 0, none⟩), .int .i64 0]) ∧ IsSy w' W1.heap.size sy3 ∧ Below W1.heap.size W1 w') := new_good s1 s2 ok3
  have HB1 : Hid (Below w.heap.size w W1) := hb1
  have HW1 : Hid ((w.alloc (.cells #[.int .i64 1, .int .i64 1, .int .i64 1] 3)).alloc (.cells #[.int .i64 0, .int .i64 0, .int .i64 0] 3) = W1) := hW1.symm
  obtain ⟨s, hs⟩ : ∃ s, s = W1.heap.size := ⟨_, rfl⟩
  rw [← hs] at HC1
  have HSs : Hid (s = W1.heap.size) := hs
  clear hs s1 s2 hW1 hb1
  go_enter Try.func11, Try.ntmps11
  go_wp2_with fail
  rw [HW1.out]
  refine Calls.mono HC1.out ?_
  rintro e w2 ⟨rfl, hI2, hb2⟩
  have HI2 : Hid (IsSy w2 s sy3) := hI2
  have HB2 : Hid (Below w.heap.size w w2) := HB1.out.trans (hb2.mono (by rw [HSs.out]; exact HB1.out.size))
  clear hI2 hb2 HC1 HW1 HB1 HSs
  have HC2 : Hid (Calls Try.prog 12 #[.pointer (some ⟨s, 0, none⟩)] w2 fun e w' => e = .returned (.tuple #[.pointer (some ⟨w2.heap.size, 0, none⟩), .int .i64 0]) ∧ IsAc w' w2.heap.size s ac0 ∧ Below w2.heap.size w2 w') := newAcks_yes ok3.good HI2.out
  obtain ⟨p, hp⟩ : ∃ p, p = w2.heap.size := ⟨_, rfl⟩
  rw [← hp] at HC2
  have HP : Hid (p = w2.heap.size) := hp
  clear hp
  go_wp2_with fail
  refine Calls.mono HC2.out ?_
  rintro e w3 ⟨rfl, hA3, hb3⟩
  rw [HP.out] at hb3
  have HI3 : Hid (IsSy w3 s sy3) := HI2.out.below hb3 HI2.out.lt
  have HA3 : Hid (IsAc w3 p s ac0) := hA3
  have HL : Hid (s < p ∧ w.heap.size ≤ p) := ⟨by rw [HP.out]; exact HI2.out.lt, by rw [HP.out]; exact HB2.out.size⟩
  have HB3 : Hid (Below w.heap.size w w3) := HB2.out.trans (hb3.mono HB2.out.size)
  clear hA3 hb3 HC2 HI2 HB2 HP w2
  have HC3 : Hid (Calls Try.prog 20 #[.pointer (some ⟨p, 0, none⟩), .int .i8 0, zx 1 5] w3 fun r w' => r = .returned (.int .i64 0) ∧ IsAc w' p s (ac0.put 0 1 5) ∧ Kept w3 w' (fun k => k = p)) := put_yes (i := 0) ok3.good HI3.out HA3.out (by decide) (by decide) 1 5
  go_wp2_with fail
  refine Calls.mono HC3.out ?_
  rintro e w4 ⟨rfl, hA4, hk4⟩
  have HI4 : Hid (IsSy w4 s sy3) := HI3.out.kept hk4 (by have := HL.out.1; omega)
  have HA4 : Hid (IsAc w4 p s (ac0.put 0 1 5)) := hA4
  have HB4 : Hid (Below w.heap.size w w4) := HB3.out.trans (hk4.below HB3.out.size (fun k e => by have := HL.out.2; omega))
  clear hA4 hk4 HC3 HA3 HI3 HB3 w3
  have HC4 : Hid (Calls Try.prog 20 #[.pointer (some ⟨p, 0, none⟩), .int .i8 2, zx 1 3] w4 fun r w' => r = .returned (.int .i64 0) ∧ IsAc w' p s ac3 ∧ Kept w4 w' (fun k => k = p)) := put_yes (i := 2) ok3.good HI4.out HA4.out ac3so.1 (by decide) 1 3
  go_wp2_with fail
  refine Calls.mono HC4.out ?_
  rintro e w5 ⟨rfl, hA5, hk5⟩
  have HI5 : Hid (IsSy w5 s sy3) := HI4.out.kept hk5 (by have := HL.out.1; omega)
  have HA5 : Hid (IsAc w5 p s ac3) := hA5
  have HB5 : Hid (Below w.heap.size w w5) := HB4.out.trans (hk5.below HB4.out.size (fun k e => by have := HL.out.2; omega))
  clear hA5 hk5 HC4 HA4 HI4 HB4 w4
  have hc5 := com_any ok3.good HI5.out HA5.out ac3so.2
  rw [show sy3.n = 3 from rfl, com3] at hc5
  have HC5 : Hid (Calls Try.prog 16 #[.pointer (some ⟨p, 0, none⟩)] w5 fun r w' => r = .returned (.tuple #[zx 1 3, .bool true]) ∧ Below w5.heap.size w5 w') := hc5
  clear hc5
  go_wp2_with fail
  refine Calls.mono HC5.out ?_
  rintro e w6 ⟨rfl, hb6⟩
  have HI6 : Hid (IsSy (w6.alloc (.cells #[.int .u32 1, .int .u32 3] 38)) s sy3) := (HI5.out.below hb6 HI5.out.lt).below (one_alloc _ _) (HI5.out.below hb6 HI5.out.lt).lt
  have HB6 : Hid (Below w.heap.size w (w6.alloc (.cells #[.int .u32 1, .int .u32 3] 38))) := (HB5.out.trans (hb6.mono HB5.out.size)).alloc (HB5.out.trans (hb6.mono HB5.out.size)).size _
  have x0 : (w6.alloc (.cells #[.int .u32 1, .int .u32 3] 38)).cell? ⟨w6.heap.size, 0, none⟩ = some (.int .u32 1) := cell_of_row _ _ 0 _ _ _ (heap_alloc_new _ _)
  have x1 : (w6.alloc (.cells #[.int .u32 1, .int .u32 3] 38)).cell? ⟨w6.heap.size, 1, none⟩ = some (.int .u32 3) := cell_of_row _ _ 1 _ _ _ (heap_alloc_new _ _)
  obtain ⟨W7, hW7⟩ : ∃ W7, W7 = w6.alloc (.cells #[.int .u32 1, .int .u32 3] 38) := ⟨_, rfl⟩
  rw [← hW7] at HI6 HB6 x0 x1
  have HW7 : Hid (w6.alloc (.cells #[.int .u32 1, .int .u32 3] 38) = W7) := hW7.symm
  have HX7 : Hid (W7.cell? ⟨w6.heap.size, 0, none⟩ = some (.int .u32 1) ∧ W7.cell? ⟨w6.heap.size, 1, none⟩ = some (.int .u32 3)) := ⟨x0, x1⟩
  clear hW7 hb6 HC5 HI5 HA5 HB5 x0 x1
  have hc7 := has_sy ok3.good HI6.out (S := 3) (by decide)
  rw [has3.1] at hc7
  have HC7 : Hid (Calls Try.prog 22 #[.pointer (some ⟨s, 0, none⟩), .int .u8 3] W7 fun e w' => e = .returned (.bool true) ∧ Below W7.heap.size W7 w') := hc7
  clear hc7
  go_wp2_with fail
  rw [HW7.out]
  refine Calls.mono HC7.out ?_
  rintro e w8 ⟨rfl, hb8⟩
  have hc8 := has_sy ok3.good (HI6.out.below hb8 HI6.out.lt) (S := 4) (by decide)
  rw [has3.2] at hc8
  have HC8 : Hid (Calls Try.prog 22 #[.pointer (some ⟨s, 0, none⟩), .int .u8 4] w8 fun e w' => e = .returned (.bool false) ∧ Below w8.heap.size w8 w') := hc8
  clear hc8
  have HB8 : Hid (Below w.heap.size w w8) := HB6.out.trans (hb8.mono HB6.out.size)
  have HX8 : Hid (w8.cell? ⟨w6.heap.size, 0, none⟩ = some (.int .u32 1) ∧ w8.cell? ⟨w6.heap.size, 1, none⟩ = some (.int .u32 3)) := ⟨kcell hb8 HX7.out.1, kcell hb8 HX7.out.2⟩
  clear hb8 HC7 HX7 HI6 HB6 HW7
  go_wp2_with fail
  refine Calls.mono HC8.out ?_
  rintro e w9 ⟨rfl, hb9⟩
  have x0 := kcell hb9 HX8.out.1
  have x1 := kcell hb9 HX8.out.2
  have HB9 : Hid (Below w.heap.size w w9) := HB8.out.trans (hb9.mono HB8.out.size)
  clear hb9 HC8 HX8 HB8
  go_wp2
  all_goals (go_ret; exact ⟨rfl, HB9.out⟩)

end Go.Proofs.Ytlnoighjdmjdeaa
