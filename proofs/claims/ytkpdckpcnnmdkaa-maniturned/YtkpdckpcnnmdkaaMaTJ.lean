/- ManiTurned, walked. -/
import Derived.Test.YtkpdckpcnnmdkaaMaQJ
import Derived.Deep.RegionHeld
namespace Go.Proofs.Ytkpdckpcnnmdkaa
open Go.RowKit Go.Shelf
set_option maxRecDepth 8000

theorem msees_take {w : World} {ao : Option Addr} {xs : List Int} {cap n : Nat} (h : Sees w (.slice ao xs.length cap) xs) (hn : n ≤ xs.length) : Sees w (.slice ao n cap) (xs.take n) := by
  obtain ⟨ao', cap', e, h1, h2, h0, h3⟩ := h
  obtain ⟨rfl, _, rfl⟩ := Value.slice.inj e
  have hl : (xs.take n).length = n := by simp [hn]
  refine ⟨ao, cap, by rw [hl], by omega, h2, h0, ?_⟩
  rcases h3 with rfl | ⟨b, off, e, h3⟩
  · left; simp
  · right
    refine ⟨b, off, e, fun i hi => ?_⟩
    rw [h3 i (by omega)]
    simp [List.getD_eq_getElem?_getD, show i < n by omega]

/-- The place of a number among 38. -/
def atK (a : Int) : Nat := (((a.tmod 38) + 38).tmod 38).toNat
theorem atK_lt (a : Int) : atK a < 38 := by
  have h1 := Int.tmod_lt_of_pos a (b := 38) (by decide)
  have h2 : -38 < a.tmod 38 := by
    have := Int.lt_tmod_of_pos a (b := 38) (by decide)
    omega
  unfold atK
  have h3 := Int.tmod_lt_of_pos (a.tmod 38 + 38) (b := 38) (by decide)
  have h4 := Int.tmod_nonneg (a := a.tmod 38 + 38) 38 (by omega)
  omega

theorem atK_is (a : Int) : (wrap64 (a.tmod 38 + 38)).tmod 38 = ((atK a : Nat) : Int) := by
  have h1 := Int.tmod_lt_of_pos a (b := 38) (by decide)
  have h2 : -38 < a.tmod 38 := by
    have := Int.lt_tmod_of_pos a (b := 38) (by decide)
    omega
  have hw : wrap64 (a.tmod 38 + 38) = a.tmod 38 + 38 := by unfold wrap64; omega
  rw [hw]
  unfold atK
  have h4 := Int.tmod_nonneg (a := a.tmod 38 + 38) 38 (by omega)
  omega

set_option maxHeartbeats 2000000 in
theorem turned_no (m : MaD) (hy : mayM m = false) (a t : Int) (w : World) :
    Calls Try.prog 5 #[m.val, .int .i64 a, .int .u8 t] w fun r w' => r = .returned (.bool true) ∧ Below w.heap.size w w' := by
  obtain ⟨V, eV⟩ : ∃ V, V = w.alloc (.cells #[.int .u32 m.boot, .int .u32 m.acc, .int .u32 m.cur, .int .i64 m.snap, .int .i64 m.log] 24) := ⟨_, rfl⟩
  have hbV : Below w.heap.size w V := by rw [eV]; exact one_allocK _ _
  have rV : V.heap[w.heap.size]? = some (.cells #[.int .u32 m.boot, .int .u32 m.acc, .int .u32 m.cur, .int .i64 m.snap, .int .i64 m.log] 24 (0, 0)) := by rw [eV]; exact heap_alloc_new w _
  have HV : Hid (Below w.heap.size w V ∧ V.heap[w.heap.size]? = some (.cells #[.int .u32 m.boot, .int .u32 m.acc, .int .u32 m.cur, .int .i64 m.snap, .int .i64 m.log] 24 (0, 0)) ∧ mayM m = false) := ⟨hbV, rV, hy⟩
  have HE : Hid _ := eV
  have hlV := lt_of_block rV
  clear hbV rV eV hy
  go_enter Try.func5, Try.ntmps5
  go_upto_region 1 with fail
  rw [← HE.out]
  go_wp2_with fail
  refine Calls.mono (lives_m V) ?_
  rintro e w1 ⟨rfl, hb1⟩
  have H1 : Hid (Below V.heap.size V w1) := hb1
  have r1 := (Below.kept hb1).heap HV.out.2.1 (fun e => by omega)
  have c0 := cell_of_row w1 _ 0 _ _ _ r1
  have c1 := cell_of_row w1 _ 1 _ _ _ r1
  have c2 := cell_of_row w1 _ 2 _ _ _ r1
  have c3 := cell_of_row w1 _ 3 _ _ _ r1
  have c4 := cell_of_row w1 _ 4 _ _ _ r1
  simp only [List.getElem?_toArray, List.getElem?_cons_zero, List.getElem?_cons_succ] at c0 c1 c2 c3 c4
  have hl1 := lt_of_block r1
  clear hb1 r1
  go_wp2_with fail
  refine Calls.mono (mwrite_no m HV.out.2.2 w1) ?_
  rintro e w2 ⟨rfl, hb2⟩
  have H2 : Hid (Below w.heap.size w w2) := Below.step HV.out.1 (Below.step H1.out hb2)
  clear hb2 c0 c1 c2 c3 c4 hl1
  go_wp2_with fail
  go_ret
  exact ⟨rfl, H2.out⟩

set_option maxHeartbeats 4000000 in
theorem turned_yes (m : MaD) (hm : m.Fits) (hy : mayM m = true) (a t : Int) (ht0 : 0 ≤ t) (ht1 : t ≤ 255) (w : World) :
    Calls Try.prog 5 #[m.val, .int .i64 a, .int .u8 t] w fun r w' => r = .returned (.bool true) ∧ Below w.heap.size w w' := by
  obtain ⟨V, eV⟩ : ∃ V, V = w.alloc (.cells #[.int .u32 m.boot, .int .u32 m.acc, .int .u32 m.cur, .int .i64 m.snap, .int .i64 m.log] 24) := ⟨_, rfl⟩
  have hbV : Below w.heap.size w V := by rw [eV]; exact one_allocK _ _
  have rV : V.heap[w.heap.size]? = some (.cells #[.int .u32 m.boot, .int .u32 m.acc, .int .u32 m.cur, .int .i64 m.snap, .int .i64 m.log] 24 (0, 0)) := by rw [eV]; exact heap_alloc_new w _
  have HV : Hid (Below w.heap.size w V ∧ V.heap[w.heap.size]? = some (.cells #[.int .u32 m.boot, .int .u32 m.acc, .int .u32 m.cur, .int .i64 m.snap, .int .i64 m.log] 24 (0, 0)) ∧ m.Fits ∧ mayM m = true) := ⟨hbV, rV, hm, hy⟩
  have HT : Hid (0 ≤ t ∧ t ≤ 255) := ⟨ht0, ht1⟩
  have HE : Hid _ := eV
  have hlV := lt_of_block rV
  clear hbV rV eV hy hm ht0 ht1
  go_enter Try.func5, Try.ntmps5
  go_upto_region 1 with fail
  rw [← HE.out]
  clear HE
  go_wp2_with fail
  refine Calls.mono (lives_m V) ?_
  rintro e w1 ⟨rfl, hb1⟩
  have H1 : Hid (Below V.heap.size V w1) := hb1
  have r1 := (Below.kept hb1).heap HV.out.2.1 (fun e => by omega)
  have c0 := cell_of_row w1 _ 0 _ _ _ r1
  have c1 := cell_of_row w1 _ 1 _ _ _ r1
  have c2 := cell_of_row w1 _ 2 _ _ _ r1
  have c3 := cell_of_row w1 _ 3 _ _ _ r1
  have c4 := cell_of_row w1 _ 4 _ _ _ r1
  simp only [List.getElem?_toArray, List.getElem?_cons_zero, List.getElem?_cons_succ] at c0 c1 c2 c3 c4
  have hl1 := lt_of_block r1
  have HWR : Hid _ := mwrite_yes m HV.out.2.2.1 HV.out.2.2.2 w1
  rw [maF_len] at HWR
  clear hb1 r1
  go_wp2_with fail
  refine Calls.mono HWR.out ?_
  rintro e w2 ⟨g, rfl, hg, ho2, hb2⟩
  have H2 : Hid (Below V.heap.size V w2) := Below.step H1.out hb2
  have HG : Hid (V.heap.size ≤ g ∧ g < w2.heap.size) := ⟨Nat.le_trans H1.out.size hg, (ho2.lt g rfl).2⟩
  have HO2 : Hid (Owns w2 0 (.slice (some ⟨g, 0, none⟩) (maF m).length 38) (maF m)) := by rw [maF_len]; exact owns_mono ho2 (Nat.zero_le _)
  clear hb2 c0 c1 c2 c3 c4 hl1 HWR H1 ho2 hg
  go_upto_region 7 with fail
  go_upto_region 8 with fail
  have hk : (wrap64 (a.tmod 38 + 38)).tmod 38 = ((atK a : Nat) : Int) := atK_is a
  have hk38 := atK_lt a
  rw [hk]
  clear hk
  generalize atK a = k at *
  have HK : Hid (k < 38) := hk38
  have HRD : Hid _ := mread_bad (.slice (some ⟨g, 0, none⟩) k 38) ((maF m).take k) w2 (msees_take (Sees.own HO2.out) (by rw [maF_len]; omega)) (fun y hy => maF_byts m HV.out.2.2.1 y (List.mem_of_mem_take hy)) (by simp; omega) (.inl (man_cut m k hk38))
  have hg2 := HG.out.2
  go_wp2_with fail
  refine Calls.mono HRD.out ?_
  rintro e w3 ⟨rfl, hb3⟩
  obtain ⟨W4, eW4⟩ : ∃ W4, W4 = w3.alloc (.cells #[.int .u32 0, .int .u32 0, .int .u32 0, .int .i64 0, .int .i64 0] 24) := ⟨_, rfl⟩
  have hb24 : Below w2.heap.size w2 W4 := by rw [eW4]; exact Below.step hb3 (one_allocK _ _)
  have H4 : Hid (Below V.heap.size V W4 ∧ Owns W4 0 (.slice (some ⟨g, 0, none⟩) (maF m).length 38) (maF m) ∧ g < W4.heap.size) := ⟨Below.step H2.out hb24, owns_later HO2.out hb24, Nat.lt_of_lt_of_le hg2 hb24.size⟩
  have HE4 : Hid _ := eW4
  obtain ⟨b4, hb4⟩ : ∃ b, b = w3.heap.size := ⟨_, rfl⟩
  clear hb3 hb24 eW4 HRD hg2
  go_upto_region 9 with fail
  rw [← HE4.out, ← hb4]
  clear HE4 hb4
  have HC : Hid (∀ X : World, Below W4.heap.size W4 X → Calls Try.prog 20 #[.slice (some ⟨g, 0, none⟩) 38 38] X fun e w' => ∃ x' y', e = .returned (.slice x' 38 y') ∧ Hid (Owns w' W4.heap.size (.slice x' 38 y') (maF m) ∧ Below X.heap.size X w')) := fun X hX => by
    have hs := Sees.own (owns_later H4.out.2.1 hX)
    rw [maF_len] at hs
    refine (copyBytes_any _ (maF m) X hs (by rw [maF_len]; decide)).mono ?_
    rintro e w' ⟨v', rfl, ho, hb⟩
    obtain ⟨x', y', e, _⟩ := own_shape (owns_mono ho (Nat.zero_le _))
    rw [maF_len] at e
    subst e
    exact ⟨x', y', rfl, owns_mono ho hX.size, hb⟩
  obtain ⟨i0, hi, hz0, hz1, hz2⟩ := info_parts Try.infoU8
  go_wp2_with fail
  refine Calls.mono (HC.out _ (Below.refl _ _)) ?_
  rintro e wA ⟨x', y', rfl, hA⟩
  have HOA : Hid (Owns (wA.alloc (.cells #[.int .u8 t] 5)) 0 (.slice x' 38 y') (maF m)) := owns_later (owns_mono hA.out.1 (Nat.zero_le _)) (one_allocK _ _)
  have HSA : Hid (Sees (wA.alloc (.cells #[.int .u8 t] 5)) (.slice (some ⟨wA.heap.size, 0, none⟩) 1 1) [t]) := sees_one wA t
  have hlb : (maF m).length + [t].length ≤ 140737488355328 := by rw [maF_len]; show 38 + 1 ≤ 140737488355328; decide
  go_wp2_with (at_builtin; refine wpList_app _ rfl (.tmp 51) (.tmp 53) 45 rfl i0 Try.underlying45 hi hz0 hz1 hz2 (.slice x' 38 y') (.slice (some ⟨wA.heap.size, 0, none⟩) 1 1) (maF m) [t] rfl rfl HOA.out HSA.out hlb ?_)
  intro v' X' r1 r2 _
  have hX' : Hid (Owns X' 0 v' (maF m ++ [t]) ∧ Below W4.heap.size W4 X') := ⟨r1, (Below.step hA.out.2 (one_allocK _ _)).grown r2 (by have := hA.out.2.size; rw [World.size_alloc]; omega) (fun k hk => (hA.out.1.lt k hk).1)⟩
  obtain ⟨xc, yc, e, _⟩ := own_shape r1
  have e2 : (maF m ++ [t]).length = 39 := by rw [List.length_append, maF_len]; rfl
  rw [e2] at e
  subst e
  clear r1 r2 e2 hlb hi hz0 hz1 hz2
  have HX : Hid (Below V.heap.size V X' ∧ Owns X' 0 (.slice (some ⟨g, 0, none⟩) (maF m).length 38) (maF m) ∧ g < X'.heap.size ∧ Owns X' 0 (.slice xc 39 yc) (maF m ++ [t])) := ⟨Below.step H4.out.1 hX'.out.2, owns_later H4.out.2.1 hX'.out.2, Nat.lt_of_lt_of_le H4.out.2.2 hX'.out.2.size, hX'.out.1⟩
  have HRC : Hid _ := mread_bad (.slice xc 39 yc) (maF m ++ [t]) X' (Sees.own HX.out.2.2.2) (fun y hy => by
    rcases List.mem_append.mp hy with hy | hy
    · exact maF_byts m HV.out.2.2.1 y hy
    · simp at hy; subst hy; exact HT.out) (by rw [List.length_append, maF_len]; show 38 + 1 ≤ 140737488355328; decide) (.inr (man_more m t))
  obtain ⟨xd, yd, ed, q1, q2, _⟩ := Sees.own HX.out.2.2.2
  have hyc : 39 ≤ yc ∧ yc ≤ 9223372036854775807 := by
    obtain ⟨_, _, rfl⟩ := Value.slice.inj ed
    rw [List.length_append, maF_len] at q1
    unfold maxLen at q2
    simp at q1
    omega
  obtain ⟨hyc1, hyc2⟩ := hyc
  clear hX' hA HC H4 ed q1 q2 HOA HSA
  go_wp2_with fail
  refine Calls.mono HRC.out ?_
  rintro e w5 ⟨rfl, hb5⟩
  obtain ⟨W6, eW6⟩ : ∃ W6, W6 = w5.alloc (.cells #[.int .u32 0, .int .u32 0, .int .u32 0, .int .i64 0, .int .i64 0] 24) := ⟨_, rfl⟩
  have hb56 : Below X'.heap.size X' W6 := by rw [eW6]; exact Below.step hb5 (one_allocK _ _)
  have H6 : Hid (Below V.heap.size V W6 ∧ Owns W6 0 (.slice (some ⟨g, 0, none⟩) (maF m).length 38) (maF m)) := ⟨Below.step HX.out.1 hb56, owns_later HX.out.2.1 hb56⟩
  have hg6 : g < W6.heap.size := Nat.lt_of_lt_of_le HX.out.2.2.1 hb56.size
  have HE6 : Hid _ := eW6
  obtain ⟨b6, hb6⟩ : ∃ b, b = w5.heap.size := ⟨_, rfl⟩
  clear hb5 hb56 eW6 HRC HX
  go_upto_region 11 with fail
  rw [← HE6.out, ← hb6]
  clear HE6 hb6
  have hc := owns_cell H6.out.2 k (by rw [maF_len]; omega)
  have hf := H6.out.2.frozenAt k
  have hx := (maF_byts m HV.out.2.2.1).nth k
  obtain ⟨x, hxx⟩ : ∃ x, x = (maF m).getD k 0 := ⟨_, rfl⟩
  rw [← hxx] at hc hx
  have hyb := mxor_byte x t hx.1 hx.2 HT.out.1 HT.out.2
  obtain ⟨W7, eW7⟩ : ∃ W7, W7 = W6.setCell ⟨g, k, none⟩ (.int .u8 (bits .xor .u8 x t)) := ⟨_, rfl⟩
  have hb7 : Below V.heap.size V W7 := by
    rw [eW7]
    exact H6.out.1.setCell (by simp; exact HG.out.1) _
  have ho7 := (owns_set H6.out.2 k (bits .xor .u8 x t)).1
  rw [← eW7, List.length_set, maF_len] at ho7
  have HS7 : Hid (Sees W7 (.slice (some ⟨g, 0, none⟩) 38 38) ((maF m).set k (bits .xor .u8 x t))) := by
    have := Sees.own ho7
    exact this
  have HX7 : Hid (Below V.heap.size V W7 ∧ x = (maF m).getD k 0 ∧ (0 ≤ x ∧ x ≤ 255) ∧ (0 ≤ bits .xor .u8 x t ∧ bits .xor .u8 x t ≤ 255)) := ⟨hb7, hxx, hx, hyb⟩
  have HE7 : Hid _ := eW7
  clear hb7 eW7 ho7 hxx hx hyb
  go_upto_region 12 with fail
  rw [← HE7.out]
  clear HE7 hc hf hg6
  by_cases ht : t = 0
  · subst ht
    have HRG : Hid (Calls Try.prog 19 #[.slice (some ⟨g, 0, none⟩) 38 38] W7 fun e w' => e = .returned (.tuple #[m.val, .int .i64 0]) ∧ Below W7.heap.size W7 w') := by
      refine mread_good _ m HV.out.2.2.1 HV.out.2.2.2 W7 ?_
      have h9 := HS7.out
      rw [mxor_none x HX7.out.2.2.1.1 HX7.out.2.2.1.2, HX7.out.2.1, set_same _ _ (by rw [maF_len]; exact HK.out)] at h9
      exact h9
    go_wp2_with fail
    refine Calls.mono HRG.out ?_
    rintro e w8 ⟨rfl, hb8⟩
    obtain ⟨W9, eW9⟩ : ∃ W9, W9 = w8.alloc (.cells #[.int .u32 m.boot, .int .u32 m.acc, .int .u32 m.cur, .int .i64 m.snap, .int .i64 m.log] 24) := ⟨_, rfl⟩
    have hb9 : Below V.heap.size V W9 := Below.step HX7.out.1 (Below.step hb8 (by rw [eW9]; exact one_allocK _ _))
    have r9 : W9.heap[w8.heap.size]? = some (.cells #[.int .u32 m.boot, .int .u32 m.acc, .int .u32 m.cur, .int .i64 m.snap, .int .i64 m.log] 24 (0, 0)) := by rw [eW9]; exact heap_alloc_new w8 _
    have z9 := (Below.kept hb9).heap HV.out.2.1 (fun e => by omega)
    have HE9 : Hid _ := eW9
    obtain ⟨b9, hb9'⟩ : ∃ b, b = w8.heap.size := ⟨_, rfl⟩
    rw [← hb9'] at r9
    have q0 := cell_of_row W9 _ 0 _ _ _ r9
    have q1 := cell_of_row W9 _ 1 _ _ _ r9
    have q2 := cell_of_row W9 _ 2 _ _ _ r9
    have q3 := cell_of_row W9 _ 3 _ _ _ r9
    have q4 := cell_of_row W9 _ 4 _ _ _ r9
    have z0 := cell_of_row W9 _ 0 _ _ _ z9
    have z1 := cell_of_row W9 _ 1 _ _ _ z9
    have z2 := cell_of_row W9 _ 2 _ _ _ z9
    have z3 := cell_of_row W9 _ 3 _ _ _ z9
    have z4 := cell_of_row W9 _ 4 _ _ _ z9
    simp only [List.getElem?_toArray, List.getElem?_cons_zero, List.getElem?_cons_succ] at q0 q1 q2 q3 q4 z0 z1 z2 z3 z4
    have hl9 := lt_of_block r9
    have hlz := lt_of_block z9
    have hq : ∀ W : World, (binOp .eql 24 (.agg #[.int .u32 m.boot, .int .u32 m.acc, .int .u32 m.cur, .int .i64 m.snap, .int .i64 m.log]) (.agg #[.int .u32 m.boot, .int .u32 m.acc, .int .u32 m.cur, .int .i64 m.snap, .int .i64 m.log])).run Try.prog W = .ok (.bool true) W := fun W => by
      have := eqMan m m W
      rw [eqM_self] at this
      exact this
    have H9 : Hid (Below w.heap.size w W9) := Below.step HV.out.1 hb9
    clear hb8 hb9 r9 z9 eW9 HRG
    go_upto_region 13 with fail
    rw [← HE9.out, ← hb9']
    clear HE9 hb9'
    go_wp2_with fail
    go_ret
    exact ⟨rfl, H9.out⟩
  · have HRG : Hid (Calls Try.prog 19 #[.slice (some ⟨g, 0, none⟩) 38 38] W7 fun e w' => e = .returned (.tuple #[zeroM, .int .i64 110]) ∧ Below W7.heap.size W7 w') := by
      have hb := HX7.out.2.2.2
      have ht2 := HT.out
      refine mread_bad _ _ W7 HS7.out (mbyts_set (maF_byts m HV.out.2.2.1) k _ hb.1 hb.2) (by rw [List.length_set, maF_len]; decide) (man_turn m HV.out.2.2.1 k HK.out _ hb.1 hb.2 ?_)
      rw [← HX7.out.2.1]
      exact mxor_turns x t HX7.out.2.2.1.1 HX7.out.2.2.1.2 (by omega) ht2.2
    have ht0 : (t == 0) = false := by simpa using ht
    clear ht
    go_wp2_with fail
    refine Calls.mono HRG.out ?_
    rintro e w8 ⟨rfl, hb8⟩
    obtain ⟨W9, eW9⟩ : ∃ W9, W9 = w8.alloc (.cells #[.int .u32 0, .int .u32 0, .int .u32 0, .int .i64 0, .int .i64 0] 24) := ⟨_, rfl⟩
    have hb9 : Below V.heap.size V W9 := Below.step HX7.out.1 (Below.step hb8 (by rw [eW9]; exact one_allocK _ _))
    have r9 : W9.heap[w8.heap.size]? = some (.cells #[.int .u32 0, .int .u32 0, .int .u32 0, .int .i64 0, .int .i64 0] 24 (0, 0)) := by rw [eW9]; exact heap_alloc_new w8 _
    have HE9 : Hid _ := eW9
    obtain ⟨b9, hb9'⟩ : ∃ b, b = w8.heap.size := ⟨_, rfl⟩
    rw [← hb9'] at r9
    have q0 := cell_of_row W9 _ 0 _ _ _ r9
    have q1 := cell_of_row W9 _ 1 _ _ _ r9
    have q2 := cell_of_row W9 _ 2 _ _ _ r9
    have q3 := cell_of_row W9 _ 3 _ _ _ r9
    have q4 := cell_of_row W9 _ 4 _ _ _ r9
    simp only [List.getElem?_toArray, List.getElem?_cons_zero, List.getElem?_cons_succ] at q0 q1 q2 q3 q4
    have hl9 := lt_of_block r9
    have hq : ∀ W : World, (binOp .eql 24 (.agg #[.int .u32 0, .int .u32 0, .int .u32 0, .int .i64 0, .int .i64 0]) (.agg #[.int .u32 0, .int .u32 0, .int .u32 0, .int .i64 0, .int .i64 0])).run Try.prog W = .ok (.bool true) W := fun W => by
      have := eqMan zM zM W
      rw [eqM_self] at this
      exact this
    have H9 : Hid (Below w.heap.size w W9) := Below.step HV.out.1 hb9
    clear hb8 hb9 r9 eW9 HRG
    go_upto_region 13 with fail
    rw [← HE9.out, ← hb9']
    clear HE9 hb9'
    go_wp2_with fail
    go_ret
    exact ⟨rfl, H9.out⟩

theorem turned_walk (m : MaD) (hm : m.Fits) (a t : Int) (ht0 : 0 ≤ t) (ht1 : t ≤ 255) (w : World) :
    Calls Try.prog 5 #[m.val, .int .i64 a, .int .u8 t] w fun r w' => r = .returned (.bool true) ∧ Below w.heap.size w w' := by
  cases hy : mayM m
  · exact turned_no m hy a t w
  · exact turned_yes m hm hy a t ht0 ht1 w
end Go.Proofs.Ytkpdckpcnnmdkaa
