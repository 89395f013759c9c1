/- What put of the statements does with a nil Writer, kind by kind: it returns, and nothing that was there before is changed. -/
import Derived.Test.YtmjcpcpcngpdjabNilR
namespace Go.Proofs.Ytmjcpcpcngpdjab
open Go.RowKit

/-- Put returns, and nothing that was there before is changed. -/
abbrev PutNil (kind on n : Int) (x : Nat) (s : ByteArray) (ao : Option Addr) (l cap : Nat) (w : World) : Prop :=
  Calls Try.prog 16 #[.pointer none, opv kind on n x s (.slice ao l cap)] w fun e w' => ∃ u b, e = .returned (.tuple #[u, .bool b]) ∧ Below w.heap.size w w'

section
variable (on n : Int) (x : Nat) (s : ByteArray) (ao : Option Addr) (l cap : Nat) (w : World)

set_option maxHeartbeats 400000 in
theorem nput_bool : PutNil 1 on n x s ao l cap w := by
  unfold PutNil
  go_enter Try.func16, Try.ntmps16
  go_wp2_with fail
  refine (nBool (bits .and .i64 n 1 == 1) _).mono ?_
  rintro e w1 ⟨rfl, hp⟩
  have hbox : w1.heap[w.heap.size]? = some (opc 1 on n x s (.slice ao l cap)) := (news hp).heap (heap_alloc_new w _) (fun h => h)
  have hc := opc2 hbox
  have HB : Hid (Below w.heap.size w w1) := (below_new w _).trans (hp.mono (by simp))
  clear hp hbox
  go_wp2_with fail
  refine (refBool_any (bits .and .i64 n 1 == 1) _).mono ?_
  rintro e w2 ⟨u, rfl, ho, hb2⟩
  have HR : Hid (Below w.heap.size w w2) := HB.out.trans (hb2.mono HB.out.size)
  clear ho hb2
  go_wp2
  go_ret2
  exact ⟨_, _, rfl, HR.out⟩

set_option maxHeartbeats 400000 in
theorem nput_int8 : PutNil 2 on n x s ao l cap w := by
  unfold PutNil
  go_enter Try.func16, Try.ntmps16
  go_wp2_with fail
  refine (nInt8 (IntKind.i8.wrap n) _).mono ?_
  rintro e w1 ⟨rfl, hp⟩
  have hbox : w1.heap[w.heap.size]? = some (opc 2 on n x s (.slice ao l cap)) := (news hp).heap (heap_alloc_new w _) (fun h => h)
  have hc := opc2 hbox
  have HB : Hid (Below w.heap.size w w1) := (below_new w _).trans (hp.mono (by simp))
  clear hp hbox
  go_wp2_with fail
  refine (refInt8_any (IntKind.i8.wrap n) _ (wrap8_bd n).1 (wrap8_bd n).2).mono ?_
  rintro e w2 ⟨u, rfl, ho, hb2⟩
  have HR : Hid (Below w.heap.size w w2) := HB.out.trans (hb2.mono HB.out.size)
  clear ho hb2
  go_wp2
  go_ret2
  exact ⟨_, _, rfl, HR.out⟩

set_option maxHeartbeats 400000 in
theorem nput_int32 : PutNil 3 on n x s ao l cap w := by
  unfold PutNil
  go_enter Try.func16, Try.ntmps16
  go_wp2_with fail
  refine (nInt32 (wrap32 n) _).mono ?_
  rintro e w1 ⟨rfl, hp⟩
  have hbox : w1.heap[w.heap.size]? = some (opc 3 on n x s (.slice ao l cap)) := (news hp).heap (heap_alloc_new w _) (fun h => h)
  have hc := opc2 hbox
  have HB : Hid (Below w.heap.size w w1) := (below_new w _).trans (hp.mono (by simp))
  clear hp hbox
  go_wp2_with fail
  refine (refInt32_any (wrap32 n) _ (by unfold wrap32; omega) (by unfold wrap32; omega)).mono ?_
  rintro e w2 ⟨u, rfl, ho, hb2⟩
  have HR : Hid (Below w.heap.size w w2) := HB.out.trans (hb2.mono HB.out.size)
  clear ho hb2
  go_wp2
  go_ret2
  exact ⟨_, _, rfl, HR.out⟩

set_option maxHeartbeats 400000 in
theorem nput_uint32 : PutNil 4 on n x s ao l cap w := by
  unfold PutNil
  go_enter Try.func16, Try.ntmps16
  go_wp2_with fail
  refine (nUint32 (up32 n) _ (by unfold up32; omega) (by unfold up32; omega)).mono ?_
  rintro e w1 ⟨rfl, hp⟩
  have hbox : w1.heap[w.heap.size]? = some (opc 4 on n x s (.slice ao l cap)) := (news hp).heap (heap_alloc_new w _) (fun h => h)
  have hc := opc2 hbox
  have HB : Hid (Below w.heap.size w w1) := (below_new w _).trans (hp.mono (by simp))
  clear hp hbox
  go_wp2_with fail
  refine (refUint32_any (up32 n) _ (by unfold up32; omega) (by unfold up32; omega)).mono ?_
  rintro e w2 ⟨u, rfl, ho, hb2⟩
  have HR : Hid (Below w.heap.size w w2) := HB.out.trans (hb2.mono HB.out.size)
  clear ho hb2
  go_wp2
  go_ret2
  exact ⟨_, _, rfl, HR.out⟩

set_option maxHeartbeats 400000 in
theorem nput_int64 (hn : -9223372036854775808 ≤ n ∧ n ≤ 9223372036854775807) : PutNil 5 on n x s ao l cap w := by
  unfold PutNil
  go_enter Try.func16, Try.ntmps16
  go_wp2_with fail
  refine (nInt64 n _).mono ?_
  rintro e w1 ⟨rfl, hp⟩
  have hbox : w1.heap[w.heap.size]? = some (opc 5 on n x s (.slice ao l cap)) := (news hp).heap (heap_alloc_new w _) (fun h => h)
  have hc := opc2 hbox
  have HB : Hid (Below w.heap.size w w1) := (below_new w _).trans (hp.mono (by simp))
  clear hp hbox
  go_wp2_with fail
  refine (refInt64_any n _ hn.1 hn.2).mono ?_
  rintro e w2 ⟨u, rfl, ho, hb2⟩
  have HR : Hid (Below w.heap.size w w2) := HB.out.trans (hb2.mono HB.out.size)
  clear ho hb2
  go_wp2
  go_ret2
  exact ⟨_, _, rfl, HR.out⟩

set_option maxHeartbeats 400000 in
theorem nput_float (hx : x < 18446744073709551616) : PutNil 6 on n x s ao l cap w := by
  unfold PutNil
  go_enter Try.func16, Try.ntmps16
  go_wp2_with fail
  refine (nFloat x _ hx).mono ?_
  rintro e w1 ⟨rfl, hp⟩
  have hbox : w1.heap[w.heap.size]? = some (opc 6 on n x s (.slice ao l cap)) := (news hp).heap (heap_alloc_new w _) (fun h => h)
  have hc := opc3 hbox
  have HB : Hid (Below w.heap.size w w1) := (below_new w _).trans (hp.mono (by simp))
  clear hp hbox
  go_wp2_with fail
  refine (refFloat_any x _ hx).mono ?_
  rintro e w2 ⟨u, rfl, ho, hb2⟩
  have HR : Hid (Below w.heap.size w w2) := HB.out.trans (hb2.mono HB.out.size)
  clear ho hb2
  go_wp2
  go_ret2
  exact ⟨_, _, rfl, HR.out⟩

set_option maxHeartbeats 400000 in
theorem nput_text (hs : s.size ≤ 2147483647) : PutNil 7 on n x s ao l cap w := by
  unfold PutNil
  go_enter Try.func16, Try.ntmps16
  go_wp2_with fail
  refine (nText s _ hs).mono ?_
  rintro e w1 ⟨rfl, hp⟩
  have hbox : w1.heap[w.heap.size]? = some (opc 7 on n x s (.slice ao l cap)) := (news hp).heap (heap_alloc_new w _) (fun h => h)
  have hc := opc4 hbox
  have HB : Hid (Below w.heap.size w w1) := (below_new w _).trans (hp.mono (by simp))
  clear hp hbox
  go_wp2_with fail
  refine (refText_any s _ hs).mono ?_
  rintro e w2 ⟨u, rfl, ho, hb2⟩
  have HR : Hid (Below w.heap.size w w2) := HB.out.trans (hb2.mono HB.out.size)
  clear ho hb2
  go_wp2
  go_ret2
  exact ⟨_, _, rfl, HR.out⟩

set_option maxHeartbeats 400000 in
theorem nput_other (kind : Int) (hk : kind < 1 ∨ 9 < kind) : PutNil kind on n x s ao l cap w := by
  unfold PutNil
  have k1 : (kind == 1) = false := by simp; omega
  have k2 : (kind == 2) = false := by simp; omega
  have k3 : (kind == 3) = false := by simp; omega
  have k4 : (kind == 4) = false := by simp; omega
  have k5 : (kind == 5) = false := by simp; omega
  have k6 : (kind == 6) = false := by simp; omega
  have k7 : (kind == 7) = false := by simp; omega
  have k8 : (kind == 8) = false := by simp; omega
  have k9 : (kind == 9) = false := by simp; omega
  clear hk
  go_enter Try.func16, Try.ntmps16
  go_wp2
  go_ret2
  exact ⟨_, _, rfl, below_new _ _⟩

end

set_option maxHeartbeats 1000000 in
theorem nput_buffer (on n : Int) (x : Nat) (s : ByteArray) (ao : Option Addr) (cap : Nat) (ys : List Int) (w : World) (hs : Sees w (.slice ao ys.length cap) ys) (hl : ys.length ≤ 2147483647) : PutNil 8 on n x s ao ys.length cap w := by
  unfold PutNil
  have H : Hid (Sees w (.slice ao ys.length cap) ys) := hs
  clear hs
  go_enter Try.func16, Try.ntmps16
  go_wp2_with fail
  have HK0 : Hid (Kept w (w.alloc (opc 8 on n x s (.slice ao ys.length cap))) (fun _ => False)) := (Kept.refl w _).alloc _
  refine (wideBytes_any _ ys _ (by exact H.out.kept HK0.out (fun _ _ h => h)) (by omega)).mono ?_
  rintro e w1 ⟨rfl, ho1, hb1⟩
  have hz1 : w.heap.size + 1 < w1.heap.size := by have := (ho1.lt _ rfl).2; simpa using this
  have hO1 : Owns w1 (w.heap.size + 1) (.slice (some ⟨w.heap.size + 1, 0, none⟩) (wide ys).length (ys.length + 64)) (wide ys) := by simpa using ho1
  have HO1 : Hid (Owns w1 (w.heap.size + 1) (.slice (some ⟨w.heap.size + 1, 0, none⟩) (wide ys).length (ys.length + 64)) (wide ys)) := hO1
  clear hO1
  have hk1 : Kept w w1 (fun _ => False) := HK0.out.trans (news hb1) (fun _ _ h => h)
  have hbox1 : w1.heap[w.heap.size]? = some (opc 8 on n x s (.slice ao ys.length cap)) := (news hb1).heap (heap_alloc_new w _) (fun h => h)
  have HB1 : Hid (Kept w w1 (fun _ => False) ∧ w1.heap[w.heap.size]? = some (opc 8 on n x s (.slice ao ys.length cap)) ∧ Below w.heap.size w w1) := ⟨hk1, hbox1, (below_new w _).trans (hb1.mono (by simp))⟩
  have c5 := opc5 hbox1
  clear ho1 hb1 hk1 hbox1
  have ealloc : (w.alloc (opc 8 on n x s (.slice ao ys.length cap))).heap.size = w.heap.size + 1 := by simp
  try rw [ealloc]
  clear ealloc
  go_wp2_with fail
  refine (copyBytes_any _ ys _ (H.out.kept HB1.out.1 (fun _ _ h => h)) (by omega)).mono ?_
  rintro e w2 ⟨v2, rfl, ho2, hb2⟩
  have HB2 : Hid (Kept w w2 (fun _ => False) ∧ w2.heap[w.heap.size]? = some (opc 8 on n x s (.slice ao ys.length cap)) ∧ Owns w2 (w.heap.size + 1) (.slice (some ⟨w.heap.size + 1, 0, none⟩) (wide ys).length (ys.length + 64)) (wide ys) ∧ Below w.heap.size w w2) :=
    ⟨HB1.out.1.trans (news hb2) (fun _ _ h => h), (news hb2).heap HB1.out.2.1 (fun h => h), Owns.kept HO1.out (news hb2) (fun _ _ h => h), HB1.out.2.2.trans (hb2.mono HB1.out.2.2.size)⟩
  have c0 := opc0 HB2.out.2.1
  clear ho2 hb2 HB1 HO1 c5
  go_wp2_with fail
  refine (nBuffer _ _ _ _ hl).mono ?_
  rintro e w3 ⟨rfl, hb3⟩
  have HB3 : Hid (Below w.heap.size w w3 ∧ w3.heap[w.heap.size]? = some (opc 8 on n x s (.slice ao ys.length cap)) ∧ Owns w3 (w.heap.size + 1) (.slice (some ⟨w.heap.size + 1, 0, none⟩) (wide ys).length (ys.length + 64)) (wide ys) ∧ Sees w3 (.slice ao ys.length cap) ys) :=
    ⟨HB2.out.2.2.2.trans (hb3.mono HB2.out.2.2.2.size), (news hb3).heap HB2.out.2.1 (fun h => h), Owns.kept HB2.out.2.2.1 (news hb3) (fun _ _ h => h), (H.out.kept HB2.out.1 (fun _ _ h => h)).kept (news hb3) (fun _ _ h => h)⟩
  have hz3 : w.heap.size + 1 < w3.heap.size := (HB3.out.2.2.1.lt _ rfl).2
  have c5 := opc5 HB3.out.2.1
  clear hb3 HB2 c0
  go_wp2_with fail
  refine (refBuffer_any _ ys _ HB3.out.2.2.2 hl).mono ?_
  rintro e w4 ⟨v4, rfl, ho4, hb4⟩
  clear ho4
  have HB4 : Hid (Below w.heap.size w w4 ∧ w4.heap[w.heap.size]? = some (opc 8 on n x s (.slice ao ys.length cap)) ∧ Owns w4 (w.heap.size + 1) (.slice (some ⟨w.heap.size + 1, 0, none⟩) (wide ys).length (ys.length + 64)) (wide ys) ∧ Sees w4 (.slice ao ys.length cap) ys) :=
    ⟨HB3.out.1.trans (hb4.mono HB3.out.1.size), (news hb4).heap HB3.out.2.1 (fun h => h), Owns.kept HB3.out.2.2.1 (news hb4) (fun _ _ h => h), HB3.out.2.2.2.kept (news hb4) (fun _ _ h => h)⟩
  have c5' := opc5 HB4.out.2.1
  clear hb4 c5
  go_wp2_with fail
  have hin := sees_prefix HB4.out.2.2.1 (n := ys.length) (by rw [wide_len]; omega)
  rw [wide_take] at hin
  refine (eqBytes_any _ _ ys ys _ hin HB4.out.2.2.2).mono ?_
  clear hin
  rintro e w5 ⟨rfl, n5, hw5⟩
  have ed : decide (ys = ys) = true := by simp
  rw [ed]
  clear ed
  have hk5 : Kept w4 w5 (fun _ => False) := by rw [hw5]; exact (Kept.refl w4 _).drewN _
  have HB5 : Hid (Below w.heap.size w w5 ∧ Owns w5 (w.heap.size + 1) (.slice (some ⟨w.heap.size + 1, 0, none⟩) (wide ys).length (ys.length + 64)) (wide ys)) :=
    ⟨HB4.out.1.trans (hk5.below HB4.out.1.size (fun _ h => h.elim)), Owns.kept HB4.out.2.2.1 hk5 (fun _ _ h => h)⟩
  clear hw5 hk5 HB4 c5'
  go_wp2_with fail
  refine (spareBytes_any (w.heap.size + 1) ys (wide ys) _ HB5.out.2 (wide_len ys) (fun j h1 h2 => by rw [wide_nth ys j h2, if_neg (by omega)]) (by omega)).mono ?_
  rintro e w6 ⟨rfl, rfl⟩
  go_wp2_with fail
  refine (spoil_any (w.heap.size + 1) (wide ys) ys.length _ _ (owns_mono HB5.out.2 (Nat.zero_le _)) (by rw [wide_len]; omega) (by rw [wide_len]; omega)).mono ?_
  rintro e w7 ⟨rfl, hk7⟩
  have HR : Hid (Below w.heap.size w w7) := HB5.out.1.trans (hk7.below HB5.out.1.size (fun k hk => by omega))
  clear hk7 HB5 HB3
  go_wp2
  go_ret2
  exact ⟨_, _, rfl, HR.out⟩

set_option maxHeartbeats 1000000 in
theorem nput_raw (on n : Int) (x : Nat) (s : ByteArray) (ao : Option Addr) (cap : Nat) (ys : List Int) (w : World) (hs : Sees w (.slice ao ys.length cap) ys) (hl : ys.length ≤ 2147483647) : PutNil 9 on n x s ao ys.length cap w := by
  unfold PutNil
  have H : Hid (Sees w (.slice ao ys.length cap) ys) := hs
  clear hs
  go_enter Try.func16, Try.ntmps16
  go_wp2_with fail
  have HK0 : Hid (Kept w (w.alloc (opc 9 on n x s (.slice ao ys.length cap))) (fun _ => False)) := (Kept.refl w _).alloc _
  refine (wideBytes_any _ ys _ (by exact H.out.kept HK0.out (fun _ _ h => h)) (by omega)).mono ?_
  rintro e w1 ⟨rfl, ho1, hb1⟩
  have hz1 : w.heap.size + 1 < w1.heap.size := by have := (ho1.lt _ rfl).2; simpa using this
  have hO1 : Owns w1 (w.heap.size + 1) (.slice (some ⟨w.heap.size + 1, 0, none⟩) (wide ys).length (ys.length + 64)) (wide ys) := by simpa using ho1
  have HO1 : Hid (Owns w1 (w.heap.size + 1) (.slice (some ⟨w.heap.size + 1, 0, none⟩) (wide ys).length (ys.length + 64)) (wide ys)) := hO1
  clear hO1
  have hk1 : Kept w w1 (fun _ => False) := HK0.out.trans (news hb1) (fun _ _ h => h)
  have hbox1 : w1.heap[w.heap.size]? = some (opc 9 on n x s (.slice ao ys.length cap)) := (news hb1).heap (heap_alloc_new w _) (fun h => h)
  have HB1 : Hid (Kept w w1 (fun _ => False) ∧ w1.heap[w.heap.size]? = some (opc 9 on n x s (.slice ao ys.length cap)) ∧ Below w.heap.size w w1) := ⟨hk1, hbox1, (below_new w _).trans (hb1.mono (by simp))⟩
  have c5 := opc5 hbox1
  clear ho1 hb1 hk1 hbox1
  have ealloc : (w.alloc (opc 9 on n x s (.slice ao ys.length cap))).heap.size = w.heap.size + 1 := by simp
  try rw [ealloc]
  clear ealloc
  go_wp2_with fail
  refine (copyBytes_any _ ys _ (H.out.kept HB1.out.1 (fun _ _ h => h)) (by omega)).mono ?_
  rintro e w2 ⟨v2, rfl, ho2, hb2⟩
  have HB2 : Hid (Kept w w2 (fun _ => False) ∧ w2.heap[w.heap.size]? = some (opc 9 on n x s (.slice ao ys.length cap)) ∧ Owns w2 (w.heap.size + 1) (.slice (some ⟨w.heap.size + 1, 0, none⟩) (wide ys).length (ys.length + 64)) (wide ys) ∧ Below w.heap.size w w2) :=
    ⟨HB1.out.1.trans (news hb2) (fun _ _ h => h), (news hb2).heap HB1.out.2.1 (fun h => h), Owns.kept HO1.out (news hb2) (fun _ _ h => h), HB1.out.2.2.trans (hb2.mono HB1.out.2.2.size)⟩
  have c0 := opc0 HB2.out.2.1
  clear ho2 hb2 HB1 HO1 c5
  go_wp2_with fail
  refine (nRaw _ _).mono ?_
  rintro e w3 ⟨rfl, hw3⟩
  have hb3 : Below w2.heap.size w2 w3 := by rw [hw3]; exact Below.refl _ _
  clear hw3
  have HB3 : Hid (Below w.heap.size w w3 ∧ w3.heap[w.heap.size]? = some (opc 9 on n x s (.slice ao ys.length cap)) ∧ Owns w3 (w.heap.size + 1) (.slice (some ⟨w.heap.size + 1, 0, none⟩) (wide ys).length (ys.length + 64)) (wide ys) ∧ Sees w3 (.slice ao ys.length cap) ys) :=
    ⟨HB2.out.2.2.2.trans (hb3.mono HB2.out.2.2.2.size), (news hb3).heap HB2.out.2.1 (fun h => h), Owns.kept HB2.out.2.2.1 (news hb3) (fun _ _ h => h), (H.out.kept HB2.out.1 (fun _ _ h => h)).kept (news hb3) (fun _ _ h => h)⟩
  have hz3 : w.heap.size + 1 < w3.heap.size := (HB3.out.2.2.1.lt _ rfl).2
  have c5 := opc5 HB3.out.2.1
  clear hb3 HB2 c0
  have hb4 : Below w3.heap.size w3 w3 := Below.refl _ _
  have HB4 : Hid (Below w.heap.size w w3 ∧ w3.heap[w.heap.size]? = some (opc 9 on n x s (.slice ao ys.length cap)) ∧ Owns w3 (w.heap.size + 1) (.slice (some ⟨w.heap.size + 1, 0, none⟩) (wide ys).length (ys.length + 64)) (wide ys) ∧ Sees w3 (.slice ao ys.length cap) ys) :=
    ⟨HB3.out.1.trans (hb4.mono HB3.out.1.size), (news hb4).heap HB3.out.2.1 (fun h => h), Owns.kept HB3.out.2.2.1 (news hb4) (fun _ _ h => h), HB3.out.2.2.2.kept (news hb4) (fun _ _ h => h)⟩
  have c5' := opc5 HB4.out.2.1
  clear hb4 c5
  go_wp2_with fail
  have hin := sees_prefix HB4.out.2.2.1 (n := ys.length) (by rw [wide_len]; omega)
  rw [wide_take] at hin
  refine (eqBytes_any _ _ ys ys _ hin HB4.out.2.2.2).mono ?_
  clear hin
  rintro e w5 ⟨rfl, n5, hw5⟩
  have ed : decide (ys = ys) = true := by simp
  rw [ed]
  clear ed
  have hk5 : Kept w3 w5 (fun _ => False) := by rw [hw5]; exact (Kept.refl w3 _).drewN _
  have HB5 : Hid (Below w.heap.size w w5 ∧ Owns w5 (w.heap.size + 1) (.slice (some ⟨w.heap.size + 1, 0, none⟩) (wide ys).length (ys.length + 64)) (wide ys)) :=
    ⟨HB4.out.1.trans (hk5.below HB4.out.1.size (fun _ h => h.elim)), Owns.kept HB4.out.2.2.1 hk5 (fun _ _ h => h)⟩
  clear hw5 hk5 HB4 c5'
  go_wp2_with fail
  refine (spareBytes_any (w.heap.size + 1) ys (wide ys) _ HB5.out.2 (wide_len ys) (fun j h1 h2 => by rw [wide_nth ys j h2, if_neg (by omega)]) (by omega)).mono ?_
  rintro e w6 ⟨rfl, rfl⟩
  go_wp2_with fail
  refine (spoil_any (w.heap.size + 1) (wide ys) ys.length _ _ (owns_mono HB5.out.2 (Nat.zero_le _)) (by rw [wide_len]; omega) (by rw [wide_len]; omega)).mono ?_
  rintro e w7 ⟨rfl, hk7⟩
  have HR : Hid (Below w.heap.size w w7) := HB5.out.1.trans (hk7.below HB5.out.1.size (fun k hk => by omega))
  clear hk7 HB5 HB3
  go_wp2
  go_ret2
  exact ⟨_, _, rfl, HR.out⟩

theorem nput_all (kind on n : Int) (x : Nat) (s : ByteArray) (ao : Option Addr) (cap : Nat) (ys : List Int) (w : World) (hs : Sees w (.slice ao ys.length cap) ys) (hf : Fits n x s ys) : PutNil kind on n x s ao ys.length cap w := by
  by_cases hk : kind < 1 ∨ 9 < kind
  · exact nput_other on n x s ao _ cap w kind hk
  have hk9 : kind = 1 ∨ kind = 2 ∨ kind = 3 ∨ kind = 4 ∨ kind = 5 ∨ kind = 6 ∨ kind = 7 ∨ kind = 8 ∨ kind = 9 := by omega
  rcases hk9 with rfl | rfl | rfl | rfl | rfl | rfl | rfl | rfl | rfl
  · exact nput_bool on n x s ao _ cap w
  · exact nput_int8 on n x s ao _ cap w
  · exact nput_int32 on n x s ao _ cap w
  · exact nput_uint32 on n x s ao _ cap w
  · exact nput_int64 on n x s ao _ cap w ⟨hf.n0, hf.n1⟩
  · exact nput_float on n x s ao _ cap w hf.x1
  · exact nput_text on n x s ao _ cap w hf.s1
  · exact nput_buffer on n x s ao cap ys w hs hf.y1
  · exact nput_raw on n x s ao cap ys w hs hf.y1

end Go.Proofs.Ytmjcpcpcngpdjab
