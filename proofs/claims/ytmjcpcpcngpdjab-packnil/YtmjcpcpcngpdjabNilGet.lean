/- What get of the statements answers of a nil Reader, kind by kind: nothing (its two faults, where they are asked for, are ErrArg); nothing that was there before is changed. -/
import Derived.Test.YtmjcpcpcngpdjabNilPut
namespace Go.Proofs.Ytmjcpcpcngpdjab
open Go.RowKit

/-- Get answers nothing but the two faults e0, and nothing that was there before is changed. -/
abbrev GetNil (kind on n : Int) (x : Nat) (s : ByteArray) (ao : Option Addr) (l cap : Nat) (w : World) (e0 : Int) : Prop :=
  Calls Try.prog 17 #[.pointer none, opv kind on n x s (.slice ao l cap)] w fun e w' => e = .returned (.agg (told false 0 0 ⟨#[]⟩ (.slice none 0 0) e0 e0)) ∧ Below w.heap.size w w'

theorem below_told {w w1 : World} (h : Below w.heap.size w w1) (c0 c1 c2 c3 c4 c5 c6 : Value) :
    Below w.heap.size w (((((((w1.setCell ⟨w.heap.size + 1, 0, none⟩ c0).setCell ⟨w.heap.size + 1, 1, none⟩ c1).setCell ⟨w.heap.size + 1, 2, none⟩ c2).setCell ⟨w.heap.size + 1, 3, none⟩ c3).setCell ⟨w.heap.size + 1, 4, none⟩ c4).setCell ⟨w.heap.size + 1, 5, none⟩ c5).setCell ⟨w.heap.size + 1, 6, none⟩ c6) :=
  have hp : ∀ j, w.heap.size ≤ (⟨w.heap.size + 1, j, none⟩ : Addr).block := fun _ => Nat.le_succ _
  ((((((h.setCell (hp 0) c0).setCell (hp 1) c1).setCell (hp 2) c2).setCell (hp 3) c3).setCell (hp 4) c4).setCell (hp 5) c5).setCell (hp 6) c6

theorem told_two (w : World) (o : Obj) : ((w.alloc o).alloc told0).heap[w.heap.size + 1]? = some told0 := by
  have hn := heap_alloc_new (w.alloc o) told0
  have e : (w.alloc o).heap.size = w.heap.size + 1 := by simp
  rw [e] at hn
  exact hn

theorem below_two (w : World) (o o' : Obj) : Below w.heap.size w ((w.alloc o).alloc o') := (below_new w o).alloc (by simp) o'

section
variable (on n : Int) (x : Nat) (s : ByteArray) (ao : Option Addr) (l cap : Nat) (w : World)

set_option maxHeartbeats 400000 in
theorem nget_bool : GetNil 1 on n x s ao l cap w 0 := by
  unfold GetNil
  have hsf := store_float
  go_enter Try.func17, Try.ntmps17
  go_wp2_with fail
  refine (nBoolr _).mono ?_
  rintro e w1 ⟨rfl, hw⟩
  have hbox : w1.heap[w.heap.size + 1]? = some told0 := by rw [hw]; exact told_two _ _
  have HB : Hid (Below w.heap.size w w1) := by rw [hw]; exact below_two _ _ _
  obtain ⟨k0, k1, k2, k3, k4, k5, k6, kf⟩ := row7 hbox
  clear hw
  go_wp2
  exact got _ _ _ _ _ _ _ hbox rfl rfl ⟨rfl, below_told HB.out _ _ _ _ _ _ _⟩

set_option maxHeartbeats 400000 in
theorem nget_int8 : GetNil 2 on n x s ao l cap w 0 := by
  unfold GetNil
  have hsf := store_float
  go_enter Try.func17, Try.ntmps17
  go_wp2_with fail
  refine (nInt8r _).mono ?_
  rintro e w1 ⟨rfl, hw⟩
  have hbox : w1.heap[w.heap.size + 1]? = some told0 := by rw [hw]; exact told_two _ _
  have HB : Hid (Below w.heap.size w w1) := by rw [hw]; exact below_two _ _ _
  obtain ⟨k0, k1, k2, k3, k4, k5, k6, kf⟩ := row7 hbox
  clear hw
  go_wp2
  exact got _ _ _ _ _ _ _ hbox rfl rfl ⟨rfl, below_told HB.out _ _ _ _ _ _ _⟩

set_option maxHeartbeats 400000 in
theorem nget_int32 : GetNil 3 on n x s ao l cap w 0 := by
  unfold GetNil
  have hsf := store_float
  go_enter Try.func17, Try.ntmps17
  go_wp2_with fail
  refine (nInt32r _).mono ?_
  rintro e w1 ⟨rfl, hw⟩
  have hbox : w1.heap[w.heap.size + 1]? = some told0 := by rw [hw]; exact told_two _ _
  have HB : Hid (Below w.heap.size w w1) := by rw [hw]; exact below_two _ _ _
  obtain ⟨k0, k1, k2, k3, k4, k5, k6, kf⟩ := row7 hbox
  clear hw
  go_wp2
  exact got _ _ _ _ _ _ _ hbox rfl rfl ⟨rfl, below_told HB.out _ _ _ _ _ _ _⟩

set_option maxHeartbeats 400000 in
theorem nget_uint32 : GetNil 4 on n x s ao l cap w 0 := by
  unfold GetNil
  have hsf := store_float
  go_enter Try.func17, Try.ntmps17
  go_wp2_with fail
  refine (nUint32r _).mono ?_
  rintro e w1 ⟨rfl, hw⟩
  have hbox : w1.heap[w.heap.size + 1]? = some told0 := by rw [hw]; exact told_two _ _
  have HB : Hid (Below w.heap.size w w1) := by rw [hw]; exact below_two _ _ _
  obtain ⟨k0, k1, k2, k3, k4, k5, k6, kf⟩ := row7 hbox
  clear hw
  go_wp2
  exact got _ _ _ _ _ _ _ hbox rfl rfl ⟨rfl, below_told HB.out _ _ _ _ _ _ _⟩

set_option maxHeartbeats 400000 in
theorem nget_int64 : GetNil 5 on n x s ao l cap w 0 := by
  unfold GetNil
  have hsf := store_float
  go_enter Try.func17, Try.ntmps17
  go_wp2_with fail
  refine (nInt64r _).mono ?_
  rintro e w1 ⟨rfl, hw⟩
  have hbox : w1.heap[w.heap.size + 1]? = some told0 := by rw [hw]; exact told_two _ _
  have HB : Hid (Below w.heap.size w w1) := by rw [hw]; exact below_two _ _ _
  obtain ⟨k0, k1, k2, k3, k4, k5, k6, kf⟩ := row7 hbox
  clear hw
  go_wp2
  exact got _ _ _ _ _ _ _ hbox rfl rfl ⟨rfl, below_told HB.out _ _ _ _ _ _ _⟩

set_option maxHeartbeats 400000 in
theorem nget_float : GetNil 6 on n x s ao l cap w 0 := by
  unfold GetNil
  have hsf := store_float
  go_enter Try.func17, Try.ntmps17
  go_wp2_with fail
  refine (nFloatr _).mono ?_
  rintro e w1 ⟨rfl, hw⟩
  have hbox : w1.heap[w.heap.size + 1]? = some told0 := by rw [hw]; exact told_two _ _
  have HB : Hid (Below w.heap.size w w1) := by rw [hw]; exact below_two _ _ _
  obtain ⟨k0, k1, k2, k3, k4, k5, k6, kf⟩ := row7 hbox
  clear hw
  go_wp2
  exact got _ _ _ _ _ _ _ hbox rfl rfl ⟨rfl, below_told HB.out _ _ _ _ _ _ _⟩

set_option maxHeartbeats 400000 in
theorem nget_text : GetNil 7 on n x s ao l cap w 0 := by
  unfold GetNil
  have hsf := store_float
  go_enter Try.func17, Try.ntmps17
  go_wp2_with fail
  refine (bound_any n _).mono ?_
  rintro e w0 ⟨rfl, rfl⟩
  go_wp2_with fail
  refine (nTextr n _).mono ?_
  rintro e w1 ⟨rfl, hw⟩
  have hbox : w1.heap[w.heap.size + 1]? = some told0 := by rw [hw]; exact told_two _ _
  have HB : Hid (Below w.heap.size w w1) := by rw [hw]; exact below_two _ _ _
  obtain ⟨k0, k1, k2, k3, k4, k5, k6, kf⟩ := row7 hbox
  clear hw
  go_wp2
  exact got _ _ _ _ _ _ _ hbox rfl rfl ⟨rfl, below_told HB.out _ _ _ _ _ _ _⟩

set_option maxHeartbeats 400000 in
theorem nget_buffer : GetNil 8 on n x s ao l cap w 0 := by
  unfold GetNil
  have hsf := store_float
  go_enter Try.func17, Try.ntmps17
  go_wp2_with fail
  refine (bound_any n _).mono ?_
  rintro e w0 ⟨rfl, rfl⟩
  go_wp2_with fail
  refine (nBufferr n _).mono ?_
  rintro e w1 ⟨rfl, hw⟩
  have hbox : w1.heap[w.heap.size + 1]? = some told0 := by rw [hw]; exact told_two _ _
  have HB : Hid (Below w.heap.size w w1) := by rw [hw]; exact below_two _ _ _
  obtain ⟨k0, k1, k2, k3, k4, k5, k6, kf⟩ := row7 hbox
  clear hw
  go_wp2
  exact got _ _ _ _ _ _ _ hbox rfl rfl ⟨rfl, below_told HB.out _ _ _ _ _ _ _⟩

set_option maxHeartbeats 400000 in
theorem nget_raw : GetNil 9 on n x s ao l cap w 0 := by
  unfold GetNil
  have hsf := store_float
  go_enter Try.func17, Try.ntmps17
  go_wp2_with fail
  refine (bound_any n _).mono ?_
  rintro e w0 ⟨rfl, rfl⟩
  go_wp2_with fail
  refine (nRawr n _).mono ?_
  rintro e w1 ⟨rfl, hw⟩
  have hbox : w1.heap[w.heap.size + 1]? = some told0 := by rw [hw]; exact told_two _ _
  have HB : Hid (Below w.heap.size w w1) := by rw [hw]; exact below_two _ _ _
  obtain ⟨k0, k1, k2, k3, k4, k5, k6, kf⟩ := row7 hbox
  clear hw
  go_wp2
  exact got _ _ _ _ _ _ _ hbox rfl rfl ⟨rfl, below_told HB.out _ _ _ _ _ _ _⟩

set_option maxHeartbeats 400000 in
theorem nget_fail : GetNil 11 on n x s ao l cap w 0 := by
  unfold GetNil
  have hsf := store_float
  go_enter Try.func17, Try.ntmps17
  go_wp2_with fail
  refine (nFail n _).mono ?_
  rintro e w1 ⟨rfl, hw⟩
  have hbox : w1.heap[w.heap.size + 1]? = some told0 := by rw [hw]; exact told_two _ _
  have HB : Hid (Below w.heap.size w w1) := by rw [hw]; exact below_two _ _ _
  obtain ⟨k0, k1, k2, k3, k4, k5, k6, kf⟩ := row7 hbox
  clear hw
  go_wp2
  exact got _ _ _ _ _ _ _ hbox rfl rfl ⟨rfl, below_told HB.out _ _ _ _ _ _ _⟩

set_option maxHeartbeats 400000 in
theorem nget_ask : GetNil 10 on n x s ao l cap w 1 := by
  unfold GetNil
  have hsf := store_float
  go_enter Try.func17, Try.ntmps17
  go_wp2_with fail
  refine (nLeft _).mono ?_
  rintro e w1 ⟨rfl, hw⟩
  have hbox : w1.heap[w.heap.size + 1]? = some told0 := by rw [hw]; exact told_two _ _
  have HB : Hid (Below w.heap.size w w1) := by rw [hw]; exact below_two _ _ _
  obtain ⟨k0, k1, k2, k3, k4, k5, k6, kf⟩ := row7 hbox
  clear hw
  go_wp2_with fail
  refine (nErr _).mono ?_
  rintro e w2 ⟨rfl, rfl⟩
  go_wp2_with fail
  refine (nEnd _).mono ?_
  rintro e w2 ⟨rfl, rfl⟩
  go_wp2
  exact got _ _ _ _ _ _ _ hbox rfl rfl ⟨rfl, below_told HB.out _ _ _ _ _ _ _⟩

end
end Go.Proofs.Ytmjcpcpcngpdjab
