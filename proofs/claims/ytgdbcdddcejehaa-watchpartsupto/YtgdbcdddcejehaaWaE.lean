/- What a board's Add answers. -/
import Derived.Test.YtgdbcdddcejehaaWaD
import Derived.Deep.RegionHeld
namespace Go.Proofs.Ytgdbcdddcejehaa
open Go.RowKit Go.Shelf
set_option maxRecDepth 8000

theorem mem_split {x : WaT} : ∀ {l : List WaT}, x ∈ l → ∃ a b, l = a ++ x :: b ∧ x ∉ a
  | y :: r, h => by
    by_cases e : y = x
    · subst e; exact ⟨[], r, rfl, by simp⟩
    · obtain ⟨a, b, e1, e2⟩ := mem_split (l := r) (by simpa [Ne.symm e] using h)
      exact ⟨y :: a, b, by rw [e1]; rfl, by simp [e2, Ne.symm e]⟩

set_option maxHeartbeats 1000000 in
theorem add_no {w : World} {b m : Nat} {v : Value} {l : List WaT} (x : WaT) (h : Bo w b m v l l) (hl : x.2.2.size ≤ 4294967296) (hx : waOk x = false) :
    Calls Try.prog 9 #[.pointer (some ⟨b, 0, none⟩), .agg (waCs x)] w fun e w' => e = .returned (.int .i64 1) ∧ Below w.heap.size w w' := by
  have hB : Below w.heap.size w (w.alloc (.cells (waCs x) 30)) := (Below.refl _ w).alloc (Nat.le_refl _) _
  have HN : Hid _ := isNone_no (h.below hB)
  have HW : Hid (Calls Try.prog 21 #[.agg (waCs x)] (w.alloc (.cells (waCs x) 30)) fun e w' => e = .returned (.tuple #[.nilIface, .bool false]) ∧ Hid (Below w.heap.size w w')) := by
    refine (wishOf_any x _ hl).mono (fun e w' hh => ⟨?_, hB.trans (hh.2.mono hB.size)⟩)
    have := hh.1
    rw [hx] at this
    exact this
  clear hB h hx
  go_enter Try.func9, Try.ntmps9
  go_wp2_with fail
  refine Calls.mono HN.out ?_
  rintro e w1 ⟨rfl, rfl⟩
  clear HN
  go_wp2_with fail
  go_at_call 21
  refine Calls.mono HW.out ?_
  rintro e w2 ⟨rfl, HB⟩
  clear HW
  go_wp2
  all_goals (go_ret; exact ⟨rfl, HB.out⟩)

/-- The box of a parameter in a later world. -/
theorem box_later {w w' : World} {o : Obj} {k : Nat} (h : w.heap[k]? = some o) (hB : Below w.heap.size w w') : w'.heap[k]? = some o := (hB.block _ (lt_of_block h)).trans h

set_option maxHeartbeats 1000000 in
theorem add_old {w : World} {b m : Nat} {v : Value} {l : List WaT} (x : WaT) (h : Bo w b m v l l) (hl : x.2.2.size ≤ 4294967296) (hx : waOk x = true) (hm : x ∈ l) :
    Calls Try.prog 9 #[.pointer (some ⟨b, 0, none⟩), .agg (waCs x)] w fun e w' => e = .returned (.int .i64 0) ∧ Below w.heap.size w w' := by
  have hB : Below w.heap.size w (w.alloc (.cells (waCs x) 30)) := (Below.refl _ w).alloc (Nat.le_refl _) _
  have HN : Hid _ := isNone_no (h.below hB)
  have HW : Hid (Calls Try.prog 21 #[.agg (waCs x)] (w.alloc (.cells (waCs x) 30)) fun e w' => e = .returned (.tuple #[wishV x, .bool true]) ∧ w'.heap[w.heap.size]? = some (.cells (waCs x) 30 (0, 0)) ∧ Hid (Below w.heap.size w w')) := by
    refine (wishOf_any x _ hl).mono (fun e w' hh => ⟨?_, box_later (heap_alloc_new w _) hh.2, hB.trans (hh.2.mono hB.size)⟩)
    have := hh.1
    rw [hx] at this
    exact this
  have HH : Hid (Bo w b m v l l) := h
  clear hB h hx
  go_enter Try.func9, Try.ntmps9
  go_wp2_with fail
  refine Calls.mono HN.out ?_
  rintro e w1 ⟨rfl, rfl⟩
  clear HN
  go_wp2_with fail
  go_at_call 21
  refine Calls.mono HW.out ?_
  rintro e w2 ⟨rfl, hbx, HB⟩
  clear HW
  have h2 := HH.out.below HB.out
  obtain ⟨l1, l2, e, hn⟩ := mem_split hm
  have hlk : ∀ n, (Instr.lookup 49 (.map (some m)) (.agg #[.int .i64 x.1, .int .i8 x.2.1, .string x.2.2]) true).run Try.prog (w2.drewN n) = .ok (.tuple #[wishV x, .bool true]) (w2.drewN n) := fun n => look_some (w := w2.drewN n) (by have := h2.hm; rw [e] at this; exact this) hn true
  have c1 := h2.c1
  have hz := lt_of_block h2.hb
  have hz2 := lt_of_block hbx
  have d0 := cell_of_row w2 w.heap.size 0 _ _ _ hbx
  have d1 := cell_of_row w2 w.heap.size 1 _ _ _ hbx
  have d2 := cell_of_row w2 w.heap.size 2 _ _ _ hbx
  clear h2 e hbx hm hn
  go_wp2_with fail
  go_quiet (fail)
  go_wp2
  all_goals (go_ret; exact ⟨rfl, below_drewN HB.out _⟩)

end Go.Proofs.Ytgdbcdddcejehaa
