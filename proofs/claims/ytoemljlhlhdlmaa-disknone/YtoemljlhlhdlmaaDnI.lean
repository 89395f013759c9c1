/- DiskNone's walk. -/
import Derived.Test.YtoemljlhlhdlmaaDnB
import Derived.Test.YtoemljlhlhdlmaaDnH
namespace Go.Proofs.Ytoemljlhlhdlmaa
open Go.RowKit Go.Shelf
set_option maxRecDepth 8000

set_option maxHeartbeats 2000000 in
theorem diskNone_walk (kd n : Int) (s t : ByteArray) (q k : Value) (w : World) : Calls Try.prog 3 #[.agg #[.int .i64 kd, .string s, .string t, q, .int .i64 n, k]] w fun e w' => e = .returned (.bool true) ∧ Below w.heap.size w w' := by
  obtain ⟨W1, hW1⟩ : ∃ W, W = (w.alloc (.cells #[.int .i64 kd, .string s, .string t, q, .int .i64 n, k] 25)).alloc (.cells plainC 31) := ⟨_, rfl⟩
  have P1 : PO kd n s t q k (.pointer (some ⟨w.heap.size + 1, 0, none⟩)) w W1 := by
    rw [hW1]
    refine ⟨?_, ((Below.refl _ w).alloc (Nat.le_refl _) _).alloc (by simp only [World.size_alloc]; omega) _, .inr ⟨_, rfl, ?_⟩⟩
    · rw [Below.heap_alloc _ _ _ (by simp only [World.size_alloc]; omega)]; exact heap_alloc_new _ _
    · have := heap_alloc_new (w.alloc (.cells #[.int .i64 kd, .string s, .string t, q, .int .i64 n, k] 25)) (.cells plainC 31)
      rw [World.size_alloc] at this
      exact this
  have HL : Hid (∀ V, V = W1 → Calls Try.prog 4 #[] V fun e w' => e = .returned (.bool true) ∧ Hid (PO kd n s t q k (.pointer (some ⟨w.heap.size + 1, 0, none⟩)) w w')) := fun V hV => by
    subst hV
    exact (lives_yes V).mono (fun e w' h => ⟨h.1, P1.below h.2⟩)
  have HN : Hid (∀ V, Hid (PO kd n s t q k (.pointer (some ⟨w.heap.size + 1, 0, none⟩)) w V) → Calls Try.prog 5 #[.pointer none, .agg #[.int .i64 kd, .string s, .string t, q, .int .i64 n, k]] V fun e w' => e = .returned (.bool true) ∧ Hid (PO kd n s t q k (.pointer (some ⟨w.heap.size + 1, 0, none⟩)) w w')) := fun V hV =>
    (nothing_nd (.inl rfl)).mono (fun e w' h => ⟨h.1, hV.out.below h.2⟩)
  have HP : Hid (∀ V, Hid (PO kd n s t q k (.pointer (some ⟨w.heap.size + 1, 0, none⟩)) w V) → Calls Try.prog 5 #[.pointer (some ⟨w.heap.size + 1, 0, none⟩), .agg #[.int .i64 kd, .string s, .string t, q, .int .i64 n, k]] V fun e w' => e = .returned (.bool true) ∧ Hid (PO kd n s t q k (.pointer (some ⟨w.heap.size + 1, 0, none⟩)) w w')) := fun V hV =>
    (nothing_nd hV.out.2.2).mono (fun e w' h => ⟨h.1, hV.out.below h.2⟩)
  have HW : Hid (W1 = (w.alloc (.cells #[.int .i64 kd, .string s, .string t, q, .int .i64 n, k] 25)).alloc (.cells plainC 31)) := hW1
  clear hW1 P1
  go_enter Try.func3, Try.ntmps3
  go_wp2_with fail
  go_at_call 4
  refine (HL.out _ HW.out.symm).mono ?_
  rintro e w1 ⟨rfl, h1⟩
  obtain ⟨c0, c1, c2, c3, c4, c5⟩ := h1.out.cells
  go_wp2_with fail
  go_at_call 5
  refine (HN.out _ h1).mono ?_
  rintro e w2 ⟨rfl, h2⟩
  clear h1 c0 c1 c2 c3 c4 c5
  obtain ⟨c0, c1, c2, c3, c4, c5⟩ := h2.out.cells
  go_wp2_with fail
  go_at_call 5
  refine (HP.out _ h2).mono ?_
  rintro e w3 ⟨rfl, h3⟩
  go_wp2
  all_goals (go_ret; exact ⟨rfl, h3.out.2.1⟩)

end Go.Proofs.Ytoemljlhlhdlmaa
