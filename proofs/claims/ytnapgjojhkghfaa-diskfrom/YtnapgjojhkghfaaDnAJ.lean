/- What the calls of package disk answer of a disk that nobody made: a nil one and a plain one. -/
import Derived.Test.YtnapgjojhkghfaaChecked
import Derived.Test.YtnapgjojhkghfaaMemJ
import Derived.Deep.AppendLies
import Derived.Shelf.Abstract
namespace Go.Proofs.Ytnapgjojhkghfaa
open Go.RowKit Go.Shelf
set_option maxRecDepth 8000

/-- A plain disk's cells. -/
abbrev plainC : Array Value := #[.slice none 0 0, .bool false, .int .i64 0, .bool false, .int .i64 0, .int .i64 0]

/-- A disk that nobody made. -/
def Nd (v : Value) (V : World) : Prop := v = .pointer none ∨ ∃ p, v = .pointer (some ⟨p, 0, none⟩) ∧ V.heap[p]? = some (.cells plainC 68 (0, 0))

theorem Nd.below {v : Value} {V V' : World} (h : Nd v V) (hB : Below V.heap.size V V') : Nd v V' := by
  rcases h with h | ⟨p, h, hp⟩
  · exact .inl h
  · exact .inr ⟨p, h, (hB.block _ (lt_of_block hp)).trans hp⟩

theorem plain_cells {p : Nat} {V : World} (h : V.heap[p]? = some (.cells plainC 68 (0, 0))) : V.cell? ⟨p, 0, none⟩ = some (.slice none 0 0) ∧ V.cell? ⟨p, 1, none⟩ = some (.bool false) ∧ V.cell? ⟨p, 2, none⟩ = some (.int .i64 0) ∧ V.cell? ⟨p, 3, none⟩ = some (.bool false) ∧ V.cell? ⟨p, 4, none⟩ = some (.int .i64 0) ∧ V.cell? ⟨p, 5, none⟩ = some (.int .i64 0) :=
  ⟨cell_of_row V p 0 _ _ _ h, cell_of_row V p 1 _ _ _ h, cell_of_row V p 2 _ _ _ h, cell_of_row V p 3 _ _ _ h, cell_of_row V p 4 _ _ _ h, cell_of_row V p 5 _ _ _ h⟩

theorem on_nd {v : Value} {w : World} (h : Nd v w) : Calls Try.prog 29 #[v] w fun e w' => e = .returned (.bool false) ∧ w' = w := by
  rcases h with rfl | ⟨p, rfl, hp⟩
  · go_enter Try.func29, Try.ntmps29
    go_wp2
    all_goals (go_ret; exact ⟨rfl, rfl⟩)
  · obtain ⟨c0, c1, c2, c3, c4, c5⟩ := plain_cells hp
    have hl := lt_of_block hp
    clear hp
    go_enter Try.func29, Try.ntmps29
    go_wp2
    all_goals (go_ret; exact ⟨rfl, rfl⟩)

theorem writes_nd {v : Value} {w : World} (h : Nd v w) : Calls Try.prog 31 #[v] w fun e w' => e = .returned (.int .i64 0) ∧ w' = w := by
  rcases h with rfl | ⟨p, rfl, hp⟩
  · go_enter Try.func31, Try.ntmps31
    go_wp2
    all_goals (go_ret; exact ⟨rfl, rfl⟩)
  · obtain ⟨c0, c1, c2, c3, c4, c5⟩ := plain_cells hp
    have hl := lt_of_block hp
    clear hp
    go_enter Try.func31, Try.ntmps31
    go_wp2
    all_goals (go_ret; exact ⟨rfl, rfl⟩)

theorem arm_nd {v : Value} {w : World} (h : Nd v w) (n : Int) : Calls Try.prog 26 #[v, .int .i64 n] w fun e w' => e = .returned (.tuple #[]) ∧ w' = w := by
  have HO : Hid (Calls Try.prog 29 #[v] w fun e w' => e = .returned (.bool false) ∧ w' = w) := on_nd h
  clear h
  go_enter Try.func26, Try.ntmps26
  go_wp2_with (go_at_call 29; refine (HO.out).mono ?_; rintro e w' ⟨rfl, rfl⟩)
  all_goals ((first | go_end0 | refine bodyPost_ret (results_none rfl _ _ _) rfl ?_); exact ⟨rfl, rfl⟩)

theorem off_nd {v : Value} {w : World} (h : Nd v w) : Calls Try.prog 16 #[v] w fun e w' => e = .returned (.tuple #[]) ∧ w' = w := by
  have HO : Hid (Calls Try.prog 29 #[v] w fun e w' => e = .returned (.bool false) ∧ w' = w) := on_nd h
  clear h
  go_enter Try.func16, Try.ntmps16
  go_wp2_with (go_at_call 29; refine (HO.out).mono ?_; rintro e w' ⟨rfl, rfl⟩)
  all_goals ((first | go_end0 | refine bodyPost_ret (results_none rfl _ _ _) rfl ?_); exact ⟨rfl, rfl⟩)

theorem start_nd {v : Value} {w : World} (h : Nd v w) (k : Value) : Calls Try.prog 17 #[v, k] w fun e w' => e = .returned (.tuple #[]) ∧ w' = w := by
  rcases h with rfl | ⟨p, rfl, hp⟩
  · go_enter Try.func17, Try.ntmps17
    go_wp2
    all_goals (first | go_end0 | refine bodyPost_ret (results_none rfl _ _ _) rfl ?_; exact ⟨rfl, rfl⟩)
  · obtain ⟨c0, c1, c2, c3, c4, c5⟩ := plain_cells hp
    have hl := lt_of_block hp
    clear hp
    go_enter Try.func17, Try.ntmps17
    go_wp2
    all_goals (first | go_end0 | refine bodyPost_ret (results_none rfl _ _ _) rfl ?_; exact ⟨rfl, rfl⟩)

theorem ready_nd {v : Value} {w : World} (h : Nd v w) (k : Value) : Calls Try.prog 42 #[v, k] w fun e w' => e = .returned (.int .i64 1) ∧ w' = w := by
  rcases h with rfl | ⟨p, rfl, hp⟩
  · go_enter Try.func42, Try.ntmps42
    go_wp2
    all_goals (go_ret; exact ⟨rfl, rfl⟩)
  · obtain ⟨c0, c1, c2, c3, c4, c5⟩ := plain_cells hp
    have hl := lt_of_block hp
    clear hp
    go_enter Try.func42, Try.ntmps42
    go_wp2
    all_goals (go_ret; exact ⟨rfl, rfl⟩)

theorem usedS_nd {p : Nat} {w : World} (hp : w.heap[p]? = some (.cells plainC 68 (0, 0))) : Calls Try.prog 54 #[.pointer (some ⟨p, 0, none⟩)] w fun e w' => e = .returned (.int .i64 0) ∧ w' = w := by
  obtain ⟨c0, c1, c2, c3, c4, c5⟩ := plain_cells hp
  have hl := lt_of_block hp
  clear hp
  go_enter Try.func54, Try.ntmps54
  go_wp2
  go_loopw [3, 11] (fun vs vi wr => vs = .int .i64 0 ∧ vi = .int .i64 0 ∧ wr = w) (fun _ _ _ => 0)
  case atStart => exact ⟨rfl, rfl, rfl⟩
  case round =>
    obtain ⟨rfl, rfl, rfl⟩ := hrel
    go_wp2
    all_goals (go_ret; exact ⟨rfl, rfl⟩)

theorem make_str (w : World) : (Instr.makeSlice 52 (.int .i64 0) (.int .i64 0)).run Try.prog w = .ok (.slice (some ⟨w.heap.size, 0, none⟩) 0 0) (w.alloc (.cells #[] 9)) := by kernel_rfl

theorem make_file (w : World) : (Instr.makeSlice 38 (.int .i64 0) (.int .i64 0)).run Try.prog w = .ok (.slice (some ⟨w.heap.size, 0, none⟩) 0 0) (w.alloc (.cells #[] 63)) := by kernel_rfl

theorem namesS_nd {p : Nat} {w : World} (hp : w.heap[p]? = some (.cells plainC 68 (0, 0))) : Calls Try.prog 53 #[.pointer (some ⟨p, 0, none⟩)] w fun e w' => (∃ a, e = .returned (.slice a 0 0)) ∧ Below w.heap.size w w' := by
  obtain ⟨c0, c1, c2, c3, c4, c5⟩ := plain_cells hp
  have hl := lt_of_block hp
  have hmk := make_str
  have HB : Hid (Below w.heap.size w (w.alloc (.cells #[] 9))) := (Below.refl _ w).alloc (Nat.le_refl _) _
  clear hp
  go_enter Try.func53, Try.ntmps53
  go_wp2
  go_loopw [17] (fun vi wr => vi = .int .i64 0 ∧ wr = w.alloc (.cells #[] 9)) (fun _ _ => 0)
  case atStart => exact ⟨rfl, rfl⟩
  case round =>
    obtain ⟨rfl, rfl⟩ := hrel
    go_wp2
    all_goals (go_ret; exact ⟨⟨_, rfl⟩, HB.out⟩)

theorem imageS_nd {p : Nat} {w : World} (hp : w.heap[p]? = some (.cells plainC 68 (0, 0))) : Calls Try.prog 56 #[.pointer (some ⟨p, 0, none⟩)] w fun e w' => (∃ a, e = .returned (.slice a 0 0)) ∧ Below w.heap.size w w' := by
  obtain ⟨c0, c1, c2, c3, c4, c5⟩ := plain_cells hp
  have hl := lt_of_block hp
  have hmk := make_file
  have HB : Hid (Below w.heap.size w (w.alloc (.cells #[] 63))) := (Below.refl _ w).alloc (Nat.le_refl _) _
  clear hp
  go_enter Try.func56, Try.ntmps56
  go_wp2
  go_loopw [17] (fun vi wr => vi = .int .i64 0 ∧ wr = w.alloc (.cells #[] 63)) (fun _ _ => 0)
  case atStart => exact ⟨rfl, rfl⟩
  case round =>
    obtain ⟨rfl, rfl⟩ := hrel
    go_wp2
    all_goals (go_ret; exact ⟨⟨_, rfl⟩, HB.out⟩)

theorem used_nd {v : Value} {w : World} (h : Nd v w) : Calls Try.prog 24 #[v] w fun e w' => e = .returned (.int .i64 0) ∧ Below w.heap.size w w' := by
  rcases h with rfl | ⟨p, rfl, hp⟩
  · have HB : Hid (Below w.heap.size w w) := Below.refl _ _
    go_enter Try.func24, Try.ntmps24
    go_wp2
    all_goals (go_ret; exact ⟨rfl, HB.out⟩)
  · have HU : Hid (∀ V : World, V = w → Calls Try.prog 54 #[.pointer (some ⟨p, 0, none⟩)] V fun e w' => e = .returned (.int .i64 0) ∧ Below w.heap.size w w') := fun V hV => by subst hV; exact (usedS_nd hp).mono (fun e w' h => ⟨h.1, h.2 ▸ Below.refl _ _⟩)
    have hl := lt_of_block hp
    clear hp
    go_enter Try.func24, Try.ntmps24
    go_wp2_with (go_at_call 54; refine (HU.out _ rfl).mono ?_; rintro e w' ⟨rfl, hB⟩)
    all_goals (go_ret; exact ⟨rfl, hB⟩)

theorem names_nd {v : Value} {w : World} (h : Nd v w) : Calls Try.prog 22 #[v] w fun e w' => (∃ a, e = .returned (.slice a 0 0)) ∧ Below w.heap.size w w' := by
  rcases h with rfl | ⟨p, rfl, hp⟩
  · have HB : Hid (Below w.heap.size w w) := Below.refl _ _
    go_enter Try.func22, Try.ntmps22
    go_wp2
    all_goals (go_ret; exact ⟨⟨_, rfl⟩, HB.out⟩)
  · have HU : Hid (∀ V : World, V = w → Calls Try.prog 53 #[.pointer (some ⟨p, 0, none⟩)] V fun e w' => (∃ a, e = .returned (.slice a 0 0)) ∧ Below w.heap.size w w') := fun V hV => by subst hV; exact namesS_nd hp
    have hl := lt_of_block hp
    clear hp
    go_enter Try.func22, Try.ntmps22
    go_wp2_with (go_at_call 53; refine (HU.out _ rfl).mono ?_; rintro e w' ⟨⟨a, rfl⟩, hB⟩)
    all_goals (go_ret; exact ⟨⟨_, rfl⟩, hB⟩)

theorem image_nd {v : Value} {w : World} (h : Nd v w) : Calls Try.prog 33 #[v] w fun e w' => (∃ a, e = .returned (.slice a 0 0)) ∧ Below w.heap.size w w' := by
  rcases h with rfl | ⟨p, rfl, hp⟩
  · have HB : Hid (Below w.heap.size w w) := Below.refl _ _
    go_enter Try.func33, Try.ntmps33
    go_wp2
    all_goals (go_ret; exact ⟨⟨_, rfl⟩, HB.out⟩)
  · have HU : Hid (∀ V : World, V = w → Calls Try.prog 56 #[.pointer (some ⟨p, 0, none⟩)] V fun e w' => (∃ a, e = .returned (.slice a 0 0)) ∧ Below w.heap.size w w') := fun V hV => by subst hV; exact imageS_nd hp
    have hl := lt_of_block hp
    clear hp
    go_enter Try.func33, Try.ntmps33
    go_wp2_with (go_at_call 56; refine (HU.out _ rfl).mono ?_; rintro e w' ⟨⟨a, rfl⟩, hB⟩)
    all_goals (go_ret; exact ⟨⟨_, rfl⟩, hB⟩)

theorem open_nd {v : Value} {w : World} (h : Nd v w) (s : ByteArray) : Calls Try.prog 49 #[v, .string s] w fun e w' => e = .returned (.tuple #[.pointer none, .int .i64 1]) ∧ Below w.heap.size w w' := by
  have HR : Hid (∀ (V : World) (k : Value), Below w.heap.size w V → Calls Try.prog 42 #[v, k] V fun e w' => e = .returned (.int .i64 1) ∧ w' = V) := fun V k hV => ready_nd (h.below hV) k
  have HB : Hid (Below w.heap.size w (w.alloc (.cells #[.string s] 9))) := (Below.refl _ w).alloc (Nat.le_refl _) _
  clear h
  go_enter Try.func49, Try.ntmps49
  go_wp2_with (go_at_call 42; refine (HR.out _ _ HB.out).mono ?_; rintro e w' ⟨rfl, rfl⟩)
  all_goals (go_ret2; exact ⟨rfl, HB.out⟩)

theorem append_nd {v : Value} {w : World} (h : Nd v w) (s : ByteArray) (q : Value) : Calls Try.prog 14 #[v, .string s, q] w fun e w' => e = .returned (.int .i64 1) ∧ Below w.heap.size w w' := by
  have HR : Hid (∀ (V : World) (k : Value), Below w.heap.size w V → Calls Try.prog 42 #[v, k] V fun e w' => e = .returned (.int .i64 1) ∧ w' = V) := fun V k hV => ready_nd (h.below hV) k
  have HB : Hid (Below w.heap.size w (w.alloc (.cells #[.string s] 9))) := (Below.refl _ w).alloc (Nat.le_refl _) _
  clear h
  go_enter Try.func14, Try.ntmps14
  go_wp2_with (go_at_call 42; refine (HR.out _ _ HB.out).mono ?_; rintro e w' ⟨rfl, rfl⟩)
  all_goals (go_ret; exact ⟨rfl, HB.out⟩)

theorem rename_nd {v : Value} {w : World} (h : Nd v w) (s t : ByteArray) : Calls Try.prog 59 #[v, .string s, .string t] w fun e w' => e = .returned (.int .i64 1) ∧ Below w.heap.size w w' := by
  have HR : Hid (∀ (V : World) (k : Value), Below w.heap.size w V → Calls Try.prog 42 #[v, k] V fun e w' => e = .returned (.int .i64 1) ∧ w' = V) := fun V k hV => ready_nd (h.below hV) k
  have HB : Hid (Below w.heap.size w (w.alloc (.cells #[.string s, .string t] 9))) := (Below.refl _ w).alloc (Nat.le_refl _) _
  clear h
  go_enter Try.func59, Try.ntmps59
  go_wp2_with (go_at_call 42; refine (HR.out _ _ HB.out).mono ?_; rintro e w' ⟨rfl, rfl⟩)
  all_goals (go_ret; exact ⟨rfl, HB.out⟩)

theorem sync_nd {v : Value} {w : World} (h : Nd v w) (s : ByteArray) : Calls Try.prog 15 #[v, .string s] w fun e w' => e = .returned (.int .i64 1) ∧ Below w.heap.size w w' := by
  have HR : Hid (Calls Try.prog 49 #[v, .string s] w fun e w' => e = .returned (.tuple #[.pointer none, .int .i64 1]) ∧ Below w.heap.size w w') := open_nd h s
  clear h
  go_enter Try.func15, Try.ntmps15
  go_wp2_with (go_at_call 49; refine (HR.out).mono ?_; rintro e w' ⟨rfl, hB⟩)
  all_goals (go_ret; exact ⟨rfl, hB⟩)

theorem cut_nd {v : Value} {w : World} (h : Nd v w) (s : ByteArray) (n : Int) : Calls Try.prog 58 #[v, .string s, .int .i64 n] w fun e w' => e = .returned (.int .i64 1) ∧ Below w.heap.size w w' := by
  have HR : Hid (Calls Try.prog 49 #[v, .string s] w fun e w' => e = .returned (.tuple #[.pointer none, .int .i64 1]) ∧ Below w.heap.size w w') := open_nd h s
  clear h
  go_enter Try.func58, Try.ntmps58
  go_wp2_with (go_at_call 49; refine (HR.out).mono ?_; rintro e w' ⟨rfl, hB⟩)
  all_goals (go_ret; exact ⟨rfl, hB⟩)

theorem remove_nd {v : Value} {w : World} (h : Nd v w) (s : ByteArray) : Calls Try.prog 60 #[v, .string s] w fun e w' => e = .returned (.int .i64 1) ∧ Below w.heap.size w w' := by
  have HR : Hid (Calls Try.prog 49 #[v, .string s] w fun e w' => e = .returned (.tuple #[.pointer none, .int .i64 1]) ∧ Below w.heap.size w w') := open_nd h s
  clear h
  go_enter Try.func60, Try.ntmps60
  go_wp2_with (go_at_call 49; refine (HR.out).mono ?_; rintro e w' ⟨rfl, hB⟩)
  all_goals (go_ret; exact ⟨rfl, hB⟩)

theorem read_nd {v : Value} {w : World} (h : Nd v w) (s : ByteArray) : Calls Try.prog 18 #[v, .string s] w fun e w' => e = .returned (.tuple #[.slice none 0 0, .int .i64 1]) ∧ Below w.heap.size w w' := by
  have HR : Hid (Calls Try.prog 49 #[v, .string s] w fun e w' => e = .returned (.tuple #[.pointer none, .int .i64 1]) ∧ Below w.heap.size w w') := open_nd h s
  clear h
  go_enter Try.func18, Try.ntmps18
  go_wp2_with (go_at_call 49; refine (HR.out).mono ?_; rintro e w' ⟨rfl, hB⟩)
  all_goals (go_ret2; exact ⟨rfl, hB⟩)

end Go.Proofs.Ytnapgjojhkghfaa
