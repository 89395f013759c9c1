/- What the calls of package disk answer of a disk that nobody made: a nil one and a plain one. -/
import Derived.Test.YtbdokdhconhifaaGreatDoorChecked
import Derived.Test.YtbdokdhconhifaaGreatDoorMemJ
import Derived.Deep.AppendLies
import Derived.Shelf.Abstract
import Derived.Test.YtbdokdhconhifaaGreatDoorShelfCJ
namespace Go.Proofs.YtbdokdhconhifaaGreatDoor
open Go.RowKit Go.Shelf
set_option maxRecDepth 8000

/-- A plain disk's cells. -/
abbrev plainC : Array Value := #[.slice none 0 0, .bool false, .int .i64 0, .bool false, .int .i64 0, .int .i64 0]

/-- A disk that nobody made. -/
def Nd (v : Value) (V : World) : Prop := v = .pointer none ∨ ∃ p, v = .pointer (some ⟨p, 0, none⟩) ∧ V.heap[p]? = some (.cells plainC 76 (0, 0))

theorem Nd.below {v : Value} {V V' : World} (h : Nd v V) (hB : Below V.heap.size V V') : Nd v V' := by
  rcases h with h | ⟨p, h, hp⟩
  · exact .inl h
  · exact .inr ⟨p, h, (hB.block _ (lt_of_block hp)).trans hp⟩

theorem plain_cells {p : Nat} {V : World} (h : V.heap[p]? = some (.cells plainC 76 (0, 0))) : V.cell? ⟨p, 0, none⟩ = some (.slice none 0 0) ∧ V.cell? ⟨p, 1, none⟩ = some (.bool false) ∧ V.cell? ⟨p, 2, none⟩ = some (.int .i64 0) ∧ V.cell? ⟨p, 3, none⟩ = some (.bool false) ∧ V.cell? ⟨p, 4, none⟩ = some (.int .i64 0) ∧ V.cell? ⟨p, 5, none⟩ = some (.int .i64 0) :=
  ⟨cell_of_row V p 0 _ _ _ h, cell_of_row V p 1 _ _ _ h, cell_of_row V p 2 _ _ _ h, cell_of_row V p 3 _ _ _ h, cell_of_row V p 4 _ _ _ h, cell_of_row V p 5 _ _ _ h⟩

theorem on_nd {v : Value} {w : World} (h : Nd v w) : Calls Tryz.prog 61 #[v] w fun e w' => e = .returned (.bool false) ∧ w' = w := by
  rcases h with rfl | ⟨p, rfl, hp⟩
  · go_enter Tryz.func61, Tryz.ntmps61
    go_wp2
    all_goals (go_ret; exact ⟨rfl, rfl⟩)
  · obtain ⟨c0, c1, c2, c3, c4, c5⟩ := plain_cells hp
    have hl := lt_of_block hp
    clear hp
    go_enter Tryz.func61, Tryz.ntmps61
    go_wp2
    all_goals (go_ret; exact ⟨rfl, rfl⟩)

theorem writes_nd {v : Value} {w : World} (h : Nd v w) : Calls Tryz.prog 63 #[v] w fun e w' => e = .returned (.int .i64 0) ∧ w' = w := by
  rcases h with rfl | ⟨p, rfl, hp⟩
  · go_enter Tryz.func63, Tryz.ntmps63
    go_wp2
    all_goals (go_ret; exact ⟨rfl, rfl⟩)
  · obtain ⟨c0, c1, c2, c3, c4, c5⟩ := plain_cells hp
    have hl := lt_of_block hp
    clear hp
    go_enter Tryz.func63, Tryz.ntmps63
    go_wp2
    all_goals (go_ret; exact ⟨rfl, rfl⟩)

theorem off_nd {v : Value} {w : World} (h : Nd v w) : Calls Tryz.prog 32 #[v] w fun e w' => e = .returned (.tuple #[]) ∧ w' = w := by
  have HO : Hid (Calls Tryz.prog 61 #[v] w fun e w' => e = .returned (.bool false) ∧ w' = w) := on_nd h
  clear h
  go_enter Tryz.func32, Tryz.ntmps32
  go_wp2_with (go_at_call 61; refine (HO.out).mono ?_; rintro e w' ⟨rfl, rfl⟩)
  all_goals ((first | go_end0 | refine bodyPost_ret (results_none rfl _ _ _) rfl ?_); exact ⟨rfl, rfl⟩)

theorem start_nd {v : Value} {w : World} (h : Nd v w) (k : Value) : Calls Tryz.prog 33 #[v, k] w fun e w' => e = .returned (.tuple #[]) ∧ w' = w := by
  rcases h with rfl | ⟨p, rfl, hp⟩
  · go_enter Tryz.func33, Tryz.ntmps33
    go_wp2
    all_goals (first | go_end0 | refine bodyPost_ret (results_none rfl _ _ _) rfl ?_; exact ⟨rfl, rfl⟩)
  · obtain ⟨c0, c1, c2, c3, c4, c5⟩ := plain_cells hp
    have hl := lt_of_block hp
    clear hp
    go_enter Tryz.func33, Tryz.ntmps33
    go_wp2
    all_goals (first | go_end0 | refine bodyPost_ret (results_none rfl _ _ _) rfl ?_; exact ⟨rfl, rfl⟩)

theorem ready_nd {v : Value} {w : World} (h : Nd v w) (k : Value) : Calls Tryz.prog 70 #[v, k] w fun e w' => e = .returned (.int .i64 1) ∧ w' = w := by
  rcases h with rfl | ⟨p, rfl, hp⟩
  · go_enter Tryz.func70, Tryz.ntmps70
    go_wp2
    all_goals (go_ret; exact ⟨rfl, rfl⟩)
  · obtain ⟨c0, c1, c2, c3, c4, c5⟩ := plain_cells hp
    have hl := lt_of_block hp
    clear hp
    go_enter Tryz.func70, Tryz.ntmps70
    go_wp2
    all_goals (go_ret; exact ⟨rfl, rfl⟩)

theorem usedS_nd {p : Nat} {w : World} (hp : w.heap[p]? = some (.cells plainC 76 (0, 0))) : Calls Tryz.prog 95 #[.pointer (some ⟨p, 0, none⟩)] w fun e w' => e = .returned (.int .i64 0) ∧ w' = w := by
  obtain ⟨c0, c1, c2, c3, c4, c5⟩ := plain_cells hp
  have hl := lt_of_block hp
  clear hp
  go_enter Tryz.func95, Tryz.ntmps95
  go_wp2
  go_loopw [3, 11] (fun vs vi wr => vs = .int .i64 0 ∧ vi = .int .i64 0 ∧ wr = w) (fun _ _ _ => 0)
  case atStart => exact ⟨rfl, rfl, rfl⟩
  case round =>
    obtain ⟨rfl, rfl, rfl⟩ := hrel
    go_wp2
    all_goals (go_ret; exact ⟨rfl, rfl⟩)

theorem make_str (w : World) : (Instr.makeSlice 56 (.int .i64 0) (.int .i64 0)).run Tryz.prog w = .ok (.slice (some ⟨w.heap.size, 0, none⟩) 0 0) (w.alloc (.cells #[] 9)) := by kernel_rfl

theorem make_file (w : World) : (Instr.makeSlice 22 (.int .i64 0) (.int .i64 0)).run Tryz.prog w = .ok (.slice (some ⟨w.heap.size, 0, none⟩) 0 0) (w.alloc (.cells #[] 71)) := by kernel_rfl

theorem namesS_nd {p : Nat} {w : World} (hp : w.heap[p]? = some (.cells plainC 76 (0, 0))) : Calls Tryz.prog 36 #[.pointer (some ⟨p, 0, none⟩)] w fun e w' => (∃ a, e = .returned (.slice a 0 0)) ∧ Below w.heap.size w w' := by
  obtain ⟨c0, c1, c2, c3, c4, c5⟩ := plain_cells hp
  have hl := lt_of_block hp
  have hmk := make_str
  have HB : Hid (Below w.heap.size w (w.alloc (.cells #[] 9))) := (Below.refl _ w).alloc (Nat.le_refl _) _
  clear hp
  go_enter Tryz.func36, Tryz.ntmps36
  go_wp2
  go_loopw [17] (fun vi wr => vi = .int .i64 0 ∧ wr = w.alloc (.cells #[] 9)) (fun _ _ => 0)
  case atStart => exact ⟨rfl, rfl⟩
  case round =>
    obtain ⟨rfl, rfl⟩ := hrel
    go_wp2
    all_goals (go_ret; exact ⟨⟨_, rfl⟩, HB.out⟩)

theorem imageS_nd {p : Nat} {w : World} (hp : w.heap[p]? = some (.cells plainC 76 (0, 0))) : Calls Tryz.prog 37 #[.pointer (some ⟨p, 0, none⟩)] w fun e w' => (∃ a, e = .returned (.slice a 0 0)) ∧ Below w.heap.size w w' := by
  obtain ⟨c0, c1, c2, c3, c4, c5⟩ := plain_cells hp
  have hl := lt_of_block hp
  have hmk := make_file
  have HB : Hid (Below w.heap.size w (w.alloc (.cells #[] 71))) := (Below.refl _ w).alloc (Nat.le_refl _) _
  clear hp
  go_enter Tryz.func37, Tryz.ntmps37
  go_wp2
  go_loopw [17] (fun vi wr => vi = .int .i64 0 ∧ wr = w.alloc (.cells #[] 71)) (fun _ _ => 0)
  case atStart => exact ⟨rfl, rfl⟩
  case round =>
    obtain ⟨rfl, rfl⟩ := hrel
    go_wp2
    all_goals (go_ret; exact ⟨⟨_, rfl⟩, HB.out⟩)

theorem used_nd {v : Value} {w : World} (h : Nd v w) : Calls Tryz.prog 62 #[v] w fun e w' => e = .returned (.int .i64 0) ∧ Below w.heap.size w w' := by
  rcases h with rfl | ⟨p, rfl, hp⟩
  · have HB : Hid (Below w.heap.size w w) := Below.refl _ _
    go_enter Tryz.func62, Tryz.ntmps62
    go_wp2
    all_goals (go_ret; exact ⟨rfl, HB.out⟩)
  · have HU : Hid (∀ V : World, V = w → Calls Tryz.prog 95 #[.pointer (some ⟨p, 0, none⟩)] V fun e w' => e = .returned (.int .i64 0) ∧ Below w.heap.size w w') := fun V hV => by subst hV; exact (usedS_nd hp).mono (fun e w' h => ⟨h.1, h.2 ▸ Below.refl _ _⟩)
    have hl := lt_of_block hp
    clear hp
    go_enter Tryz.func62, Tryz.ntmps62
    go_wp2_with (go_at_call 95; refine (HU.out _ rfl).mono ?_; rintro e w' ⟨rfl, hB⟩)
    all_goals (go_ret; exact ⟨rfl, hB⟩)

theorem names_nd {v : Value} {w : World} (h : Nd v w) : Calls Tryz.prog 12 #[v] w fun e w' => (∃ a, e = .returned (.slice a 0 0)) ∧ Below w.heap.size w w' := by
  rcases h with rfl | ⟨p, rfl, hp⟩
  · have HB : Hid (Below w.heap.size w w) := Below.refl _ _
    go_enter Tryz.func12, Tryz.ntmps12
    go_wp2
    all_goals (go_ret; exact ⟨⟨_, rfl⟩, HB.out⟩)
  · have HU : Hid (∀ V : World, V = w → Calls Tryz.prog 36 #[.pointer (some ⟨p, 0, none⟩)] V fun e w' => (∃ a, e = .returned (.slice a 0 0)) ∧ Below w.heap.size w w') := fun V hV => by subst hV; exact namesS_nd hp
    have hl := lt_of_block hp
    clear hp
    go_enter Tryz.func12, Tryz.ntmps12
    go_wp2_with (go_at_call 36; refine (HU.out _ rfl).mono ?_; rintro e w' ⟨⟨a, rfl⟩, hB⟩)
    all_goals (go_ret; exact ⟨⟨_, rfl⟩, hB⟩)

theorem image_nd {v : Value} {w : World} (h : Nd v w) : Calls Tryz.prog 14 #[v] w fun e w' => (∃ a, e = .returned (.slice a 0 0)) ∧ Below w.heap.size w w' := by
  rcases h with rfl | ⟨p, rfl, hp⟩
  · have HB : Hid (Below w.heap.size w w) := Below.refl _ _
    go_enter Tryz.func14, Tryz.ntmps14
    go_wp2
    all_goals (go_ret; exact ⟨⟨_, rfl⟩, HB.out⟩)
  · have HU : Hid (∀ V : World, V = w → Calls Tryz.prog 37 #[.pointer (some ⟨p, 0, none⟩)] V fun e w' => (∃ a, e = .returned (.slice a 0 0)) ∧ Below w.heap.size w w') := fun V hV => by subst hV; exact imageS_nd hp
    have hl := lt_of_block hp
    clear hp
    go_enter Tryz.func14, Tryz.ntmps14
    go_wp2_with (go_at_call 37; refine (HU.out _ rfl).mono ?_; rintro e w' ⟨⟨a, rfl⟩, hB⟩)
    all_goals (go_ret; exact ⟨⟨_, rfl⟩, hB⟩)

theorem open_nd {v : Value} {w : World} (h : Nd v w) (s : ByteArray) : Calls Tryz.prog 34 #[v, .string s] w fun e w' => e = .returned (.tuple #[.pointer none, .int .i64 1]) ∧ Below w.heap.size w w' := by
  have HR : Hid (∀ (V : World) (k : Value), Below w.heap.size w V → Calls Tryz.prog 70 #[v, k] V fun e w' => e = .returned (.int .i64 1) ∧ w' = V) := fun V k hV => ready_nd (h.below hV) k
  have HB : Hid (Below w.heap.size w (w.alloc (.cells #[.string s] 9))) := (Below.refl _ w).alloc (Nat.le_refl _) _
  clear h
  go_enter Tryz.func34, Tryz.ntmps34
  go_wp2_with (go_at_call 70; refine (HR.out _ _ HB.out).mono ?_; rintro e w' ⟨rfl, rfl⟩)
  all_goals (go_ret2; exact ⟨rfl, HB.out⟩)

theorem append_nd {v : Value} {w : World} (h : Nd v w) (s : ByteArray) (q : Value) : Calls Tryz.prog 30 #[v, .string s, q] w fun e w' => e = .returned (.int .i64 1) ∧ Below w.heap.size w w' := by
  have HR : Hid (∀ (V : World) (k : Value), Below w.heap.size w V → Calls Tryz.prog 70 #[v, k] V fun e w' => e = .returned (.int .i64 1) ∧ w' = V) := fun V k hV => ready_nd (h.below hV) k
  have HB : Hid (Below w.heap.size w (w.alloc (.cells #[.string s] 9))) := (Below.refl _ w).alloc (Nat.le_refl _) _
  clear h
  go_enter Tryz.func30, Tryz.ntmps30
  go_wp2_with (go_at_call 70; refine (HR.out _ _ HB.out).mono ?_; rintro e w' ⟨rfl, rfl⟩)
  all_goals (go_ret; exact ⟨rfl, HB.out⟩)

theorem sync_nd {v : Value} {w : World} (h : Nd v w) (s : ByteArray) : Calls Tryz.prog 31 #[v, .string s] w fun e w' => e = .returned (.int .i64 1) ∧ Below w.heap.size w w' := by
  have HR : Hid (Calls Tryz.prog 34 #[v, .string s] w fun e w' => e = .returned (.tuple #[.pointer none, .int .i64 1]) ∧ Below w.heap.size w w') := open_nd h s
  clear h
  go_enter Tryz.func31, Tryz.ntmps31
  go_wp2_with (go_at_call 34; refine (HR.out).mono ?_; rintro e w' ⟨rfl, hB⟩)
  all_goals (go_ret; exact ⟨rfl, hB⟩)

theorem read_nd {v : Value} {w : World} (h : Nd v w) (s : ByteArray) : Calls Tryz.prog 9 #[v, .string s] w fun e w' => e = .returned (.tuple #[.slice none 0 0, .int .i64 1]) ∧ Below w.heap.size w w' := by
  have HR : Hid (Calls Tryz.prog 34 #[v, .string s] w fun e w' => e = .returned (.tuple #[.pointer none, .int .i64 1]) ∧ Below w.heap.size w w') := open_nd h s
  clear h
  go_enter Tryz.func9, Tryz.ntmps9
  go_wp2_with (go_at_call 34; refine (HR.out).mono ?_; rintro e w' ⟨rfl, hB⟩)
  all_goals (go_ret2; exact ⟨rfl, hB⟩)

end Go.Proofs.YtbdokdhconhifaaGreatDoor

/- Package disk at one small file named a: what is only read. -/
namespace Go.Proofs.YtbdokdhconhifaaGreatDoor
open Go.RowKit Go.Shelf
set_option maxRecDepth 8000

abbrev aB : ByteArray := ⟨#[97]⟩

theorem isName_a (w : World) : Calls Tryz.prog 64 #[.string aB] w fun e w' => e = .returned (.bool true) ∧ w' = w := by
  have hz : aB.size = 1 := rfl
  have ha : (aB[0]'(by decide)).toNat = 97 := rfl
  go_enter Tryz.func64, Tryz.ntmps64
  go_wp2
  go_loopw [15] (fun vi wr => (vi = .int .i64 0 ∨ vi = .int .i64 1) ∧ wr = w) (fun vi _ => (1 - intOf vi).toNat)
  case atStart => exact ⟨.inl rfl, rfl⟩
  case round =>
    obtain ⟨rfl | rfl, rfl⟩ := hrel
    · go_wp2
      go_roundw
      case rel => exact ⟨.inr rfl, trivial⟩
      case measure => simp [intOf]
    · go_wp2
      all_goals (go_ret; exact ⟨rfl, rfl⟩)

/-- The one disk: its cells. -/
abbrev dkC (fs : Value) (on : Bool) (wr : Int) : Array Value := #[fs, .bool true, .int .i64 10, .bool on, .int .i64 (-1), .int .i64 wr]

theorem dk_cells {d : Nat} {fs : Value} {on : Bool} {wr : Int} {V : World} (h : V.heap[d]? = some (.cells (dkC fs on wr) 76 (0, 0))) : V.cell? ⟨d, 0, none⟩ = some fs ∧ V.cell? ⟨d, 1, none⟩ = some (.bool true) ∧ V.cell? ⟨d, 2, none⟩ = some (.int .i64 10) ∧ V.cell? ⟨d, 3, none⟩ = some (.bool on) ∧ V.cell? ⟨d, 4, none⟩ = some (.int .i64 (-1)) ∧ V.cell? ⟨d, 5, none⟩ = some (.int .i64 wr) :=
  ⟨cell_of_row V d 0 _ _ _ h, cell_of_row V d 1 _ _ _ h, cell_of_row V d 2 _ _ _ h, cell_of_row V d 3 _ _ _ h, cell_of_row V d 4 _ _ _ h, cell_of_row V d 5 _ _ _ h⟩

/-- ready of a name. -/
theorem ready_a {d : Nat} {fs : Value} {wr : Int} {w : World} {m : Nat} (h : w.heap[d]? = some (.cells (dkC fs true wr) 76 (0, 0))) (hm : w.cell? ⟨m, 0, none⟩ = some (.string aB)) :
    Calls Tryz.prog 70 #[.pointer (some ⟨d, 0, none⟩), .slice (some ⟨m, 0, none⟩) 1 1] w fun e w' => e = .returned (.int .i64 0) ∧ w' = w := by
  obtain ⟨c0, c1, c2, c3, c4, c5⟩ := dk_cells h
  have hl := lt_of_block h
  clear h
  have HI : Hid (∀ V : World, Calls Tryz.prog 64 #[.string aB] V fun e w' => e = .returned (.bool true) ∧ w' = V) := isName_a
  go_enter Tryz.func70, Tryz.ntmps70
  go_wp2
  go_loopw [23] (fun vi wr => (vi = .int .i64 0 ∨ vi = .int .i64 1) ∧ wr = w) (fun vi _ => (1 - intOf vi).toNat)
  case atStart => exact ⟨.inl rfl, rfl⟩
  case round =>
    obtain ⟨rfl | rfl, rfl⟩ := hrel
    · go_wp2_with (go_at_call 64; refine (HI.out _).mono ?_; rintro e w' ⟨rfl, rfl⟩)
      go_roundw
      case rel => exact ⟨.inr rfl, trivial⟩
      case measure => simp [intOf]
    · go_wp2
      all_goals (go_ret; exact ⟨rfl, rfl⟩)

/-- The search in no files. -/
theorem search0 (w : World) : Calls Tryz.prog 101 #[.slice none 0 0, .string aB, .func (.func 102) #[] #[]] w fun e w' => e = .returned (.tuple #[.int .i64 0, .bool false]) ∧ w' = w := by
  go_enter Tryz.func101, Tryz.ntmps101
  go_wp2
  go_loopw [9, 10] (fun vi vj wr => vi = .int .i64 0 ∧ vj = .int .i64 0 ∧ wr = w) (fun _ _ _ => 0)
  case atStart => exact ⟨rfl, rfl, rfl⟩
  case round =>
    obtain ⟨rfl, rfl, rfl⟩ := hrel
    go_wp2
    all_goals (go_ret2; exact ⟨rfl, rfl⟩)

theorem cmp_a {f : Nat} {u v : Value} {w : World} (hf : w.heap[f]? = some (.cells #[.string aB, u, v] 122 (0, 0))) : Calls Tryz.prog 102 #[.pointer (some ⟨f, 0, none⟩), .string aB] w fun e w' => e = .returned (.int .i64 0) ∧ w' = w := by
  have c0 : w.cell? ⟨f, 0, none⟩ = some (.string aB) := cell_of_row w f 0 _ _ _ hf
  have hl := lt_of_block hf
  have HC : Hid (∀ V : World, Calls Tryz.prog 103 #[.string aB, .string aB] V fun e w' => e = .returned (.int .i64 0) ∧ w' = V) := fun V => Tryz.strings_Compare aB aB V
  clear hf
  go_enter Tryz.func102, Tryz.ntmps102
  go_wp2_with (go_at_call 103; refine (HC.out _).mono ?_; rintro e w' ⟨rfl, rfl⟩)
  all_goals (go_ret; exact ⟨rfl, rfl⟩)

/-- The search in one file of that name. -/
theorem search1 {b f c : Nat} {u v : Value} {w : World} (hb : w.cell? ⟨b, 0, none⟩ = some (.pointer (some ⟨f, 0, none⟩))) (hf : w.heap[f]? = some (.cells #[.string aB, u, v] 122 (0, 0))) :
    Calls Tryz.prog 101 #[.slice (some ⟨b, 0, none⟩) 1 c, .string aB, .func (.func 102) #[] #[]] w fun e w' => e = .returned (.tuple #[.int .i64 0, .bool true]) ∧ w' = w := by
  have HC : Hid (∀ V : World, V = w → Calls Tryz.prog 102 #[.pointer (some ⟨f, 0, none⟩), .string aB] V fun e w' => e = .returned (.int .i64 0) ∧ w' = V) := fun V hV => by subst hV; exact cmp_a hf
  clear hf
  go_enter Tryz.func101, Tryz.ntmps101
  go_wp2
  go_loopw [9, 10] (fun vi vj wr => vi = .int .i64 0 ∧ (vj = .int .i64 1 ∨ vj = .int .i64 0) ∧ wr = w) (fun _ vj _ => (intOf vj).toNat)
  case atStart => exact ⟨rfl, .inl rfl, rfl⟩
  case round =>
    obtain ⟨rfl, rfl | rfl, rfl⟩ := hrel
    · go_wp2_with (go_at_call 102; refine (HC.out _ rfl).mono ?_; rintro e w' ⟨rfl, rfl⟩)
      go_roundw
      case rel => exact ⟨rfl, .inr rfl, trivial⟩
      case measure => simp [intOf]
    · go_wp2_with (go_at_call 102; refine (HC.out _ rfl).mono ?_; rintro e w' ⟨rfl, rfl⟩)
      all_goals (go_ret2; exact ⟨rfl, rfl⟩)

theorem place0 {d : Nat} {w : World} (h : w.cell? ⟨d, 0, none⟩ = some (.slice none 0 0)) : Calls Tryz.prog 96 #[.pointer (some ⟨d, 0, none⟩), .string aB] w fun e w' => e = .returned (.tuple #[.int .i64 0, .bool false]) ∧ w' = w := by
  have HS : Hid (Calls Tryz.prog 101 #[.slice none 0 0, .string aB, .func (.func 102) #[] #[]] w fun e w' => e = .returned (.tuple #[.int .i64 0, .bool false]) ∧ w' = w) := search0 w
  go_enter Tryz.func96, Tryz.ntmps96
  go_wp2_with (go_at_call 101; refine (HS.out).mono ?_; rintro e w' ⟨rfl, rfl⟩)
  all_goals (go_ret2; exact ⟨rfl, rfl⟩)

theorem place1 {d b f c : Nat} {u v : Value} {w : World} (h : w.cell? ⟨d, 0, none⟩ = some (.slice (some ⟨b, 0, none⟩) 1 c)) (hb : w.cell? ⟨b, 0, none⟩ = some (.pointer (some ⟨f, 0, none⟩))) (hf : w.heap[f]? = some (.cells #[.string aB, u, v] 122 (0, 0))) :
    Calls Tryz.prog 96 #[.pointer (some ⟨d, 0, none⟩), .string aB] w fun e w' => e = .returned (.tuple #[.int .i64 0, .bool true]) ∧ w' = w := by
  have HS : Hid (Calls Tryz.prog 101 #[.slice (some ⟨b, 0, none⟩) 1 c, .string aB, .func (.func 102) #[] #[]] w fun e w' => e = .returned (.tuple #[.int .i64 0, .bool true]) ∧ w' = w) := search1 hb hf
  clear hf hb
  go_enter Tryz.func96, Tryz.ntmps96
  go_wp2_with (go_at_call 101; refine (HS.out).mono ?_; rintro e w' ⟨rfl, rfl⟩)
  all_goals (go_ret2; exact ⟨rfl, rfl⟩)

theorem find0 {d : Nat} {w : World} (h : w.cell? ⟨d, 0, none⟩ = some (.slice none 0 0)) : Calls Tryz.prog 65 #[.pointer (some ⟨d, 0, none⟩), .string aB] w fun e w' => e = .returned (.pointer none) ∧ w' = w := by
  have HS : Hid (Calls Tryz.prog 96 #[.pointer (some ⟨d, 0, none⟩), .string aB] w fun e w' => e = .returned (.tuple #[.int .i64 0, .bool false]) ∧ w' = w) := place0 h
  go_enter Tryz.func65, Tryz.ntmps65
  go_wp2_with (go_at_call 96; refine (HS.out).mono ?_; rintro e w' ⟨rfl, rfl⟩)
  all_goals (go_ret; exact ⟨rfl, rfl⟩)

theorem find1 {d b f c : Nat} {u v : Value} {w : World} (h : w.cell? ⟨d, 0, none⟩ = some (.slice (some ⟨b, 0, none⟩) 1 c)) (hb : w.cell? ⟨b, 0, none⟩ = some (.pointer (some ⟨f, 0, none⟩))) (hf : w.heap[f]? = some (.cells #[.string aB, u, v] 122 (0, 0))) :
    Calls Tryz.prog 65 #[.pointer (some ⟨d, 0, none⟩), .string aB] w fun e w' => e = .returned (.pointer (some ⟨f, 0, none⟩)) ∧ w' = w := by
  have HS : Hid (Calls Tryz.prog 96 #[.pointer (some ⟨d, 0, none⟩), .string aB] w fun e w' => e = .returned (.tuple #[.int .i64 0, .bool true]) ∧ w' = w) := place1 h hb hf
  clear hf
  go_enter Tryz.func65, Tryz.ntmps65
  go_wp2_with (go_at_call 96; refine (HS.out).mono ?_; rintro e w' ⟨rfl, rfl⟩)
  all_goals (go_ret; exact ⟨rfl, rfl⟩)

theorem used0 {d : Nat} {w : World} (h : w.cell? ⟨d, 0, none⟩ = some (.slice none 0 0)) : Calls Tryz.prog 95 #[.pointer (some ⟨d, 0, none⟩)] w fun e w' => e = .returned (.int .i64 0) ∧ w' = w := by
  go_enter Tryz.func95, Tryz.ntmps95
  go_wp2
  go_loopw [3, 11] (fun vs vi wr => vs = .int .i64 0 ∧ vi = .int .i64 0 ∧ wr = w) (fun _ _ _ => 0)
  case atStart => exact ⟨rfl, rfl, rfl⟩
  case round =>
    obtain ⟨rfl, rfl, rfl⟩ := hrel
    go_wp2
    all_goals (go_ret; exact ⟨rfl, rfl⟩)

theorem used1 {d b f c : Nat} {ga : Option Addr} {l gc : Nat} {u v : Value} {w : World} (h : w.cell? ⟨d, 0, none⟩ = some (.slice (some ⟨b, 0, none⟩) 1 c)) (hb : w.cell? ⟨b, 0, none⟩ = some (.pointer (some ⟨f, 0, none⟩))) (hf : w.heap[f]? = some (.cells #[u, .slice ga l gc, v] 122 (0, 0))) (hl : l ≤ 100) :
    Calls Tryz.prog 95 #[.pointer (some ⟨d, 0, none⟩)] w fun e w' => e = .returned (.int .i64 (l : Int)) ∧ w' = w := by
  have c1 : w.cell? ⟨f, 1, none⟩ = some (.slice ga l gc) := cell_of_row w f 1 _ _ _ hf
  clear hf
  go_enter Tryz.func95, Tryz.ntmps95
  go_wp2
  go_loopw [3, 11] (fun vs vi wr => ((vs = .int .i64 0 ∧ vi = .int .i64 0) ∨ (vs = .int .i64 (l : Int) ∧ vi = .int .i64 1)) ∧ wr = w) (fun _ vi _ => (1 - intOf vi).toNat)
  case atStart => exact ⟨.inl ⟨rfl, rfl⟩, rfl⟩
  case round =>
    obtain ⟨⟨rfl, rfl⟩ | ⟨rfl, rfl⟩, rfl⟩ := hrel
    · go_wp2
      go_roundw
      case rel => exact ⟨.inr ⟨by simp, rfl⟩, trivial⟩
      case measure => simp [intOf]
    · go_wp2
      all_goals (go_ret; exact ⟨rfl, rfl⟩)

end Go.Proofs.YtbdokdhconhifaaGreatDoor
