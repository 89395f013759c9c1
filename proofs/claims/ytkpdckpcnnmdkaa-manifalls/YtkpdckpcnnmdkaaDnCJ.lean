/- Package disk at one small file named a: what is only read. -/
import Derived.Test.YtkpdckpcnnmdkaaDnAJ
import Derived.Test.YtkpdckpcnnmdkaaShelfCJ
namespace Go.Proofs.Ytkpdckpcnnmdkaa
open Go.RowKit Go.Shelf
set_option maxRecDepth 8000

abbrev aB : ByteArray := ⟨#[97]⟩

theorem isName_a (w : World) : Calls Try.prog 66 #[.string aB] w fun e w' => e = .returned (.bool true) ∧ w' = w := by
  have hz : aB.size = 1 := rfl
  have ha : (aB[0]'(by decide)).toNat = 97 := rfl
  go_enter Try.func66, Try.ntmps66
  go_wp2
  go_loopw [15] (fun vi wr => (vi = .int .i64 0 ∨ vi = .int .i64 1) ∧ wr = w) (fun vi _ => (1 - intOf vi).toNat)
  case atStart => exact ⟨.inl rfl, rfl⟩
  case round =>
    obtain ⟨rfl | rfl, rfl⟩ := hrel
    · go_wp2
      go_roundw
      case rel => exact ⟨.inr rfl, trivial⟩
      case measure => simp [intOf]
    · go_wp2
      all_goals (go_ret; exact ⟨rfl, rfl⟩)

/-- The one disk: its cells. -/
abbrev dkC (fs : Value) (on : Bool) (wr : Int) : Array Value := #[fs, .bool true, .int .i64 10, .bool on, .int .i64 (-1), .int .i64 wr]

theorem dk_cells {d : Nat} {fs : Value} {on : Bool} {wr : Int} {V : World} (h : V.heap[d]? = some (.cells (dkC fs on wr) 56 (0, 0))) : V.cell? ⟨d, 0, none⟩ = some fs ∧ V.cell? ⟨d, 1, none⟩ = some (.bool true) ∧ V.cell? ⟨d, 2, none⟩ = some (.int .i64 10) ∧ V.cell? ⟨d, 3, none⟩ = some (.bool on) ∧ V.cell? ⟨d, 4, none⟩ = some (.int .i64 (-1)) ∧ V.cell? ⟨d, 5, none⟩ = some (.int .i64 wr) :=
  ⟨cell_of_row V d 0 _ _ _ h, cell_of_row V d 1 _ _ _ h, cell_of_row V d 2 _ _ _ h, cell_of_row V d 3 _ _ _ h, cell_of_row V d 4 _ _ _ h, cell_of_row V d 5 _ _ _ h⟩

/-- ready of a name. -/
theorem ready_a {d : Nat} {fs : Value} {wr : Int} {w : World} {m : Nat} (h : w.heap[d]? = some (.cells (dkC fs true wr) 56 (0, 0))) (hm : w.cell? ⟨m, 0, none⟩ = some (.string aB)) :
    Calls Try.prog 72 #[.pointer (some ⟨d, 0, none⟩), .slice (some ⟨m, 0, none⟩) 1 1] w fun e w' => e = .returned (.int .i64 0) ∧ w' = w := by
  obtain ⟨c0, c1, c2, c3, c4, c5⟩ := dk_cells h
  have hl := lt_of_block h
  clear h
  have HI : Hid (∀ V : World, Calls Try.prog 66 #[.string aB] V fun e w' => e = .returned (.bool true) ∧ w' = V) := isName_a
  go_enter Try.func72, Try.ntmps72
  go_wp2
  go_loopw [23] (fun vi wr => (vi = .int .i64 0 ∨ vi = .int .i64 1) ∧ wr = w) (fun vi _ => (1 - intOf vi).toNat)
  case atStart => exact ⟨.inl rfl, rfl⟩
  case round =>
    obtain ⟨rfl | rfl, rfl⟩ := hrel
    · go_wp2_with (go_at_call 66; refine (HI.out _).mono ?_; rintro e w' ⟨rfl, rfl⟩)
      go_roundw
      case rel => exact ⟨.inr rfl, trivial⟩
      case measure => simp [intOf]
    · go_wp2
      all_goals (go_ret; exact ⟨rfl, rfl⟩)

/-- The search in no files. -/
theorem search0 (w : World) : Calls Try.prog 92 #[.slice none 0 0, .string aB, .func (.func 93) #[] #[]] w fun e w' => e = .returned (.tuple #[.int .i64 0, .bool false]) ∧ w' = w := by
  go_enter Try.func92, Try.ntmps92
  go_wp2
  go_loopw [9, 10] (fun vi vj wr => vi = .int .i64 0 ∧ vj = .int .i64 0 ∧ wr = w) (fun _ _ _ => 0)
  case atStart => exact ⟨rfl, rfl, rfl⟩
  case round =>
    obtain ⟨rfl, rfl, rfl⟩ := hrel
    go_wp2
    all_goals (go_ret2; exact ⟨rfl, rfl⟩)

theorem cmp_a {f : Nat} {u v : Value} {w : World} (hf : w.heap[f]? = some (.cells #[.string aB, u, v] 81 (0, 0))) : Calls Try.prog 93 #[.pointer (some ⟨f, 0, none⟩), .string aB] w fun e w' => e = .returned (.int .i64 0) ∧ w' = w := by
  have c0 : w.cell? ⟨f, 0, none⟩ = some (.string aB) := cell_of_row w f 0 _ _ _ hf
  have hl := lt_of_block hf
  have HC : Hid (∀ V : World, Calls Try.prog 94 #[.string aB, .string aB] V fun e w' => e = .returned (.int .i64 0) ∧ w' = V) := fun V => Try.strings_Compare aB aB V
  clear hf
  go_enter Try.func93, Try.ntmps93
  go_wp2_with (go_at_call 94; refine (HC.out _).mono ?_; rintro e w' ⟨rfl, rfl⟩)
  all_goals (go_ret; exact ⟨rfl, rfl⟩)

/-- The search in one file of that name. -/
theorem search1 {b f c : Nat} {u v : Value} {w : World} (hb : w.cell? ⟨b, 0, none⟩ = some (.pointer (some ⟨f, 0, none⟩))) (hf : w.heap[f]? = some (.cells #[.string aB, u, v] 81 (0, 0))) :
    Calls Try.prog 92 #[.slice (some ⟨b, 0, none⟩) 1 c, .string aB, .func (.func 93) #[] #[]] w fun e w' => e = .returned (.tuple #[.int .i64 0, .bool true]) ∧ w' = w := by
  have HC : Hid (∀ V : World, V = w → Calls Try.prog 93 #[.pointer (some ⟨f, 0, none⟩), .string aB] V fun e w' => e = .returned (.int .i64 0) ∧ w' = V) := fun V hV => by subst hV; exact cmp_a hf
  clear hf
  go_enter Try.func92, Try.ntmps92
  go_wp2
  go_loopw [9, 10] (fun vi vj wr => vi = .int .i64 0 ∧ (vj = .int .i64 1 ∨ vj = .int .i64 0) ∧ wr = w) (fun _ vj _ => (intOf vj).toNat)
  case atStart => exact ⟨rfl, .inl rfl, rfl⟩
  case round =>
    obtain ⟨rfl, rfl | rfl, rfl⟩ := hrel
    · go_wp2_with (go_at_call 93; refine (HC.out _ rfl).mono ?_; rintro e w' ⟨rfl, rfl⟩)
      go_roundw
      case rel => exact ⟨rfl, .inr rfl, trivial⟩
      case measure => simp [intOf]
    · go_wp2_with (go_at_call 93; refine (HC.out _ rfl).mono ?_; rintro e w' ⟨rfl, rfl⟩)
      all_goals (go_ret2; exact ⟨rfl, rfl⟩)

theorem place0 {d : Nat} {w : World} (h : w.cell? ⟨d, 0, none⟩ = some (.slice none 0 0)) : Calls Try.prog 84 #[.pointer (some ⟨d, 0, none⟩), .string aB] w fun e w' => e = .returned (.tuple #[.int .i64 0, .bool false]) ∧ w' = w := by
  have HS : Hid (Calls Try.prog 92 #[.slice none 0 0, .string aB, .func (.func 93) #[] #[]] w fun e w' => e = .returned (.tuple #[.int .i64 0, .bool false]) ∧ w' = w) := search0 w
  go_enter Try.func84, Try.ntmps84
  go_wp2_with (go_at_call 92; refine (HS.out).mono ?_; rintro e w' ⟨rfl, rfl⟩)
  all_goals (go_ret2; exact ⟨rfl, rfl⟩)

theorem place1 {d b f c : Nat} {u v : Value} {w : World} (h : w.cell? ⟨d, 0, none⟩ = some (.slice (some ⟨b, 0, none⟩) 1 c)) (hb : w.cell? ⟨b, 0, none⟩ = some (.pointer (some ⟨f, 0, none⟩))) (hf : w.heap[f]? = some (.cells #[.string aB, u, v] 81 (0, 0))) :
    Calls Try.prog 84 #[.pointer (some ⟨d, 0, none⟩), .string aB] w fun e w' => e = .returned (.tuple #[.int .i64 0, .bool true]) ∧ w' = w := by
  have HS : Hid (Calls Try.prog 92 #[.slice (some ⟨b, 0, none⟩) 1 c, .string aB, .func (.func 93) #[] #[]] w fun e w' => e = .returned (.tuple #[.int .i64 0, .bool true]) ∧ w' = w) := search1 hb hf
  clear hf hb
  go_enter Try.func84, Try.ntmps84
  go_wp2_with (go_at_call 92; refine (HS.out).mono ?_; rintro e w' ⟨rfl, rfl⟩)
  all_goals (go_ret2; exact ⟨rfl, rfl⟩)

theorem find0 {d : Nat} {w : World} (h : w.cell? ⟨d, 0, none⟩ = some (.slice none 0 0)) : Calls Try.prog 67 #[.pointer (some ⟨d, 0, none⟩), .string aB] w fun e w' => e = .returned (.pointer none) ∧ w' = w := by
  have HS : Hid (Calls Try.prog 84 #[.pointer (some ⟨d, 0, none⟩), .string aB] w fun e w' => e = .returned (.tuple #[.int .i64 0, .bool false]) ∧ w' = w) := place0 h
  go_enter Try.func67, Try.ntmps67
  go_wp2_with (go_at_call 84; refine (HS.out).mono ?_; rintro e w' ⟨rfl, rfl⟩)
  all_goals (go_ret; exact ⟨rfl, rfl⟩)

theorem find1 {d b f c : Nat} {u v : Value} {w : World} (h : w.cell? ⟨d, 0, none⟩ = some (.slice (some ⟨b, 0, none⟩) 1 c)) (hb : w.cell? ⟨b, 0, none⟩ = some (.pointer (some ⟨f, 0, none⟩))) (hf : w.heap[f]? = some (.cells #[.string aB, u, v] 81 (0, 0))) :
    Calls Try.prog 67 #[.pointer (some ⟨d, 0, none⟩), .string aB] w fun e w' => e = .returned (.pointer (some ⟨f, 0, none⟩)) ∧ w' = w := by
  have HS : Hid (Calls Try.prog 84 #[.pointer (some ⟨d, 0, none⟩), .string aB] w fun e w' => e = .returned (.tuple #[.int .i64 0, .bool true]) ∧ w' = w) := place1 h hb hf
  clear hf
  go_enter Try.func67, Try.ntmps67
  go_wp2_with (go_at_call 84; refine (HS.out).mono ?_; rintro e w' ⟨rfl, rfl⟩)
  all_goals (go_ret; exact ⟨rfl, rfl⟩)

theorem used0 {d : Nat} {w : World} (h : w.cell? ⟨d, 0, none⟩ = some (.slice none 0 0)) : Calls Try.prog 85 #[.pointer (some ⟨d, 0, none⟩)] w fun e w' => e = .returned (.int .i64 0) ∧ w' = w := by
  go_enter Try.func85, Try.ntmps85
  go_wp2
  go_loopw [3, 11] (fun vs vi wr => vs = .int .i64 0 ∧ vi = .int .i64 0 ∧ wr = w) (fun _ _ _ => 0)
  case atStart => exact ⟨rfl, rfl, rfl⟩
  case round =>
    obtain ⟨rfl, rfl, rfl⟩ := hrel
    go_wp2
    all_goals (go_ret; exact ⟨rfl, rfl⟩)

theorem used1 {d b f c : Nat} {ga : Option Addr} {l gc : Nat} {u v : Value} {w : World} (h : w.cell? ⟨d, 0, none⟩ = some (.slice (some ⟨b, 0, none⟩) 1 c)) (hb : w.cell? ⟨b, 0, none⟩ = some (.pointer (some ⟨f, 0, none⟩))) (hf : w.heap[f]? = some (.cells #[u, .slice ga l gc, v] 81 (0, 0))) (hl : l ≤ 100) :
    Calls Try.prog 85 #[.pointer (some ⟨d, 0, none⟩)] w fun e w' => e = .returned (.int .i64 (l : Int)) ∧ w' = w := by
  have c1 : w.cell? ⟨f, 1, none⟩ = some (.slice ga l gc) := cell_of_row w f 1 _ _ _ hf
  clear hf
  go_enter Try.func85, Try.ntmps85
  go_wp2
  go_loopw [3, 11] (fun vs vi wr => ((vs = .int .i64 0 ∧ vi = .int .i64 0) ∨ (vs = .int .i64 (l : Int) ∧ vi = .int .i64 1)) ∧ wr = w) (fun _ vi _ => (1 - intOf vi).toNat)
  case atStart => exact ⟨.inl ⟨rfl, rfl⟩, rfl⟩
  case round =>
    obtain ⟨⟨rfl, rfl⟩ | ⟨rfl, rfl⟩, rfl⟩ := hrel
    · go_wp2
      go_roundw
      case rel => exact ⟨.inr ⟨by simp, rfl⟩, trivial⟩
      case measure => simp [intOf]
    · go_wp2
      all_goals (go_ret; exact ⟨rfl, rfl⟩)

end Go.Proofs.Ytkpdckpcnnmdkaa
