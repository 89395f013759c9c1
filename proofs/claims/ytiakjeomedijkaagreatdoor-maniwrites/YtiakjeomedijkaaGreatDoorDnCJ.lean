/- DiskCrash's parts: what an image holds, kept; Left. -/
import Derived.Test.YtiakjeomedijkaaGreatDoorDkRJ
import Derived.Test.YtiakjeomedijkaaGreatDoorFr2J
import Derived.Test.YtiakjeomedijkaaGreatDoorChecked
import Derived.Test.YtiakjeomedijkaaGreatDoorWriterJ
import Derived.Deep.AppendLies
import Derived.Shelf.Abstract
import Derived.Test.YtiakjeomedijkaaGreatDoorShelfCJ
namespace Go.Proofs.YtiakjeomedijkaaGreatDoor
open Go.RowKit Go.Shelf
set_option maxRecDepth 8000

theorem ImgAt.kept {w w' : World} {S : Nat → Prop} {B : Nat} {v : Value} {fs : List FiD} {vs : List Value} (h : ImgAt w B v fs vs) (hk : Kept w w' S) (hS : ∀ k, S k → k < B ∨ w.heap.size ≤ k) : ImgAt w' B v fs vs := by
  have hb : ∀ {e : TypeId} {z : Nat} {u : Value} {n : Nat} {xs : List Value}, w.ownsRow B e z u n xs → ∀ k, u.ownBlock = some k → ¬ S k := by
    intro e z u n xs ho k hko hs
    obtain ⟨_, ⟨rfl, _⟩ | ⟨g, cap, cur, rfl, h2, h3, _⟩⟩ := ho
    · cases hko
    · have hgk : g = k := by simpa [Value.ownBlock] using hko
      have hgl := lt_of_block h3
      rcases hS k hs with e | e <;> omega
  exact ⟨h.len, row_kept' h.own hk (hb h.own), fun i u f hu hf => row_kept' (h.bys i u f hu hf) hk (hb (h.bys i u f hu hf))⟩

theorem imgC_at (fs : List FiD) (vs : List Value) (h : vs.length = fs.length) (i : Nat) (hi : i < fs.length) (j : Nat) (hj : j < 3) : (imgC fs vs)[i * 3 + j]? = (fiC fs[i] (vs[i]'(by omega)))[j]? := by
  unfold imgC
  induction fs generalizing vs i with
  | nil => simp at hi
  | cons f fs ih =>
    cases vs with
    | nil => simp at h
    | cons u vs =>
      simp only [List.zipWith_cons_cons, List.flatten_cons]
      cases i with
      | zero => rw [Nat.zero_mul, Nat.zero_add, List.getElem?_append_left (by simp; omega)]; rfl
      | succ i =>
        rw [List.getElem?_append_right (by simp; omega)]
        have := ih vs (by simpa using h) i (by simpa using hi)
        simp only [List.length_cons, List.length_nil]
        rw [show (i + 1) * 3 + j - (0 + 1 + 1 + 1) = i * 3 + j by omega, this]
        rfl

/-- The cells of a file of an image. -/
theorem ImgAt.cells {w : World} {B : Nat} {g n c : Nat} {fs : List FiD} {vs : List Value} (h : ImgAt w B (.slice (some ⟨g, 0, none⟩) n c) fs vs) (i : Nat) (hi : i < fs.length) : ∃ u, vs[i]? = some u ∧ w.cell? ⟨g, i * 3, none⟩ = some (.string fs[i].name) ∧ w.cell? ⟨g, i * 3 + 1, none⟩ = some u ∧ w.cell? ⟨g, i * 3 + 2, none⟩ = some (.int .i64 fs[i].dur) ∧ Owns w B u fs[i].bytes := by
  obtain ⟨_, ⟨e, _⟩ | ⟨g', cap, cur, e, _, h3, h4, _, h6, h7⟩⟩ := h.own
  · cases e
  obtain ⟨rfl, _, rfl⟩ : g = g' ∧ n = fs.length ∧ c = cap := by simpa using e
  have hv : i < vs.length := by rw [h.len]; exact hi
  have hat : ∀ j, j < 3 → w.cell? ⟨g, i * 3 + j, none⟩ = (fiC fs[i] vs[i])[j]? := fun j hj => by
    rw [cell_of_row w g _ _ _ _ h3, ← imgC_at fs vs h.len i hi j hj, ← h7, List.getElem?_take, if_pos (by omega), Array.getElem?_toList]
  exact ⟨vs[i], List.getElem?_eq_getElem hv, hat 0 (by omega), hat 1 (by omega), hat 2 (by omega), h.bys i _ _ (List.getElem?_eq_getElem hv) (List.getElem?_eq_getElem hi)⟩

theorem off_start (D : DkD) (ks : List Int) : (D.off.start ks).on = true ∧ (D.off.start ks).files = lossF D.files ks := by
  unfold DkD.off
  split
  · unfold DkD.start; exact ⟨rfl, rfl⟩
  · rename_i h
    have h' : D.on = false := by simpa using h
    unfold DkD.start
    rw [h']
    exact ⟨rfl, rfl⟩
end Go.Proofs.YtiakjeomedijkaaGreatDoor

/- What the calls of package disk answer of a disk that nobody made: a nil one and a plain one. -/
namespace Go.Proofs.YtiakjeomedijkaaGreatDoor
open Go.RowKit Go.Shelf
set_option maxRecDepth 8000

/-- A plain disk's cells. -/
abbrev plainC : Array Value := #[.slice none 0 0, .bool false, .int .i64 0, .bool false, .int .i64 0, .int .i64 0]

/-- A disk that nobody made. -/
def Nd (v : Value) (V : World) : Prop := v = .pointer none ∨ ∃ p, v = .pointer (some ⟨p, 0, none⟩) ∧ V.heap[p]? = some (.cells plainC 211 (0, 0))

theorem Nd.below {v : Value} {V V' : World} (h : Nd v V) (hB : Below V.heap.size V V') : Nd v V' := by
  rcases h with h | ⟨p, h, hp⟩
  · exact .inl h
  · exact .inr ⟨p, h, (hB.block _ (lt_of_block hp)).trans hp⟩

theorem plain_cells {p : Nat} {V : World} (h : V.heap[p]? = some (.cells plainC 211 (0, 0))) : V.cell? ⟨p, 0, none⟩ = some (.slice none 0 0) ∧ V.cell? ⟨p, 1, none⟩ = some (.bool false) ∧ V.cell? ⟨p, 2, none⟩ = some (.int .i64 0) ∧ V.cell? ⟨p, 3, none⟩ = some (.bool false) ∧ V.cell? ⟨p, 4, none⟩ = some (.int .i64 0) ∧ V.cell? ⟨p, 5, none⟩ = some (.int .i64 0) :=
  ⟨cell_of_row V p 0 _ _ _ h, cell_of_row V p 1 _ _ _ h, cell_of_row V p 2 _ _ _ h, cell_of_row V p 3 _ _ _ h, cell_of_row V p 4 _ _ _ h, cell_of_row V p 5 _ _ _ h⟩

theorem on_nd {v : Value} {w : World} (h : Nd v w) : Calls Tryz.prog 146 #[v] w fun e w' => e = .returned (.bool false) ∧ w' = w := by
  rcases h with rfl | ⟨p, rfl, hp⟩
  · go_enter Tryz.func146, Tryz.ntmps146
    go_wp2
    all_goals (go_ret; exact ⟨rfl, rfl⟩)
  · obtain ⟨c0, c1, c2, c3, c4, c5⟩ := plain_cells hp
    have hl := lt_of_block hp
    clear hp
    go_enter Tryz.func146, Tryz.ntmps146
    go_wp2
    all_goals (go_ret; exact ⟨rfl, rfl⟩)

theorem off_nd {v : Value} {w : World} (h : Nd v w) : Calls Tryz.prog 137 #[v] w fun e w' => e = .returned (.tuple #[]) ∧ w' = w := by
  have HO : Hid (Calls Tryz.prog 146 #[v] w fun e w' => e = .returned (.bool false) ∧ w' = w) := on_nd h
  clear h
  go_enter Tryz.func137, Tryz.ntmps137
  go_wp2_with (go_at_call 146; refine (HO.out).mono ?_; rintro e w' ⟨rfl, rfl⟩)
  all_goals ((first | go_end0 | refine bodyPost_ret (results_none rfl _ _ _) rfl ?_); exact ⟨rfl, rfl⟩)

theorem ready_nd {v : Value} {w : World} (h : Nd v w) (k : Value) : Calls Tryz.prog 122 #[v, k] w fun e w' => e = .returned (.int .i64 1) ∧ w' = w := by
  rcases h with rfl | ⟨p, rfl, hp⟩
  · go_enter Tryz.func122, Tryz.ntmps122
    go_wp2
    all_goals (go_ret; exact ⟨rfl, rfl⟩)
  · obtain ⟨c0, c1, c2, c3, c4, c5⟩ := plain_cells hp
    have hl := lt_of_block hp
    clear hp
    go_enter Tryz.func122, Tryz.ntmps122
    go_wp2
    all_goals (go_ret; exact ⟨rfl, rfl⟩)

theorem usedS_nd {p : Nat} {w : World} (hp : w.heap[p]? = some (.cells plainC 211 (0, 0))) : Calls Tryz.prog 134 #[.pointer (some ⟨p, 0, none⟩)] w fun e w' => e = .returned (.int .i64 0) ∧ w' = w := by
  obtain ⟨c0, c1, c2, c3, c4, c5⟩ := plain_cells hp
  have hl := lt_of_block hp
  clear hp
  go_enter Tryz.func134, Tryz.ntmps134
  go_wp2
  go_loopw [3, 11] (fun vs vi wr => vs = .int .i64 0 ∧ vi = .int .i64 0 ∧ wr = w) (fun _ _ _ => 0)
  case atStart => exact ⟨rfl, rfl, rfl⟩
  case round =>
    obtain ⟨rfl, rfl, rfl⟩ := hrel
    go_wp2
    all_goals (go_ret; exact ⟨rfl, rfl⟩)

theorem make_str (w : World) : (Instr.makeSlice 120 (.int .i64 0) (.int .i64 0)).run Tryz.prog w = .ok (.slice (some ⟨w.heap.size, 0, none⟩) 0 0) (w.alloc (.cells #[] 9)) := by kernel_rfl

theorem make_file (w : World) : (Instr.makeSlice 162 (.int .i64 0) (.int .i64 0)).run Tryz.prog w = .ok (.slice (some ⟨w.heap.size, 0, none⟩) 0 0) (w.alloc (.cells #[] 164)) := by kernel_rfl

theorem namesS_nd {p : Nat} {w : World} (hp : w.heap[p]? = some (.cells plainC 211 (0, 0))) : Calls Tryz.prog 126 #[.pointer (some ⟨p, 0, none⟩)] w fun e w' => (∃ a, e = .returned (.slice a 0 0)) ∧ Below w.heap.size w w' := by
  obtain ⟨c0, c1, c2, c3, c4, c5⟩ := plain_cells hp
  have hl := lt_of_block hp
  have hmk := make_str
  have HB : Hid (Below w.heap.size w (w.alloc (.cells #[] 9))) := (Below.refl _ w).alloc (Nat.le_refl _) _
  clear hp
  go_enter Tryz.func126, Tryz.ntmps126
  go_wp2
  go_loopw [17] (fun vi wr => vi = .int .i64 0 ∧ wr = w.alloc (.cells #[] 9)) (fun _ _ => 0)
  case atStart => exact ⟨rfl, rfl⟩
  case round =>
    obtain ⟨rfl, rfl⟩ := hrel
    go_wp2
    all_goals (go_ret; exact ⟨⟨_, rfl⟩, HB.out⟩)

theorem names_nd {v : Value} {w : World} (h : Nd v w) : Calls Tryz.prog 101 #[v] w fun e w' => (∃ a, e = .returned (.slice a 0 0)) ∧ Below w.heap.size w w' := by
  rcases h with rfl | ⟨p, rfl, hp⟩
  · have HB : Hid (Below w.heap.size w w) := Below.refl _ _
    go_enter Tryz.func101, Tryz.ntmps101
    go_wp2
    all_goals (go_ret; exact ⟨⟨_, rfl⟩, HB.out⟩)
  · have HU : Hid (∀ V : World, V = w → Calls Tryz.prog 126 #[.pointer (some ⟨p, 0, none⟩)] V fun e w' => (∃ a, e = .returned (.slice a 0 0)) ∧ Below w.heap.size w w') := fun V hV => by subst hV; exact namesS_nd hp
    have hl := lt_of_block hp
    clear hp
    go_enter Tryz.func101, Tryz.ntmps101
    go_wp2_with (go_at_call 126; refine (HU.out _ rfl).mono ?_; rintro e w' ⟨⟨a, rfl⟩, hB⟩)
    all_goals (go_ret; exact ⟨⟨_, rfl⟩, hB⟩)

theorem open_nd {v : Value} {w : World} (h : Nd v w) (s : ByteArray) : Calls Tryz.prog 105 #[v, .string s] w fun e w' => e = .returned (.tuple #[.pointer none, .int .i64 1]) ∧ Below w.heap.size w w' := by
  have HR : Hid (∀ (V : World) (k : Value), Below w.heap.size w V → Calls Tryz.prog 122 #[v, k] V fun e w' => e = .returned (.int .i64 1) ∧ w' = V) := fun V k hV => ready_nd (h.below hV) k
  have HB : Hid (Below w.heap.size w (w.alloc (.cells #[.string s] 9))) := (Below.refl _ w).alloc (Nat.le_refl _) _
  clear h
  go_enter Tryz.func105, Tryz.ntmps105
  go_wp2_with (go_at_call 122; refine (HR.out _ _ HB.out).mono ?_; rintro e w' ⟨rfl, rfl⟩)
  all_goals (go_ret2; exact ⟨rfl, HB.out⟩)

theorem append_nd {v : Value} {w : World} (h : Nd v w) (s : ByteArray) (q : Value) : Calls Tryz.prog 95 #[v, .string s, q] w fun e w' => e = .returned (.int .i64 1) ∧ Below w.heap.size w w' := by
  have HR : Hid (∀ (V : World) (k : Value), Below w.heap.size w V → Calls Tryz.prog 122 #[v, k] V fun e w' => e = .returned (.int .i64 1) ∧ w' = V) := fun V k hV => ready_nd (h.below hV) k
  have HB : Hid (Below w.heap.size w (w.alloc (.cells #[.string s] 9))) := (Below.refl _ w).alloc (Nat.le_refl _) _
  clear h
  go_enter Tryz.func95, Tryz.ntmps95
  go_wp2_with (go_at_call 122; refine (HR.out _ _ HB.out).mono ?_; rintro e w' ⟨rfl, rfl⟩)
  all_goals (go_ret; exact ⟨rfl, HB.out⟩)

theorem rename_nd {v : Value} {w : World} (h : Nd v w) (s t : ByteArray) : Calls Tryz.prog 99 #[v, .string s, .string t] w fun e w' => e = .returned (.int .i64 1) ∧ Below w.heap.size w w' := by
  have HR : Hid (∀ (V : World) (k : Value), Below w.heap.size w V → Calls Tryz.prog 122 #[v, k] V fun e w' => e = .returned (.int .i64 1) ∧ w' = V) := fun V k hV => ready_nd (h.below hV) k
  have HB : Hid (Below w.heap.size w (w.alloc (.cells #[.string s, .string t] 9))) := (Below.refl _ w).alloc (Nat.le_refl _) _
  clear h
  go_enter Tryz.func99, Tryz.ntmps99
  go_wp2_with (go_at_call 122; refine (HR.out _ _ HB.out).mono ?_; rintro e w' ⟨rfl, rfl⟩)
  all_goals (go_ret; exact ⟨rfl, HB.out⟩)

theorem sync_nd {v : Value} {w : World} (h : Nd v w) (s : ByteArray) : Calls Tryz.prog 97 #[v, .string s] w fun e w' => e = .returned (.int .i64 1) ∧ Below w.heap.size w w' := by
  have HR : Hid (Calls Tryz.prog 105 #[v, .string s] w fun e w' => e = .returned (.tuple #[.pointer none, .int .i64 1]) ∧ Below w.heap.size w w') := open_nd h s
  clear h
  go_enter Tryz.func97, Tryz.ntmps97
  go_wp2_with (go_at_call 105; refine (HR.out).mono ?_; rintro e w' ⟨rfl, hB⟩)
  all_goals (go_ret; exact ⟨rfl, hB⟩)

theorem remove_nd {v : Value} {w : World} (h : Nd v w) (s : ByteArray) : Calls Tryz.prog 103 #[v, .string s] w fun e w' => e = .returned (.int .i64 1) ∧ Below w.heap.size w w' := by
  have HR : Hid (Calls Tryz.prog 105 #[v, .string s] w fun e w' => e = .returned (.tuple #[.pointer none, .int .i64 1]) ∧ Below w.heap.size w w') := open_nd h s
  clear h
  go_enter Tryz.func103, Tryz.ntmps103
  go_wp2_with (go_at_call 105; refine (HR.out).mono ?_; rintro e w' ⟨rfl, hB⟩)
  all_goals (go_ret; exact ⟨rfl, hB⟩)

theorem read_nd {v : Value} {w : World} (h : Nd v w) (s : ByteArray) : Calls Tryz.prog 49 #[v, .string s] w fun e w' => e = .returned (.tuple #[.slice none 0 0, .int .i64 1]) ∧ Below w.heap.size w w' := by
  have HR : Hid (Calls Tryz.prog 105 #[v, .string s] w fun e w' => e = .returned (.tuple #[.pointer none, .int .i64 1]) ∧ Below w.heap.size w w') := open_nd h s
  clear h
  go_enter Tryz.func49, Tryz.ntmps49
  go_wp2_with (go_at_call 105; refine (HR.out).mono ?_; rintro e w' ⟨rfl, hB⟩)
  all_goals (go_ret2; exact ⟨rfl, hB⟩)

end Go.Proofs.YtiakjeomedijkaaGreatDoor

/- Package disk at one small file named a: what is only read. -/
namespace Go.Proofs.YtiakjeomedijkaaGreatDoor
open Go.RowKit Go.Shelf
set_option maxRecDepth 8000

abbrev aB : ByteArray := ⟨#[97]⟩

theorem isName_a (w : World) : Calls Tryz.prog 116 #[.string aB] w fun e w' => e = .returned (.bool true) ∧ w' = w := by
  have hz : aB.size = 1 := rfl
  have ha : (aB[0]'(by decide)).toNat = 97 := rfl
  go_enter Tryz.func116, Tryz.ntmps116
  go_wp2
  go_loopw [15] (fun vi wr => (vi = .int .i64 0 ∨ vi = .int .i64 1) ∧ wr = w) (fun vi _ => (1 - intOf vi).toNat)
  case atStart => exact ⟨.inl rfl, rfl⟩
  case round =>
    obtain ⟨rfl | rfl, rfl⟩ := hrel
    · go_wp2
      go_roundw
      case rel => exact ⟨.inr rfl, trivial⟩
      case measure => simp [intOf]
    · go_wp2
      all_goals (go_ret; exact ⟨rfl, rfl⟩)

/-- The one disk: its cells. -/
abbrev dkC (fs : Value) (on : Bool) (wr : Int) : Array Value := #[fs, .bool true, .int .i64 10, .bool on, .int .i64 (-1), .int .i64 wr]

theorem dk_cells {d : Nat} {fs : Value} {on : Bool} {wr : Int} {V : World} (h : V.heap[d]? = some (.cells (dkC fs on wr) 211 (0, 0))) : V.cell? ⟨d, 0, none⟩ = some fs ∧ V.cell? ⟨d, 1, none⟩ = some (.bool true) ∧ V.cell? ⟨d, 2, none⟩ = some (.int .i64 10) ∧ V.cell? ⟨d, 3, none⟩ = some (.bool on) ∧ V.cell? ⟨d, 4, none⟩ = some (.int .i64 (-1)) ∧ V.cell? ⟨d, 5, none⟩ = some (.int .i64 wr) :=
  ⟨cell_of_row V d 0 _ _ _ h, cell_of_row V d 1 _ _ _ h, cell_of_row V d 2 _ _ _ h, cell_of_row V d 3 _ _ _ h, cell_of_row V d 4 _ _ _ h, cell_of_row V d 5 _ _ _ h⟩

/-- ready of a name. -/
theorem ready_a {d : Nat} {fs : Value} {wr : Int} {w : World} {m : Nat} (h : w.heap[d]? = some (.cells (dkC fs true wr) 211 (0, 0))) (hm : w.cell? ⟨m, 0, none⟩ = some (.string aB)) :
    Calls Tryz.prog 122 #[.pointer (some ⟨d, 0, none⟩), .slice (some ⟨m, 0, none⟩) 1 1] w fun e w' => e = .returned (.int .i64 0) ∧ w' = w := by
  obtain ⟨c0, c1, c2, c3, c4, c5⟩ := dk_cells h
  have hl := lt_of_block h
  clear h
  have HI : Hid (∀ V : World, Calls Tryz.prog 116 #[.string aB] V fun e w' => e = .returned (.bool true) ∧ w' = V) := isName_a
  go_enter Tryz.func122, Tryz.ntmps122
  go_wp2
  go_loopw [23] (fun vi wr => (vi = .int .i64 0 ∨ vi = .int .i64 1) ∧ wr = w) (fun vi _ => (1 - intOf vi).toNat)
  case atStart => exact ⟨.inl rfl, rfl⟩
  case round =>
    obtain ⟨rfl | rfl, rfl⟩ := hrel
    · go_wp2_with (go_at_call 116; refine (HI.out _).mono ?_; rintro e w' ⟨rfl, rfl⟩)
      go_roundw
      case rel => exact ⟨.inr rfl, trivial⟩
      case measure => simp [intOf]
    · go_wp2
      all_goals (go_ret; exact ⟨rfl, rfl⟩)

/-- The search in no files. -/
theorem search0 (w : World) : Calls Tryz.prog 142 #[.slice none 0 0, .string aB, .func (.func 143) #[] #[]] w fun e w' => e = .returned (.tuple #[.int .i64 0, .bool false]) ∧ w' = w := by
  go_enter Tryz.func142, Tryz.ntmps142
  go_wp2
  go_loopw [9, 10] (fun vi vj wr => vi = .int .i64 0 ∧ vj = .int .i64 0 ∧ wr = w) (fun _ _ _ => 0)
  case atStart => exact ⟨rfl, rfl, rfl⟩
  case round =>
    obtain ⟨rfl, rfl, rfl⟩ := hrel
    go_wp2
    all_goals (go_ret2; exact ⟨rfl, rfl⟩)

theorem cmp_a {f : Nat} {u v : Value} {w : World} (hf : w.heap[f]? = some (.cells #[.string aB, u, v] 238 (0, 0))) : Calls Tryz.prog 143 #[.pointer (some ⟨f, 0, none⟩), .string aB] w fun e w' => e = .returned (.int .i64 0) ∧ w' = w := by
  have c0 : w.cell? ⟨f, 0, none⟩ = some (.string aB) := cell_of_row w f 0 _ _ _ hf
  have hl := lt_of_block hf
  have HC : Hid (∀ V : World, Calls Tryz.prog 144 #[.string aB, .string aB] V fun e w' => e = .returned (.int .i64 0) ∧ w' = V) := fun V => Tryz.strings_Compare aB aB V
  clear hf
  go_enter Tryz.func143, Tryz.ntmps143
  go_wp2_with (go_at_call 144; refine (HC.out _).mono ?_; rintro e w' ⟨rfl, rfl⟩)
  all_goals (go_ret; exact ⟨rfl, rfl⟩)

/-- The search in one file of that name. -/
theorem search1 {b f c : Nat} {u v : Value} {w : World} (hb : w.cell? ⟨b, 0, none⟩ = some (.pointer (some ⟨f, 0, none⟩))) (hf : w.heap[f]? = some (.cells #[.string aB, u, v] 238 (0, 0))) :
    Calls Tryz.prog 142 #[.slice (some ⟨b, 0, none⟩) 1 c, .string aB, .func (.func 143) #[] #[]] w fun e w' => e = .returned (.tuple #[.int .i64 0, .bool true]) ∧ w' = w := by
  have HC : Hid (∀ V : World, V = w → Calls Tryz.prog 143 #[.pointer (some ⟨f, 0, none⟩), .string aB] V fun e w' => e = .returned (.int .i64 0) ∧ w' = V) := fun V hV => by subst hV; exact cmp_a hf
  clear hf
  go_enter Tryz.func142, Tryz.ntmps142
  go_wp2
  go_loopw [9, 10] (fun vi vj wr => vi = .int .i64 0 ∧ (vj = .int .i64 1 ∨ vj = .int .i64 0) ∧ wr = w) (fun _ vj _ => (intOf vj).toNat)
  case atStart => exact ⟨rfl, .inl rfl, rfl⟩
  case round =>
    obtain ⟨rfl, rfl | rfl, rfl⟩ := hrel
    · go_wp2_with (go_at_call 143; refine (HC.out _ rfl).mono ?_; rintro e w' ⟨rfl, rfl⟩)
      go_roundw
      case rel => exact ⟨rfl, .inr rfl, trivial⟩
      case measure => simp [intOf]
    · go_wp2_with (go_at_call 143; refine (HC.out _ rfl).mono ?_; rintro e w' ⟨rfl, rfl⟩)
      all_goals (go_ret2; exact ⟨rfl, rfl⟩)

theorem place0 {d : Nat} {w : World} (h : w.cell? ⟨d, 0, none⟩ = some (.slice none 0 0)) : Calls Tryz.prog 133 #[.pointer (some ⟨d, 0, none⟩), .string aB] w fun e w' => e = .returned (.tuple #[.int .i64 0, .bool false]) ∧ w' = w := by
  have HS : Hid (Calls Tryz.prog 142 #[.slice none 0 0, .string aB, .func (.func 143) #[] #[]] w fun e w' => e = .returned (.tuple #[.int .i64 0, .bool false]) ∧ w' = w) := search0 w
  go_enter Tryz.func133, Tryz.ntmps133
  go_wp2_with (go_at_call 142; refine (HS.out).mono ?_; rintro e w' ⟨rfl, rfl⟩)
  all_goals (go_ret2; exact ⟨rfl, rfl⟩)

theorem place1 {d b f c : Nat} {u v : Value} {w : World} (h : w.cell? ⟨d, 0, none⟩ = some (.slice (some ⟨b, 0, none⟩) 1 c)) (hb : w.cell? ⟨b, 0, none⟩ = some (.pointer (some ⟨f, 0, none⟩))) (hf : w.heap[f]? = some (.cells #[.string aB, u, v] 238 (0, 0))) :
    Calls Tryz.prog 133 #[.pointer (some ⟨d, 0, none⟩), .string aB] w fun e w' => e = .returned (.tuple #[.int .i64 0, .bool true]) ∧ w' = w := by
  have HS : Hid (Calls Tryz.prog 142 #[.slice (some ⟨b, 0, none⟩) 1 c, .string aB, .func (.func 143) #[] #[]] w fun e w' => e = .returned (.tuple #[.int .i64 0, .bool true]) ∧ w' = w) := search1 hb hf
  clear hf hb
  go_enter Tryz.func133, Tryz.ntmps133
  go_wp2_with (go_at_call 142; refine (HS.out).mono ?_; rintro e w' ⟨rfl, rfl⟩)
  all_goals (go_ret2; exact ⟨rfl, rfl⟩)

theorem find0 {d : Nat} {w : World} (h : w.cell? ⟨d, 0, none⟩ = some (.slice none 0 0)) : Calls Tryz.prog 117 #[.pointer (some ⟨d, 0, none⟩), .string aB] w fun e w' => e = .returned (.pointer none) ∧ w' = w := by
  have HS : Hid (Calls Tryz.prog 133 #[.pointer (some ⟨d, 0, none⟩), .string aB] w fun e w' => e = .returned (.tuple #[.int .i64 0, .bool false]) ∧ w' = w) := place0 h
  go_enter Tryz.func117, Tryz.ntmps117
  go_wp2_with (go_at_call 133; refine (HS.out).mono ?_; rintro e w' ⟨rfl, rfl⟩)
  all_goals (go_ret; exact ⟨rfl, rfl⟩)

theorem find1 {d b f c : Nat} {u v : Value} {w : World} (h : w.cell? ⟨d, 0, none⟩ = some (.slice (some ⟨b, 0, none⟩) 1 c)) (hb : w.cell? ⟨b, 0, none⟩ = some (.pointer (some ⟨f, 0, none⟩))) (hf : w.heap[f]? = some (.cells #[.string aB, u, v] 238 (0, 0))) :
    Calls Tryz.prog 117 #[.pointer (some ⟨d, 0, none⟩), .string aB] w fun e w' => e = .returned (.pointer (some ⟨f, 0, none⟩)) ∧ w' = w := by
  have HS : Hid (Calls Tryz.prog 133 #[.pointer (some ⟨d, 0, none⟩), .string aB] w fun e w' => e = .returned (.tuple #[.int .i64 0, .bool true]) ∧ w' = w) := place1 h hb hf
  clear hf
  go_enter Tryz.func117, Tryz.ntmps117
  go_wp2_with (go_at_call 133; refine (HS.out).mono ?_; rintro e w' ⟨rfl, rfl⟩)
  all_goals (go_ret; exact ⟨rfl, rfl⟩)

theorem used0 {d : Nat} {w : World} (h : w.cell? ⟨d, 0, none⟩ = some (.slice none 0 0)) : Calls Tryz.prog 134 #[.pointer (some ⟨d, 0, none⟩)] w fun e w' => e = .returned (.int .i64 0) ∧ w' = w := by
  go_enter Tryz.func134, Tryz.ntmps134
  go_wp2
  go_loopw [3, 11] (fun vs vi wr => vs = .int .i64 0 ∧ vi = .int .i64 0 ∧ wr = w) (fun _ _ _ => 0)
  case atStart => exact ⟨rfl, rfl, rfl⟩
  case round =>
    obtain ⟨rfl, rfl, rfl⟩ := hrel
    go_wp2
    all_goals (go_ret; exact ⟨rfl, rfl⟩)

theorem used1 {d b f c : Nat} {ga : Option Addr} {l gc : Nat} {u v : Value} {w : World} (h : w.cell? ⟨d, 0, none⟩ = some (.slice (some ⟨b, 0, none⟩) 1 c)) (hb : w.cell? ⟨b, 0, none⟩ = some (.pointer (some ⟨f, 0, none⟩))) (hf : w.heap[f]? = some (.cells #[u, .slice ga l gc, v] 238 (0, 0))) (hl : l ≤ 100) :
    Calls Tryz.prog 134 #[.pointer (some ⟨d, 0, none⟩)] w fun e w' => e = .returned (.int .i64 (l : Int)) ∧ w' = w := by
  have c1 : w.cell? ⟨f, 1, none⟩ = some (.slice ga l gc) := cell_of_row w f 1 _ _ _ hf
  clear hf
  go_enter Tryz.func134, Tryz.ntmps134
  go_wp2
  go_loopw [3, 11] (fun vs vi wr => ((vs = .int .i64 0 ∧ vi = .int .i64 0) ∨ (vs = .int .i64 (l : Int) ∧ vi = .int .i64 1)) ∧ wr = w) (fun _ vi _ => (1 - intOf vi).toNat)
  case atStart => exact ⟨.inl ⟨rfl, rfl⟩, rfl⟩
  case round =>
    obtain ⟨⟨rfl, rfl⟩ | ⟨rfl, rfl⟩, rfl⟩ := hrel
    · go_wp2
      go_roundw
      case rel => exact ⟨.inr ⟨by simp, rfl⟩, trivial⟩
      case measure => simp [intOf]
    · go_wp2
      all_goals (go_ret; exact ⟨rfl, rfl⟩)

end Go.Proofs.YtiakjeomedijkaaGreatDoor
