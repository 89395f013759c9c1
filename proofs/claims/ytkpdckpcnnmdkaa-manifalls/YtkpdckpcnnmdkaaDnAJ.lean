/- What pack.Sum and EqBytes of lagoonref00 answer: the Adler-32 sum of the bytes that are given; whether two lists of bytes are the same. -/
import Derived.Test.YtkpdckpcnnmdkaaProg
import Derived.Test.YtkpdckpcnnmdkaaDkPJ
import Derived.Test.YtkpdckpcnnmdkaaDkRJ
import Derived.Test.YtkpdckpcnnmdkaaChecked
import Derived.Test.YtkpdckpcnnmdkaaMemJ
import Derived.Deep.AppendLies
import Derived.Shelf.Abstract
namespace Go.Proofs.Ytkpdckpcnnmdkaa
open Go.RowKit
set_option maxRecDepth 8000

set_option maxHeartbeats 400000 in
theorem packSum_any (v : Value) (xs : List Int) (w : World) (h : Sees w v xs) (hb : Byts xs) :
    Calls Try.prog 79 #[v] w fun e w' => e = .returned (.int .u32 (adler xs)) ∧ w' = w := by
  obtain ⟨ao, cap, rfl, hlc, hcm, _, h3⟩ := h
  unfold maxLen at hcm
  go_enter Try.func79, Try.ntmps79
  go_wp2
  go_loop [3, 4, 9] (fun lo hi i => ∃ k : Nat, k ≤ xs.length ∧ i = .int .i64 k ∧ lo = .int .u32 (adl (xs.take k)).1 ∧ hi = .int .u32 (adl (xs.take k)).2) (fun _ _ i => xs.length - (intOf i).toNat)
  case atStart => exact ⟨0, Nat.zero_le _, rfl, rfl, rfl⟩
  case round =>
    obtain ⟨k, hk, rfl, rfl, rfl⟩ := hrel
    have hd := adl_bd (xs.take k)
    by_cases hlt : k < xs.length
    · rcases h3 with h3 | ⟨b, off, rfl, h3⟩
      · subst h3; simp at hlt
      · have hc := h3 k hlt
        have hx := hb.nth k
        have HS : Hid _ := adl_next xs k hlt
        generalize xs.getD k 0 = x at *
        generalize hA : (adl (xs.take k)).1 = A at *
        generalize hB : (adl (xs.take k)).2 = B at *
        clear hA hB h3 hb
        go_wp2
        go_round
        case rel => exact ⟨k + 1, by omega, by go_num, by rw [HS.out.1], by rw [HS.out.2]⟩
        case measure => simp [intOf]; omega
    · obtain rfl : k = xs.length := by omega
      rw [List.take_length] at *
      go_wp2
      go_ret
      exact ⟨ret_int (adler_bits xs), rfl⟩

end Go.Proofs.Ytkpdckpcnnmdkaa

/- DiskCrash's parts: what an image holds, kept; Left. -/
namespace Go.Proofs.Ytkpdckpcnnmdkaa
open Go.RowKit Go.Shelf
set_option maxRecDepth 8000

theorem ImgAt.kept {w w' : World} {S : Nat → Prop} {B : Nat} {v : Value} {fs : List FiD} {vs : List Value} (h : ImgAt w B v fs vs) (hk : Kept w w' S) (hS : ∀ k, S k → k < B ∨ w.heap.size ≤ k) : ImgAt w' B v fs vs := by
  have hb : ∀ {e : TypeId} {z : Nat} {u : Value} {n : Nat} {xs : List Value}, w.ownsRow B e z u n xs → ∀ k, u.ownBlock = some k → ¬ S k := by
    intro e z u n xs ho k hko hs
    obtain ⟨_, ⟨rfl, _⟩ | ⟨g, cap, cur, rfl, h2, h3, _⟩⟩ := ho
    · cases hko
    · have hgk : g = k := by simpa [Value.ownBlock] using hko
      have hgl := lt_of_block h3
      rcases hS k hs with e | e <;> omega
  exact ⟨h.len, row_kept' h.own hk (hb h.own), fun i u f hu hf => row_kept' (h.bys i u f hu hf) hk (hb (h.bys i u f hu hf))⟩

theorem imgC_at (fs : List FiD) (vs : List Value) (h : vs.length = fs.length) (i : Nat) (hi : i < fs.length) (j : Nat) (hj : j < 3) : (imgC fs vs)[i * 3 + j]? = (fiC fs[i] (vs[i]'(by omega)))[j]? := by
  unfold imgC
  induction fs generalizing vs i with
  | nil => simp at hi
  | cons f fs ih =>
    cases vs with
    | nil => simp at h
    | cons u vs =>
      simp only [List.zipWith_cons_cons, List.flatten_cons]
      cases i with
      | zero => rw [Nat.zero_mul, Nat.zero_add, List.getElem?_append_left (by simp; omega)]; rfl
      | succ i =>
        rw [List.getElem?_append_right (by simp; omega)]
        have := ih vs (by simpa using h) i (by simpa using hi)
        simp only [List.length_cons, List.length_nil]
        rw [show (i + 1) * 3 + j - (0 + 1 + 1 + 1) = i * 3 + j by omega, this]
        rfl

/-- The cells of a file of an image. -/
theorem ImgAt.cells {w : World} {B : Nat} {g n c : Nat} {fs : List FiD} {vs : List Value} (h : ImgAt w B (.slice (some ⟨g, 0, none⟩) n c) fs vs) (i : Nat) (hi : i < fs.length) : ∃ u, vs[i]? = some u ∧ w.cell? ⟨g, i * 3, none⟩ = some (.string fs[i].name) ∧ w.cell? ⟨g, i * 3 + 1, none⟩ = some u ∧ w.cell? ⟨g, i * 3 + 2, none⟩ = some (.int .i64 fs[i].dur) ∧ Owns w B u fs[i].bytes := by
  obtain ⟨_, ⟨e, _⟩ | ⟨g', cap, cur, e, _, h3, h4, _, h6, h7⟩⟩ := h.own
  · cases e
  obtain ⟨rfl, _, rfl⟩ : g = g' ∧ n = fs.length ∧ c = cap := by simpa using e
  have hv : i < vs.length := by rw [h.len]; exact hi
  have hat : ∀ j, j < 3 → w.cell? ⟨g, i * 3 + j, none⟩ = (fiC fs[i] vs[i])[j]? := fun j hj => by
    rw [cell_of_row w g _ _ _ _ h3, ← imgC_at fs vs h.len i hi j hj, ← h7, List.getElem?_take, if_pos (by omega), Array.getElem?_toList]
  exact ⟨vs[i], List.getElem?_eq_getElem hv, hat 0 (by omega), hat 1 (by omega), hat 2 (by omega), h.bys i _ _ (List.getElem?_eq_getElem hv) (List.getElem?_eq_getElem hi)⟩

theorem off_start (D : DkD) (ks : List Int) : (D.off.start ks).on = true ∧ (D.off.start ks).files = lossF D.files ks := by
  unfold DkD.off
  split
  · unfold DkD.start; exact ⟨rfl, rfl⟩
  · rename_i h
    have h' : D.on = false := by simpa using h
    unfold DkD.start
    rw [h']
    exact ⟨rfl, rfl⟩
end Go.Proofs.Ytkpdckpcnnmdkaa

/- What the calls of package disk answer of a disk that nobody made: a nil one and a plain one. -/
namespace Go.Proofs.Ytkpdckpcnnmdkaa
open Go.RowKit Go.Shelf
set_option maxRecDepth 8000

/-- A plain disk's cells. -/
abbrev plainC : Array Value := #[.slice none 0 0, .bool false, .int .i64 0, .bool false, .int .i64 0, .int .i64 0]

/-- A disk that nobody made. -/
def Nd (v : Value) (V : World) : Prop := v = .pointer none ∨ ∃ p, v = .pointer (some ⟨p, 0, none⟩) ∧ V.heap[p]? = some (.cells plainC 56 (0, 0))

theorem Nd.below {v : Value} {V V' : World} (h : Nd v V) (hB : Below V.heap.size V V') : Nd v V' := by
  rcases h with h | ⟨p, h, hp⟩
  · exact .inl h
  · exact .inr ⟨p, h, (hB.block _ (lt_of_block hp)).trans hp⟩

theorem plain_cells {p : Nat} {V : World} (h : V.heap[p]? = some (.cells plainC 56 (0, 0))) : V.cell? ⟨p, 0, none⟩ = some (.slice none 0 0) ∧ V.cell? ⟨p, 1, none⟩ = some (.bool false) ∧ V.cell? ⟨p, 2, none⟩ = some (.int .i64 0) ∧ V.cell? ⟨p, 3, none⟩ = some (.bool false) ∧ V.cell? ⟨p, 4, none⟩ = some (.int .i64 0) ∧ V.cell? ⟨p, 5, none⟩ = some (.int .i64 0) :=
  ⟨cell_of_row V p 0 _ _ _ h, cell_of_row V p 1 _ _ _ h, cell_of_row V p 2 _ _ _ h, cell_of_row V p 3 _ _ _ h, cell_of_row V p 4 _ _ _ h, cell_of_row V p 5 _ _ _ h⟩

theorem on_nd {v : Value} {w : World} (h : Nd v w) : Calls Try.prog 24 #[v] w fun e w' => e = .returned (.bool false) ∧ w' = w := by
  rcases h with rfl | ⟨p, rfl, hp⟩
  · go_enter Try.func24, Try.ntmps24
    go_wp2
    all_goals (go_ret; exact ⟨rfl, rfl⟩)
  · obtain ⟨c0, c1, c2, c3, c4, c5⟩ := plain_cells hp
    have hl := lt_of_block hp
    clear hp
    go_enter Try.func24, Try.ntmps24
    go_wp2
    all_goals (go_ret; exact ⟨rfl, rfl⟩)

theorem writes_nd {v : Value} {w : World} (h : Nd v w) : Calls Try.prog 11 #[v] w fun e w' => e = .returned (.int .i64 0) ∧ w' = w := by
  rcases h with rfl | ⟨p, rfl, hp⟩
  · go_enter Try.func11, Try.ntmps11
    go_wp2
    all_goals (go_ret; exact ⟨rfl, rfl⟩)
  · obtain ⟨c0, c1, c2, c3, c4, c5⟩ := plain_cells hp
    have hl := lt_of_block hp
    clear hp
    go_enter Try.func11, Try.ntmps11
    go_wp2
    all_goals (go_ret; exact ⟨rfl, rfl⟩)

theorem arm_nd {v : Value} {w : World} (h : Nd v w) (n : Int) : Calls Try.prog 12 #[v, .int .i64 n] w fun e w' => e = .returned (.tuple #[]) ∧ w' = w := by
  have HO : Hid (Calls Try.prog 24 #[v] w fun e w' => e = .returned (.bool false) ∧ w' = w) := on_nd h
  clear h
  go_enter Try.func12, Try.ntmps12
  go_wp2_with (go_at_call 24; refine (HO.out).mono ?_; rintro e w' ⟨rfl, rfl⟩)
  all_goals ((first | go_end0 | refine bodyPost_ret (results_none rfl _ _ _) rfl ?_); exact ⟨rfl, rfl⟩)

theorem off_nd {v : Value} {w : World} (h : Nd v w) : Calls Try.prog 13 #[v] w fun e w' => e = .returned (.tuple #[]) ∧ w' = w := by
  have HO : Hid (Calls Try.prog 24 #[v] w fun e w' => e = .returned (.bool false) ∧ w' = w) := on_nd h
  clear h
  go_enter Try.func13, Try.ntmps13
  go_wp2_with (go_at_call 24; refine (HO.out).mono ?_; rintro e w' ⟨rfl, rfl⟩)
  all_goals ((first | go_end0 | refine bodyPost_ret (results_none rfl _ _ _) rfl ?_); exact ⟨rfl, rfl⟩)

theorem start_nd {v : Value} {w : World} (h : Nd v w) (k : Value) : Calls Try.prog 14 #[v, k] w fun e w' => e = .returned (.tuple #[]) ∧ w' = w := by
  rcases h with rfl | ⟨p, rfl, hp⟩
  · go_enter Try.func14, Try.ntmps14
    go_wp2
    all_goals (first | go_end0 | refine bodyPost_ret (results_none rfl _ _ _) rfl ?_; exact ⟨rfl, rfl⟩)
  · obtain ⟨c0, c1, c2, c3, c4, c5⟩ := plain_cells hp
    have hl := lt_of_block hp
    clear hp
    go_enter Try.func14, Try.ntmps14
    go_wp2
    all_goals (first | go_end0 | refine bodyPost_ret (results_none rfl _ _ _) rfl ?_; exact ⟨rfl, rfl⟩)

theorem ready_nd {v : Value} {w : World} (h : Nd v w) (k : Value) : Calls Try.prog 72 #[v, k] w fun e w' => e = .returned (.int .i64 1) ∧ w' = w := by
  rcases h with rfl | ⟨p, rfl, hp⟩
  · go_enter Try.func72, Try.ntmps72
    go_wp2
    all_goals (go_ret; exact ⟨rfl, rfl⟩)
  · obtain ⟨c0, c1, c2, c3, c4, c5⟩ := plain_cells hp
    have hl := lt_of_block hp
    clear hp
    go_enter Try.func72, Try.ntmps72
    go_wp2
    all_goals (go_ret; exact ⟨rfl, rfl⟩)

theorem usedS_nd {p : Nat} {w : World} (hp : w.heap[p]? = some (.cells plainC 56 (0, 0))) : Calls Try.prog 85 #[.pointer (some ⟨p, 0, none⟩)] w fun e w' => e = .returned (.int .i64 0) ∧ w' = w := by
  obtain ⟨c0, c1, c2, c3, c4, c5⟩ := plain_cells hp
  have hl := lt_of_block hp
  clear hp
  go_enter Try.func85, Try.ntmps85
  go_wp2
  go_loopw [3, 11] (fun vs vi wr => vs = .int .i64 0 ∧ vi = .int .i64 0 ∧ wr = w) (fun _ _ _ => 0)
  case atStart => exact ⟨rfl, rfl, rfl⟩
  case round =>
    obtain ⟨rfl, rfl, rfl⟩ := hrel
    go_wp2
    all_goals (go_ret; exact ⟨rfl, rfl⟩)

theorem make_str (w : World) : (Instr.makeSlice 41 (.int .i64 0) (.int .i64 0)).run Try.prog w = .ok (.slice (some ⟨w.heap.size, 0, none⟩) 0 0) (w.alloc (.cells #[] 9)) := by kernel_rfl

theorem make_file (w : World) : (Instr.makeSlice 71 (.int .i64 0) (.int .i64 0)).run Try.prog w = .ok (.slice (some ⟨w.heap.size, 0, none⟩) 0 0) (w.alloc (.cells #[] 73)) := by kernel_rfl

theorem namesS_nd {p : Nat} {w : World} (hp : w.heap[p]? = some (.cells plainC 56 (0, 0))) : Calls Try.prog 27 #[.pointer (some ⟨p, 0, none⟩)] w fun e w' => (∃ a, e = .returned (.slice a 0 0)) ∧ Below w.heap.size w w' := by
  obtain ⟨c0, c1, c2, c3, c4, c5⟩ := plain_cells hp
  have hl := lt_of_block hp
  have hmk := make_str
  have HB : Hid (Below w.heap.size w (w.alloc (.cells #[] 9))) := (Below.refl _ w).alloc (Nat.le_refl _) _
  clear hp
  go_enter Try.func27, Try.ntmps27
  go_wp2
  go_loopw [17] (fun vi wr => vi = .int .i64 0 ∧ wr = w.alloc (.cells #[] 9)) (fun _ _ => 0)
  case atStart => exact ⟨rfl, rfl⟩
  case round =>
    obtain ⟨rfl, rfl⟩ := hrel
    go_wp2
    all_goals (go_ret; exact ⟨⟨_, rfl⟩, HB.out⟩)

theorem names_nd {v : Value} {w : World} (h : Nd v w) : Calls Try.prog 17 #[v] w fun e w' => (∃ a, e = .returned (.slice a 0 0)) ∧ Below w.heap.size w w' := by
  rcases h with rfl | ⟨p, rfl, hp⟩
  · have HB : Hid (Below w.heap.size w w) := Below.refl _ _
    go_enter Try.func17, Try.ntmps17
    go_wp2
    all_goals (go_ret; exact ⟨⟨_, rfl⟩, HB.out⟩)
  · have HU : Hid (∀ V : World, V = w → Calls Try.prog 27 #[.pointer (some ⟨p, 0, none⟩)] V fun e w' => (∃ a, e = .returned (.slice a 0 0)) ∧ Below w.heap.size w w') := fun V hV => by subst hV; exact namesS_nd hp
    have hl := lt_of_block hp
    clear hp
    go_enter Try.func17, Try.ntmps17
    go_wp2_with (go_at_call 27; refine (HU.out _ rfl).mono ?_; rintro e w' ⟨⟨a, rfl⟩, hB⟩)
    all_goals (go_ret; exact ⟨⟨_, rfl⟩, hB⟩)

theorem open_nd {v : Value} {w : World} (h : Nd v w) (s : ByteArray) : Calls Try.prog 48 #[v, .string s] w fun e w' => e = .returned (.tuple #[.pointer none, .int .i64 1]) ∧ Below w.heap.size w w' := by
  have HR : Hid (∀ (V : World) (k : Value), Below w.heap.size w V → Calls Try.prog 72 #[v, k] V fun e w' => e = .returned (.int .i64 1) ∧ w' = V) := fun V k hV => ready_nd (h.below hV) k
  have HB : Hid (Below w.heap.size w (w.alloc (.cells #[.string s] 9))) := (Below.refl _ w).alloc (Nat.le_refl _) _
  clear h
  go_enter Try.func48, Try.ntmps48
  go_wp2_with (go_at_call 72; refine (HR.out _ _ HB.out).mono ?_; rintro e w' ⟨rfl, rfl⟩)
  all_goals (go_ret2; exact ⟨rfl, HB.out⟩)

theorem append_nd {v : Value} {w : World} (h : Nd v w) (s : ByteArray) (q : Value) : Calls Try.prog 38 #[v, .string s, q] w fun e w' => e = .returned (.int .i64 1) ∧ Below w.heap.size w w' := by
  have HR : Hid (∀ (V : World) (k : Value), Below w.heap.size w V → Calls Try.prog 72 #[v, k] V fun e w' => e = .returned (.int .i64 1) ∧ w' = V) := fun V k hV => ready_nd (h.below hV) k
  have HB : Hid (Below w.heap.size w (w.alloc (.cells #[.string s] 9))) := (Below.refl _ w).alloc (Nat.le_refl _) _
  clear h
  go_enter Try.func38, Try.ntmps38
  go_wp2_with (go_at_call 72; refine (HR.out _ _ HB.out).mono ?_; rintro e w' ⟨rfl, rfl⟩)
  all_goals (go_ret; exact ⟨rfl, HB.out⟩)

theorem rename_nd {v : Value} {w : World} (h : Nd v w) (s t : ByteArray) : Calls Try.prog 42 #[v, .string s, .string t] w fun e w' => e = .returned (.int .i64 1) ∧ Below w.heap.size w w' := by
  have HR : Hid (∀ (V : World) (k : Value), Below w.heap.size w V → Calls Try.prog 72 #[v, k] V fun e w' => e = .returned (.int .i64 1) ∧ w' = V) := fun V k hV => ready_nd (h.below hV) k
  have HB : Hid (Below w.heap.size w (w.alloc (.cells #[.string s, .string t] 9))) := (Below.refl _ w).alloc (Nat.le_refl _) _
  clear h
  go_enter Try.func42, Try.ntmps42
  go_wp2_with (go_at_call 72; refine (HR.out _ _ HB.out).mono ?_; rintro e w' ⟨rfl, rfl⟩)
  all_goals (go_ret; exact ⟨rfl, HB.out⟩)

theorem sync_nd {v : Value} {w : World} (h : Nd v w) (s : ByteArray) : Calls Try.prog 40 #[v, .string s] w fun e w' => e = .returned (.int .i64 1) ∧ Below w.heap.size w w' := by
  have HR : Hid (Calls Try.prog 48 #[v, .string s] w fun e w' => e = .returned (.tuple #[.pointer none, .int .i64 1]) ∧ Below w.heap.size w w') := open_nd h s
  clear h
  go_enter Try.func40, Try.ntmps40
  go_wp2_with (go_at_call 48; refine (HR.out).mono ?_; rintro e w' ⟨rfl, hB⟩)
  all_goals (go_ret; exact ⟨rfl, hB⟩)

theorem remove_nd {v : Value} {w : World} (h : Nd v w) (s : ByteArray) : Calls Try.prog 45 #[v, .string s] w fun e w' => e = .returned (.int .i64 1) ∧ Below w.heap.size w w' := by
  have HR : Hid (Calls Try.prog 48 #[v, .string s] w fun e w' => e = .returned (.tuple #[.pointer none, .int .i64 1]) ∧ Below w.heap.size w w') := open_nd h s
  clear h
  go_enter Try.func45, Try.ntmps45
  go_wp2_with (go_at_call 48; refine (HR.out).mono ?_; rintro e w' ⟨rfl, hB⟩)
  all_goals (go_ret; exact ⟨rfl, hB⟩)

theorem read_nd {v : Value} {w : World} (h : Nd v w) (s : ByteArray) : Calls Try.prog 26 #[v, .string s] w fun e w' => e = .returned (.tuple #[.slice none 0 0, .int .i64 1]) ∧ Below w.heap.size w w' := by
  have HR : Hid (Calls Try.prog 48 #[v, .string s] w fun e w' => e = .returned (.tuple #[.pointer none, .int .i64 1]) ∧ Below w.heap.size w w') := open_nd h s
  clear h
  go_enter Try.func26, Try.ntmps26
  go_wp2_with (go_at_call 48; refine (HR.out).mono ?_; rintro e w' ⟨rfl, hB⟩)
  all_goals (go_ret2; exact ⟨rfl, hB⟩)

end Go.Proofs.Ytkpdckpcnnmdkaa
