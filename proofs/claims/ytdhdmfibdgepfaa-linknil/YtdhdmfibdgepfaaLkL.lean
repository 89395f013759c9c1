/- The calls of a nil net and of a plain one; LinkNil's walk. -/
import Derived.Test.YtdhdmfibdgepfaaLkK
import Derived.Test.YtdhdmfibdgepfaaLkM
namespace Go.Proofs.Ytdhdmfibdgepfaa
open Go.RowKit
set_option maxRecDepth 8000
set_option linter.unusedSimpArgs false
set_option linter.unusedVariables false

/-- A net that New did not make. -/
def PlL (w : World) (b : Nat) : Prop := w.heap[b]? = some (.cells #[.int .i64 0, .slice none 0 0] 51 (0, 0))
/-- A pointer to no net. -/
def NoN (w : World) (q : Option Addr) : Prop := q = none ∨ ∃ b, q = some ⟨b, 0, none⟩ ∧ PlL w b
theorem NoN.below {w w' : World} {q : Option Addr} (h : NoN w q) (hB : Below w.heap.size w w') : NoN w' q := by
  rcases h with rfl | ⟨b, rfl, hb⟩
  · exact .inl rfl
  · exact .inr ⟨b, rfl, boxL hb hB⟩
theorem isNone_yesL {w : World} {q : Option Addr} (h : NoN w q) : Calls Try.prog 18 #[.pointer q] w fun e w' => e = .returned (.bool true) ∧ w' = w := by
  rcases h with rfl | ⟨b, rfl, hb⟩
  · go_enter Try.func18, Try.ntmps18
    go_wp2
    all_goals (go_ret; exact ⟨rfl, rfl⟩)
  · have c0 := cell_of_row w b 0 _ _ _ hb
    have hz := lt_of_block hb
    clear hb
    go_enter Try.func18, Try.ntmps18
    go_wp2
    all_goals (go_ret; exact ⟨rfl, rfl⟩)

theorem send_none {w : World} {q : Option Addr} (h : NoN w q) (f t : Int) (v : Value) : Calls Try.prog 9 #[.pointer q, .int .i8 f, .int .i8 t, v] w fun e w' => e = .returned (.int .i64 1) ∧ w' = w := by
  have HN : Hid (Calls Try.prog 18 #[.pointer q] w fun e w' => e = .returned (.bool true) ∧ w' = w) := isNone_yesL h
  clear h
  go_enter Try.func9, Try.ntmps9
  go_wp2_with fail
  refine HN.out.mono ?_
  rintro _ _ ⟨rfl, rfl⟩
  go_wp2_with fail
  all_goals (go_ret; exact ⟨rfl, rfl⟩)

theorem with_none {w : World} {q : Option Addr} (h : NoN w q) (p : Int) (u : Value) : Calls Try.prog 21 #[.pointer q, .int .i64 p, u] w fun e w' => e = .returned (.int .i64 1) ∧ w' = w := by
  have HN : Hid (Calls Try.prog 18 #[.pointer q] w fun e w' => e = .returned (.bool true) ∧ w' = w) := isNone_yesL h
  clear h
  go_enter Try.func21, Try.ntmps21
  go_wp2_with fail
  refine HN.out.mono ?_
  rintro _ _ ⟨rfl, rfl⟩
  go_wp2_with fail
  all_goals (go_ret; exact ⟨rfl, rfl⟩)

set_option maxHeartbeats 2000000 in
theorem take_none {w : World} {q : Option Addr} (h : NoN w q) (p : Int) :
    Calls Try.prog 13 #[.pointer q, .int .i64 p] w fun e w' => e = .returned (.tuple #[.agg #[.int .i8 0, .int .i8 0, .slice none 0 0, .bool false], .int .i64 1]) ∧ Below w.heap.size w w' := by
  obtain ⟨f1, f2, f3, f4, f5, f6⟩ := four_alloc w (.cells #[.pointer q] 25) (.cells #[.int .i64 p] 3) (.cells #[.int .i8 0, .int .i8 0, .slice none 0 0, .bool false] 38) (.cells #[.int .i8 0, .int .i8 0, .slice none 0 0, .bool false] 38)
  have h4 := h.below f1
  have HW : Hid _ := with_none h4 p (.func (.func 23) #[] #[.pointer (some ⟨w.heap.size + 1 + 1 + 1, 0, none⟩), .pointer (some ⟨w.heap.size, 0, none⟩), .pointer (some ⟨w.heap.size + 1, 0, none⟩)])
  have HH : Hid _ := And.intro f1 (And.intro f4 (And.intro f5 f6))
  clear h h4 f1 f2 f3 f4 f5 f6
  go_enter Try.func13, Try.ntmps13
  go_wp2_with fail
  refine Calls.mono HW.out ?_
  rintro _ w2 ⟨rfl, rfl⟩
  obtain ⟨g1, g2, g3, g4⟩ := HH.out
  generalize ((((w.alloc (.cells #[.pointer q] 25)).alloc (.cells #[.int .i64 p] 3)).alloc (.cells #[.int .i8 0, .int .i8 0, .slice none 0 0, .bool false] 38)).alloc (.cells #[.int .i8 0, .int .i8 0, .slice none 0 0, .bool false] 38)) = w2 at *
  have f0 := fun j => frozen_of_row w2 (w.heap.size + 1 + 1) j _ _ g2
  have hzr := lt_of_block g2
  have t0 := cell_of_row w2 (w.heap.size + 1 + 1 + 1) 0 _ _ _ g3
  have t1 := cell_of_row w2 (w.heap.size + 1 + 1 + 1) 1 _ _ _ g3
  have t2 := cell_of_row w2 (w.heap.size + 1 + 1 + 1) 2 _ _ _ g3
  have t3 := cell_of_row w2 (w.heap.size + 1 + 1 + 1) 3 _ _ _ g3
  have r0 := cell_of_row w2 (w.heap.size + 1 + 1) 0 _ _ _ g2
  have r1 := cell_of_row w2 (w.heap.size + 1 + 1) 1 _ _ _ g2
  have r2 := cell_of_row w2 (w.heap.size + 1 + 1) 2 _ _ _ g2
  have r3 := cell_of_row w2 (w.heap.size + 1 + 1) 3 _ _ _ g2
  obtain ⟨hS, hK⟩ := set4L (V := w2) (O := w.heap.size + 1 + 1) (k := 0) (A := []) (Y := []) g2 rfl (.int .i8 0) (.int .i8 0) (.slice none 0 0) (.bool false)
  have HE : Hid (∃ w', w' = (((w2.setCell ⟨w.heap.size + 1 + 1, 0, none⟩ (.int .i8 0)).setCell ⟨w.heap.size + 1 + 1, 1, none⟩ (.int .i8 0)).setCell ⟨w.heap.size + 1 + 1, 2, none⟩ (.slice none 0 0)).setCell ⟨w.heap.size + 1 + 1, 3, none⟩ (.bool false) ∧ w'.heap[w.heap.size + 1 + 1]? = some (.cells #[.int .i8 0, .int .i8 0, .slice none 0 0, .bool false] 38 (0, 0)) ∧ Below w.heap.size w w') :=
    ⟨_, rfl, hS, ((Below.kept g1).trans (hK.mono (S' := fun k => w.heap.size ≤ k) (fun _ _ e => by omega)) (fun _ _ e => e)).below (Nat.le_refl _) (fun _ h => h)⟩
  clear HW HH hS hK g1 g2 g3 g4
  go_wp2
  obtain ⟨w', e, hr, hE⟩ := HE.out
  rw [← e]
  exact bodyPost_ret (ms_ret Try.results13 _ _ _ _ _ _ _ rfl rfl hr rfl) rfl ⟨rfl, hE⟩

theorem double_none {w : World} {q : Option Addr} (h : NoN w q) (p : Int) : Calls Try.prog 11 #[.pointer q, .int .i64 p] w fun e w' => e = .returned (.int .i64 1) ∧ w' = w := by
  have HW : Hid _ := with_none h p (.func (.func 20) #[.pointer q] #[])
  clear h
  go_enter Try.func11, Try.ntmps11
  go_wp2_with fail
  refine Calls.mono HW.out ?_
  rintro _ w2 ⟨rfl, rfl⟩
  go_wp2_with fail
  all_goals (go_ret; exact ⟨rfl, rfl⟩)

theorem spoil_noneL {w : World} {q : Option Addr} (h : NoN w q) (p k x : Int) : Calls Try.prog 12 #[.pointer q, .int .i64 p, .int .i64 k, .int .u8 x] w fun e w' => e = .returned (.int .i64 1) ∧ Below w.heap.size w w' := by
  obtain ⟨f1, f2, f3, f4⟩ := two_alloc w (.cells #[.int .i64 k] 3) (.cells #[.int .u8 x] 5)
  have HW : Hid _ := with_none (h.below f1) p (.func (.func 22) #[] #[.pointer (some ⟨w.heap.size, 0, none⟩), .pointer (some ⟨w.heap.size + 1, 0, none⟩)])
  have HB : Hid _ := f1
  clear h f1 f2 f3 f4
  go_enter Try.func12, Try.ntmps12
  go_wp2_with fail
  refine Calls.mono HW.out ?_
  rintro _ w2 ⟨rfl, rfl⟩
  go_wp2_with fail
  all_goals (go_ret; exact ⟨rfl, HB.out⟩)

theorem len_none {w : World} {q : Option Addr} (h : NoN w q) : Calls Try.prog 15 #[.pointer q] w fun e w' => e = .returned (.int .i64 0) ∧ w' = w := by
  have HN : Hid (Calls Try.prog 18 #[.pointer q] w fun e w' => e = .returned (.bool true) ∧ w' = w) := isNone_yesL h
  clear h
  go_enter Try.func15, Try.ntmps15
  go_wp2_with fail
  refine HN.out.mono ?_
  rintro _ _ ⟨rfl, rfl⟩
  go_wp2_with fail
  all_goals (go_ret; exact ⟨rfl, rfl⟩)

theorem all_none {w : World} {q : Option Addr} (h : NoN w q) : Calls Try.prog 26 #[.pointer q] w fun e w' => e = .returned (.slice none 0 0) ∧ w' = w := by
  have HN : Hid (Calls Try.prog 18 #[.pointer q] w fun e w' => e = .returned (.bool true) ∧ w' = w) := isNone_yesL h
  clear h
  go_enter Try.func26, Try.ntmps26
  go_wp2_with fail
  refine HN.out.mono ?_
  rintro _ _ ⟨rfl, rfl⟩
  go_wp2_with fail
  all_goals (go_ret; exact ⟨rfl, rfl⟩)

end Go.Proofs.Ytdhdmfibdgepfaa
