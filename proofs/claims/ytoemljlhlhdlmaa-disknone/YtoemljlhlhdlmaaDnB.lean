/- What act and nothing of the statements of layer 2 answer of a disk that nobody made. -/
import Derived.Test.YtoemljlhlhdlmaaDnA
namespace Go.Proofs.Ytoemljlhlhdlmaa
open Go.RowKit Go.Shelf
set_option maxRecDepth 8000

section
variable (kd n : Int) (s t : ByteArray) (q k : Value)

/-- An Op in memory, and a disk that nobody made. -/
def PO (v : Value) (w V : World) : Prop := V.heap[w.heap.size]? = some (.cells #[.int .i64 kd, .string s, .string t, q, .int .i64 n, k] 25 (0, 0)) ∧ Below w.heap.size w V ∧ Nd v V

def POc (w V : World) : Prop := V.cell? ⟨w.heap.size, 0, none⟩ = some (.int .i64 kd) ∧ V.cell? ⟨w.heap.size, 1, none⟩ = some (.string s) ∧ V.cell? ⟨w.heap.size, 2, none⟩ = some (.string t) ∧ V.cell? ⟨w.heap.size, 3, none⟩ = some q ∧ V.cell? ⟨w.heap.size, 4, none⟩ = some (.int .i64 n) ∧ V.cell? ⟨w.heap.size, 5, none⟩ = some k

variable {kd n s t q k}
theorem PO.below {v : Value} {w V V' : World} (h : PO kd n s t q k v w V) (hB : Below V.heap.size V V') : PO kd n s t q k v w V' :=
  ⟨(hB.block _ (lt_of_block h.1)).trans h.1, h.2.1.trans (hB.mono h.2.1.size), h.2.2.below hB⟩

theorem PO.cells {v : Value} {w V : World} (h : PO kd n s t q k v w V) : POc kd n s t q k w V :=
  ⟨cell_of_row V w.heap.size 0 _ _ _ h.1, cell_of_row V w.heap.size 1 _ _ _ h.1, cell_of_row V w.heap.size 2 _ _ _ h.1, cell_of_row V w.heap.size 3 _ _ _ h.1, cell_of_row V w.heap.size 4 _ _ _ h.1, cell_of_row V w.heap.size 5 _ _ _ h.1⟩

theorem PO.start {v : Value} {w : World} (h : Nd v w) : PO kd n s t q k v w (w.alloc (.cells #[.int .i64 kd, .string s, .string t, q, .int .i64 n, k] 25)) :=
  ⟨heap_alloc_new _ _, (Below.refl _ _).alloc (Nat.le_refl _) _, h.below ((Below.refl _ _).alloc (Nat.le_refl _) _)⟩

set_option maxHeartbeats 1000000 in
theorem act_nd {v : Value} {w : World} (h : Nd v w) : Calls Try.prog 13 #[v, .agg #[.int .i64 kd, .string s, .string t, q, .int .i64 n, k]] w fun e w' => (∃ x : Int, e = .returned (.int .i64 x) ∧ (x = 1 ∨ kd < 1 ∨ 5 < kd)) ∧ Below w.heap.size w w' := by
  have HP := PO.start (kd := kd) (n := n) (s := s) (t := t) (q := q) (k := k) h
  have HB : Hid (Below w.heap.size w (w.alloc (.cells #[.int .i64 kd, .string s, .string t, q, .int .i64 n, k] 25))) := HP.2.1
  have HN : Hid (Nd v (w.alloc (.cells #[.int .i64 kd, .string s, .string t, q, .int .i64 n, k] 25))) := HP.2.2
  clear HP h
  have hk : kd = 1 ∨ kd = 2 ∨ kd = 3 ∨ kd = 4 ∨ kd = 5 ∨ (kd < 1 ∨ 5 < kd) := by omega
  rcases hk with rfl | rfl | rfl | rfl | rfl | hk
  · go_enter Try.func13, Try.ntmps13
    go_wp2_with fail
    go_at_call 7
    refine (append_nd HN.out s q).mono ?_
    rintro e w1 ⟨rfl, hB⟩
    have HB1 : Hid (Below w.heap.size w w1) := HB.out.trans (hB.mono HB.out.size)
    clear hB
    go_wp2
    all_goals (go_ret; exact ⟨⟨1, rfl, .inl rfl⟩, HB1.out⟩)
  · go_enter Try.func13, Try.ntmps13
    go_wp2_with fail
    go_at_call 8
    refine (sync_nd HN.out s).mono ?_
    rintro e w1 ⟨rfl, hB⟩
    have HB1 : Hid (Below w.heap.size w w1) := HB.out.trans (hB.mono HB.out.size)
    clear hB
    go_wp2
    all_goals (go_ret; exact ⟨⟨1, rfl, .inl rfl⟩, HB1.out⟩)
  · go_enter Try.func13, Try.ntmps13
    go_wp2_with fail
    go_at_call 31
    refine (cut_nd HN.out s n).mono ?_
    rintro e w1 ⟨rfl, hB⟩
    have HB1 : Hid (Below w.heap.size w w1) := HB.out.trans (hB.mono HB.out.size)
    clear hB
    go_wp2
    all_goals (go_ret; exact ⟨⟨1, rfl, .inl rfl⟩, HB1.out⟩)
  · go_enter Try.func13, Try.ntmps13
    go_wp2_with fail
    go_at_call 14
    refine (rename_nd HN.out s t).mono ?_
    rintro e w1 ⟨rfl, hB⟩
    have HB1 : Hid (Below w.heap.size w w1) := HB.out.trans (hB.mono HB.out.size)
    clear hB
    go_wp2
    all_goals (go_ret; exact ⟨⟨1, rfl, .inl rfl⟩, HB1.out⟩)
  · go_enter Try.func13, Try.ntmps13
    go_wp2_with fail
    go_at_call 32
    refine (remove_nd HN.out s).mono ?_
    rintro e w1 ⟨rfl, hB⟩
    have HB1 : Hid (Below w.heap.size w w1) := HB.out.trans (hB.mono HB.out.size)
    clear hB
    go_wp2
    all_goals (go_ret; exact ⟨⟨1, rfl, .inl rfl⟩, HB1.out⟩)
  · have h1 : (kd == 1) = false := by simp; omega
    have h2 : (kd == 2) = false := by simp; omega
    have h3 : (kd == 3) = false := by simp; omega
    have h4 : (kd == 4) = false := by simp; omega
    have h5 : (kd == 5) = false := by simp; omega
    have g1 : ¬ kd = 1 := by omega
    have g2 : ¬ kd = 2 := by omega
    have g3 : ¬ kd = 3 := by omega
    have g4 : ¬ kd = 4 := by omega
    have g5 : ¬ kd = 5 := by omega
    have HK : Hid (kd < 1 ∨ 5 < kd) := hk
    clear hk
    go_enter Try.func13, Try.ntmps13
    go_wp2
    all_goals (go_ret; exact ⟨⟨_, rfl, .inr HK.out⟩, HB.out⟩)

set_option maxHeartbeats 2000000 in
theorem nothing_nd {v : Value} {w : World} (h : Nd v w) : Calls Try.prog 5 #[v, .agg #[.int .i64 kd, .string s, .string t, q, .int .i64 n, k]] w fun e w' => e = .returned (.bool true) ∧ Below w.heap.size w w' := by
  have HP0 : Hid (PO kd n s t q k v w (w.alloc (.cells #[.int .i64 kd, .string s, .string t, q, .int .i64 n, k] 25))) := PO.start h
  clear h
  go_enter Try.func5, Try.ntmps5
  go_wp2_with fail
  go_at_call 12
  refine (arm_nd HP0.out.2.2 n).mono ?_
  rintro e w1 ⟨rfl, hE⟩
  have HP1 : Hid (PO kd n s t q k v w w1) := HP0.out.below (by subst hE; exact Below.refl _ _)
  obtain ⟨c0, c1, c2, c3, c4, c5⟩ := HP1.out.cells
  clear hE HP0
  go_wp2_with fail
  go_at_call 9
  refine (off_nd HP1.out.2.2).mono ?_
  rintro e w2 ⟨rfl, hE⟩
  have HP2 : Hid (PO kd n s t q k v w w2) := HP1.out.below (by subst hE; exact Below.refl _ _)
  obtain ⟨c0, c1, c2, c3, c4, c5⟩ := HP2.out.cells
  clear hE HP1
  go_wp2_with fail
  go_at_call 10
  refine (start_nd HP2.out.2.2 k).mono ?_
  rintro e w3 ⟨rfl, hE⟩
  have HP3 : Hid (PO kd n s t q k v w w3) := HP2.out.below (by subst hE; exact Below.refl _ _)
  obtain ⟨c0, c1, c2, c3, c4, c5⟩ := HP3.out.cells
  clear hE HP2
  go_wp2_with fail
  go_at_call 11
  refine (read_nd HP3.out.2.2 s).mono ?_
  rintro e w4 ⟨rfl, hB⟩
  have HP4 : Hid (PO kd n s t q k v w w4) := HP3.out.below hB
  obtain ⟨c0, c1, c2, c3, c4, c5⟩ := HP4.out.cells
  clear hB HP3
  go_wp2_with fail
  go_at_call 13
  refine (act_nd HP4.out.2.2).mono ?_
  rintro e w5 ⟨⟨x, rfl, hx⟩, hB⟩
  have HP5 : Hid (PO kd n s t q k v w w5) := HP4.out.below hB
  obtain ⟨c0, c1, c2, c3, c4, c5⟩ := HP5.out.cells
  clear hB HP4
  have hx5 : x = 1 ∨ (¬ x = 1 ∧ kd < 1) ∨ (¬ x = 1 ∧ ¬ kd < 1 ∧ 5 < kd) := by omega
  clear hx
  have HR : Hid (∀ (V : World), Hid (PO kd n s t q k v w V) → True) := fun _ _ => trivial
  rcases hx5 with rfl | ⟨hx1, hx2⟩ | ⟨hx1, hx2, hx3⟩
  · go_wp2_with fail
    go_at_call 7
    refine (append_nd HP5.out.2.2 s q).mono ?_
    rintro e w6 ⟨rfl, hB⟩
    have HP6 : Hid (PO kd n s t q k v w w6) := HP5.out.below hB
    obtain ⟨c0, c1, c2, c3, c4, c5⟩ := HP6.out.cells
    clear hB HP5
    go_wp2_with fail
    go_at_call 8
    refine (sync_nd HP6.out.2.2 s).mono ?_
    rintro e w7 ⟨rfl, hB⟩
    have HP7 : Hid (PO kd n s t q k v w w7) := HP6.out.below hB
    obtain ⟨c0, c1, c2, c3, c4, c5⟩ := HP7.out.cells
    clear hB HP6
    go_wp2_with fail
    go_at_call 14
    refine (rename_nd HP7.out.2.2 s t).mono ?_
    rintro e w8 ⟨rfl, hB⟩
    have HP8 : Hid (PO kd n s t q k v w w8) := HP7.out.below hB
    obtain ⟨c0, c1, c2, c3, c4, c5⟩ := HP8.out.cells
    clear hB HP7
    go_wp2_with fail
    go_at_call 15
    refine (names_nd HP8.out.2.2).mono ?_
    rintro e w9 ⟨⟨ax, rfl⟩, hB⟩
    have HP9 : Hid (PO kd n s t q k v w w9) := HP8.out.below hB
    obtain ⟨c0, c1, c2, c3, c4, c5⟩ := HP9.out.cells
    clear hB HP8
    go_wp2_with fail
    go_at_call 16
    refine (image_nd HP9.out.2.2).mono ?_
    rintro e w10 ⟨⟨ay, rfl⟩, hB⟩
    have HP10 : Hid (PO kd n s t q k v w w10) := HP9.out.below hB
    obtain ⟨c0, c1, c2, c3, c4, c5⟩ := HP10.out.cells
    clear hB HP9
    go_wp2_with fail
    go_at_call 17
    refine (used_nd HP10.out.2.2).mono ?_
    rintro e w11 ⟨rfl, hB⟩
    have HP11 : Hid (PO kd n s t q k v w w11) := HP10.out.below hB
    obtain ⟨c0, c1, c2, c3, c4, c5⟩ := HP11.out.cells
    clear hB HP10
    go_wp2_with fail
    go_at_call 18
    refine (writes_nd HP11.out.2.2).mono ?_
    rintro e w12 ⟨rfl, hE⟩
    have HP12 : Hid (PO kd n s t q k v w w12) := HP11.out.below (by subst hE; exact Below.refl _ _)
    obtain ⟨c0, c1, c2, c3, c4, c5⟩ := HP12.out.cells
    clear hE HP11
    go_wp2_with fail
    go_at_call 19
    refine (on_nd HP12.out.2.2).mono ?_
    rintro e w13 ⟨rfl, hE⟩
    have HP13 : Hid (PO kd n s t q k v w w13) := HP12.out.below (by subst hE; exact Below.refl _ _)
    obtain ⟨c0, c1, c2, c3, c4, c5⟩ := HP13.out.cells
    clear hE HP12
    go_wp2
    all_goals (go_ret; exact ⟨rfl, HP13.out.2.1⟩)
  · have d1 : (x == 1) = false := by simp; omega
    have d2 : decide (kd < 1) = true := by simp; omega
    go_wp2_with fail
    go_at_call 7
    refine (append_nd HP5.out.2.2 s q).mono ?_
    rintro e w6 ⟨rfl, hB⟩
    have HP6 : Hid (PO kd n s t q k v w w6) := HP5.out.below hB
    obtain ⟨c0, c1, c2, c3, c4, c5⟩ := HP6.out.cells
    clear hB HP5
    go_wp2_with fail
    go_at_call 8
    refine (sync_nd HP6.out.2.2 s).mono ?_
    rintro e w7 ⟨rfl, hB⟩
    have HP7 : Hid (PO kd n s t q k v w w7) := HP6.out.below hB
    obtain ⟨c0, c1, c2, c3, c4, c5⟩ := HP7.out.cells
    clear hB HP6
    go_wp2_with fail
    go_at_call 14
    refine (rename_nd HP7.out.2.2 s t).mono ?_
    rintro e w8 ⟨rfl, hB⟩
    have HP8 : Hid (PO kd n s t q k v w w8) := HP7.out.below hB
    obtain ⟨c0, c1, c2, c3, c4, c5⟩ := HP8.out.cells
    clear hB HP7
    go_wp2_with fail
    go_at_call 15
    refine (names_nd HP8.out.2.2).mono ?_
    rintro e w9 ⟨⟨ax, rfl⟩, hB⟩
    have HP9 : Hid (PO kd n s t q k v w w9) := HP8.out.below hB
    obtain ⟨c0, c1, c2, c3, c4, c5⟩ := HP9.out.cells
    clear hB HP8
    go_wp2_with fail
    go_at_call 16
    refine (image_nd HP9.out.2.2).mono ?_
    rintro e w10 ⟨⟨ay, rfl⟩, hB⟩
    have HP10 : Hid (PO kd n s t q k v w w10) := HP9.out.below hB
    obtain ⟨c0, c1, c2, c3, c4, c5⟩ := HP10.out.cells
    clear hB HP9
    go_wp2_with fail
    go_at_call 17
    refine (used_nd HP10.out.2.2).mono ?_
    rintro e w11 ⟨rfl, hB⟩
    have HP11 : Hid (PO kd n s t q k v w w11) := HP10.out.below hB
    obtain ⟨c0, c1, c2, c3, c4, c5⟩ := HP11.out.cells
    clear hB HP10
    go_wp2_with fail
    go_at_call 18
    refine (writes_nd HP11.out.2.2).mono ?_
    rintro e w12 ⟨rfl, hE⟩
    have HP12 : Hid (PO kd n s t q k v w w12) := HP11.out.below (by subst hE; exact Below.refl _ _)
    obtain ⟨c0, c1, c2, c3, c4, c5⟩ := HP12.out.cells
    clear hE HP11
    go_wp2_with fail
    go_at_call 19
    refine (on_nd HP12.out.2.2).mono ?_
    rintro e w13 ⟨rfl, hE⟩
    have HP13 : Hid (PO kd n s t q k v w w13) := HP12.out.below (by subst hE; exact Below.refl _ _)
    obtain ⟨c0, c1, c2, c3, c4, c5⟩ := HP13.out.cells
    clear hE HP12
    go_wp2
    all_goals (go_ret; exact ⟨rfl, HP13.out.2.1⟩)
  · have d1 : (x == 1) = false := by simp; omega
    have d2 : decide (kd < 1) = false := by simp; omega
    have d3 : decide (5 < kd) = true := by simp; omega
    go_wp2_with fail
    go_at_call 7
    refine (append_nd HP5.out.2.2 s q).mono ?_
    rintro e w6 ⟨rfl, hB⟩
    have HP6 : Hid (PO kd n s t q k v w w6) := HP5.out.below hB
    obtain ⟨c0, c1, c2, c3, c4, c5⟩ := HP6.out.cells
    clear hB HP5
    go_wp2_with fail
    go_at_call 8
    refine (sync_nd HP6.out.2.2 s).mono ?_
    rintro e w7 ⟨rfl, hB⟩
    have HP7 : Hid (PO kd n s t q k v w w7) := HP6.out.below hB
    obtain ⟨c0, c1, c2, c3, c4, c5⟩ := HP7.out.cells
    clear hB HP6
    go_wp2_with fail
    go_at_call 14
    refine (rename_nd HP7.out.2.2 s t).mono ?_
    rintro e w8 ⟨rfl, hB⟩
    have HP8 : Hid (PO kd n s t q k v w w8) := HP7.out.below hB
    obtain ⟨c0, c1, c2, c3, c4, c5⟩ := HP8.out.cells
    clear hB HP7
    go_wp2_with fail
    go_at_call 15
    refine (names_nd HP8.out.2.2).mono ?_
    rintro e w9 ⟨⟨ax, rfl⟩, hB⟩
    have HP9 : Hid (PO kd n s t q k v w w9) := HP8.out.below hB
    obtain ⟨c0, c1, c2, c3, c4, c5⟩ := HP9.out.cells
    clear hB HP8
    go_wp2_with fail
    go_at_call 16
    refine (image_nd HP9.out.2.2).mono ?_
    rintro e w10 ⟨⟨ay, rfl⟩, hB⟩
    have HP10 : Hid (PO kd n s t q k v w w10) := HP9.out.below hB
    obtain ⟨c0, c1, c2, c3, c4, c5⟩ := HP10.out.cells
    clear hB HP9
    go_wp2_with fail
    go_at_call 17
    refine (used_nd HP10.out.2.2).mono ?_
    rintro e w11 ⟨rfl, hB⟩
    have HP11 : Hid (PO kd n s t q k v w w11) := HP10.out.below hB
    obtain ⟨c0, c1, c2, c3, c4, c5⟩ := HP11.out.cells
    clear hB HP10
    go_wp2_with fail
    go_at_call 18
    refine (writes_nd HP11.out.2.2).mono ?_
    rintro e w12 ⟨rfl, hE⟩
    have HP12 : Hid (PO kd n s t q k v w w12) := HP11.out.below (by subst hE; exact Below.refl _ _)
    obtain ⟨c0, c1, c2, c3, c4, c5⟩ := HP12.out.cells
    clear hE HP11
    go_wp2_with fail
    go_at_call 19
    refine (on_nd HP12.out.2.2).mono ?_
    rintro e w13 ⟨rfl, hE⟩
    have HP13 : Hid (PO kd n s t q k v w w13) := HP12.out.below (by subst hE; exact Below.refl _ _)
    obtain ⟨c0, c1, c2, c3, c4, c5⟩ := HP13.out.cells
    clear hE HP12
    go_wp2
    all_goals (go_ret; exact ⟨rfl, HP13.out.2.1⟩)
end

end Go.Proofs.Ytoemljlhlhdlmaa
