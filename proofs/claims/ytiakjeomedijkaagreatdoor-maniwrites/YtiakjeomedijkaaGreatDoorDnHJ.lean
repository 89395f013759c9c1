/- Package disk at one small file named a: Sync, Off, Start, Read. -/
import Derived.Test.YtiakjeomedijkaaGreatDoorDnFJ
import Derived.Lib.SlBytesConst
namespace Go.Proofs.YtiakjeomedijkaaGreatDoor
open Go.RowKit Go.Shelf
set_option maxRecDepth 8000

section
variable {w0 V : World} {d b f g cF : Nat} {rF cur : Array Value} {l : Nat} {dur nw : Int} {on : Bool}

theorem S1.ndb (h : S1 w0 V d b f g cF rF cur l dur nw on) : b ≠ d := ne_tyD h.hb h.hd (by decide)
theorem S1.nfd (h : S1 w0 V d b f g cF rF cur l dur nw on) : f ≠ d := ne_tyD h.hf h.hd (by decide)
theorem S1.ngd (h : S1 w0 V d b f g cF rF cur l dur nw on) : g ≠ d := ne_tyD h.hg h.hd (by decide)
theorem S1.nbf (h : S1 w0 V d b f g cF rF cur l dur nw on) : b ≠ f := ne_tyD h.hb h.hf (by decide)
theorem S1.ngf (h : S1 w0 V d b f g cF rF cur l dur nw on) : g ≠ f := ne_tyD h.hg h.hf (by decide)
theorem S1.nbg (h : S1 w0 V d b f g cF rF cur l dur nw on) : b ≠ g := ne_tyD h.hb h.hg (by decide)

theorem S1.setD (h : S1 w0 V d b f g cF rF cur l dur nw on) {W : World} {on' : Bool} {nw' : Int} (hd' : W.heap[d]? = some (.cells (dkC (.slice (some ⟨b, 0, none⟩) 1 cF) on' nw') 211 (0, 0))) (hk : ∀ k, k ≠ d → W.heap[k]? = V.heap[k]?) (hB : Below w0.heap.size w0 W) : S1 w0 W d b f g cF rF cur l dur nw' on' :=
  ⟨hd', (hk _ h.ndb).trans h.hb, h.hb0, (hk _ h.nfd).trans h.hf, (hk _ h.ngd).trans h.hg, h.hl, h.h3, h.h63, h.ht, hB, h.ed, h.eb, h.ef, h.eg⟩

theorem S1.setF (h : S1 w0 V d b f g cF rF cur l dur nw on) {W : World} {l' : Nat} {dur' : Int} (hf' : W.heap[f]? = some (.cells (flC (some ⟨g, 0, none⟩) l' cur.size dur') 238 (0, 0))) (hl' : l' ≤ cur.size) (hk : ∀ k, k ≠ f → W.heap[k]? = V.heap[k]?) (hB : Below w0.heap.size w0 W) : S1 w0 W d b f g cF rF cur l' dur' nw on :=
  ⟨(hk _ (Ne.symm h.nfd)).trans h.hd, (hk _ h.nbf).trans h.hb, h.hb0, hf', (hk _ h.ngf).trans h.hg, hl', h.h3, h.h63, h.ht, hB, h.ed, h.eb, h.ef, h.eg⟩

/-- open of the one file. -/
theorem open_1 (h : S1 w0 V d b f g cF rF cur l dur nw true) : Calls Tryz.prog 105 #[.pointer (some ⟨d, 0, none⟩), .string aB] V fun e w' => e = .returned (.tuple #[.pointer (some ⟨f, 0, none⟩), .int .i64 0]) ∧ w' = V.alloc (.cells #[.string aB] 9) := by
  have B1 : Below V.heap.size V (V.alloc (.cells #[.string aB] 9)) := below_a _ _
  have h1 := h.below B1
  have HRe : Hid (Calls Tryz.prog 122 #[.pointer (some ⟨d, 0, none⟩), .slice (some ⟨V.heap.size, 0, none⟩) 1 1] (V.alloc (.cells #[.string aB] 9)) fun e w' => e = .returned (.int .i64 0) ∧ w' = V.alloc (.cells #[.string aB] 9)) := ready_a h1.hd (cell_of_row _ V.heap.size 0 _ _ _ (heap_alloc_new _ _))
  have HFi : Hid (Calls Tryz.prog 117 #[.pointer (some ⟨d, 0, none⟩), .string aB] (V.alloc (.cells #[.string aB] 9)) fun e w' => e = .returned (.pointer (some ⟨f, 0, none⟩)) ∧ w' = V.alloc (.cells #[.string aB] 9)) := find1 (dk_cells h1.hd).1 h1.cb h1.hf
  clear B1 h1 h
  go_enter Tryz.func105, Tryz.ntmps105
  go_wp2_with (first | (go_at_call 122; refine (HRe.out).mono ?_; rintro e w1 ⟨rfl, rfl⟩) | (go_at_call 117; refine (HFi.out).mono ?_; rintro e w1 ⟨rfl, rfl⟩))
  all_goals (go_ret2; exact ⟨rfl, rfl⟩)

set_option maxHeartbeats 1000000 in
theorem sync_1 (h : S1 w0 V d b f g cF rF cur l dur nw true) (hw0 : 0 ≤ nw) (hw1 : nw ≤ 100) : Calls Tryz.prog 97 #[.pointer (some ⟨d, 0, none⟩), .string aB] V fun e w' => e = .returned (.int .i64 0) ∧ S1 w0 w' d b f g cF rF cur l (l : Int) (nw + 1) true := by
  have HO : Hid (Calls Tryz.prog 105 #[.pointer (some ⟨d, 0, none⟩), .string aB] V fun e w' => e = .returned (.tuple #[.pointer (some ⟨f, 0, none⟩), .int .i64 0]) ∧ w' = V.alloc (.cells #[.string aB] 9)) := open_1 h
  have h1 := h.below (below_a V (.cells #[.string aB] 9))
  have HS : Hid (S1 w0 (V.alloc (.cells #[.string aB] 9)) d b f g cF rF cur l dur nw true) := h1
  have HW : Hid (Calls Tryz.prog 123 #[.pointer (some ⟨d, 0, none⟩)] (V.alloc (.cells #[.string aB] 9)) fun e w' => e = .returned (.int .i64 0) ∧ S1 w0 w' d b f g cF rF cur l dur (nw + 1) true) :=
    (write_ok h1.hd hw0 hw1).mono (fun e w' hh => ⟨hh.1, h1.setD hh.2.1 hh.2.2.2.1 (hh.2.2.2.2 _ _ h1.ed h1.bel)⟩)
  clear h h1
  go_enter Tryz.func97, Tryz.ntmps97
  go_wp2_with fail
  go_at_call 105
  refine (HO.out).mono ?_
  rintro e w1 ⟨rfl, rfl⟩
  go_wp2_with fail
  go_at_call 123
  refine (HW.out).mono ?_
  rintro e w2 ⟨rfl, h2⟩
  obtain ⟨c0, c1, c2⟩ := fl_cells h2.hf
  have fr2 : w2.frozen? ⟨f, 2, none⟩ = false := frozen_of_row w2 f 2 _ _ h2.hf
  have hfl := lt_of_block h2.hf
  have HE : Hid (S1 w0 (w2.setCell ⟨f, 2, none⟩ (.int .i64 (l : Int))) d b f g cF rF cur l (l : Int) (nw + 1) true) := h2.setF (heap_setD _ h2.hf) h2.hl (fun k hk => Below.heap_setCell _ _ _ _ hk) (h2.bel.setCell (p := ⟨f, 2, none⟩) h2.ef _)
  clear h2
  go_wp2
  all_goals (go_ret; exact ⟨rfl, HE.out⟩)

theorem on_1 (h : S1 w0 V d b f g cF rF cur l dur nw true) : Calls Tryz.prog 146 #[.pointer (some ⟨d, 0, none⟩)] V fun e w' => e = .returned (.bool true) ∧ w' = V := by
  obtain ⟨c0, c1, c2, c3, c4, c5⟩ := dk_cells h.hd
  clear h
  go_enter Tryz.func146, Tryz.ntmps146
  go_wp2
  all_goals (go_ret; exact ⟨rfl, rfl⟩)

theorem off_1 (h : S1 w0 V d b f g cF rF cur l dur nw true) : Calls Tryz.prog 137 #[.pointer (some ⟨d, 0, none⟩)] V fun e w' => e = .returned (.tuple #[]) ∧ S1 w0 w' d b f g cF rF cur l dur nw false := by
  have HO : Hid (Calls Tryz.prog 146 #[.pointer (some ⟨d, 0, none⟩)] V fun e w' => e = .returned (.bool true) ∧ w' = V) := on_1 h
  obtain ⟨c0, c1, c2, c3, c4, c5⟩ := dk_cells h.hd
  have hdl := lt_of_block h.hd
  have f3 : V.frozen? ⟨d, 3, none⟩ = false := frozen_of_row V d 3 _ _ h.hd
  have f4 : V.frozen? ⟨d, 4, none⟩ = false := frozen_of_row V d 4 _ _ h.hd
  have HE : Hid (S1 w0 ((V.setCell ⟨d, 3, none⟩ (.bool false)).setCell ⟨d, 4, none⟩ (.int .i64 (-1))) d b f g cF rF cur l dur nw false) :=
    h.setD (heap_setD _ (heap_setD _ h.hd)) (fun k hk => by rw [Below.heap_setCell _ _ _ _ hk, Below.heap_setCell _ _ _ _ hk]) ((h.bel.setCell (p := ⟨d, 3, none⟩) h.ed _).setCell (p := ⟨d, 4, none⟩) h.ed _)
  clear h
  go_enter Tryz.func137, Tryz.ntmps137
  go_wp2_with (go_at_call 146; refine (HO.out).mono ?_; rintro e w1 ⟨rfl, rfl⟩)
  all_goals ((first | go_end0 | refine bodyPost_ret (results_none rfl _ _ _) rfl ?_); exact ⟨rfl, HE.out⟩)

theorem make_3 (w : World) : (Instr.makeSlice 26 (.int .i64 3) (.int .i64 3)).run Tryz.prog w = .ok (.slice (some ⟨w.heap.size, 0, none⟩) 3 3) (w.alloc (.cells #[.int .u8 0, .int .u8 0, .int .u8 0] 5)) := by kernel_rfl

theorem copied_1 (h : S1 w0 V d b f g cF rF cur 3 dur nw on) : Calls Tryz.prog 106 #[.pointer (some ⟨f, 0, none⟩)] V fun e w' => e = .returned (.slice (some ⟨V.heap.size, 0, none⟩) 3 3) ∧ w'.heap[V.heap.size]? = some (.cells abcV.toArray 5 (0, 0)) ∧ Below V.heap.size V w' := by
  obtain ⟨c0, c1, c2⟩ := fl_cells h.hf
  have hfl := lt_of_block h.hf
  have hgl := lt_of_block h.hg
  have hmk := make_3
  have hA : Below V.heap.size V (V.alloc (.cells #[.int .u8 0, .int .u8 0, .int .u8 0] 5)) := below_a _ _
  have hrow : (V.alloc (.cells #[.int .u8 0, .int .u8 0, .int .u8 0] 5)).heap[V.heap.size]? = some (.cells #[.int .u8 0, .int .u8 0, .int .u8 0] 5 (0, 0)) := heap_alloc_new _ _
  have hcp := run_copy_row (P := Tryz.prog) (V.alloc (.cells #[.int .u8 0, .int .u8 0, .int .u8 0] 5)) 26 26 3 5 V.heap.size 0 3 3 ⟨g, 0, none⟩ 3 cur.size #[.int .u8 0, .int .u8 0, .int .u8 0] 5 abcV Tryz.underlying26 (by kernel_rfl) hrow rfl (fun j v hj => by
    rw [Addr.add_lit, Nat.zero_add, cell_of_row _ g j _ _ _ ((hA.block _ hgl).trans h.hg), ← Array.getElem?_toList]
    rw [← h.ht, List.getElem?_take] at hj
    split at hj
    · exact hj
    · simp at hj) (by simp) (by simp [Value.oneCell'])
  have HR : Hid (((V.alloc (.cells #[.int .u8 0, .int .u8 0, .int .u8 0] 5)).setRow V.heap.size abcV.toArray).heap[V.heap.size]? = some (.cells abcV.toArray 5 (0, 0)) ∧ Below V.heap.size V ((V.alloc (.cells #[.int .u8 0, .int .u8 0, .int .u8 0] 5)).setRow V.heap.size abcV.toArray)) := ⟨setRow_heap _ _ _ _ _ _ hrow, below_setRow hA (Nat.le_refl _) _⟩
  clear h hA hrow
  go_enter Tryz.func106, Tryz.ntmps106
  go_wp2
  all_goals (go_ret; exact ⟨rfl, HR.out⟩)

theorem read_1 (h : S1 w0 V d b f g cF rF cur 3 dur nw true) : Calls Tryz.prog 49 #[.pointer (some ⟨d, 0, none⟩), .string aB] V fun e w' => ∃ c, e = .returned (.tuple #[.slice (some ⟨c, 0, none⟩) 3 3, .int .i64 0]) ∧ w'.heap[c]? = some (.cells abcV.toArray 5 (0, 0)) ∧ Below w0.heap.size w0 w' := by
  have HO : Hid (Calls Tryz.prog 105 #[.pointer (some ⟨d, 0, none⟩), .string aB] V fun e w' => e = .returned (.tuple #[.pointer (some ⟨f, 0, none⟩), .int .i64 0]) ∧ w' = V.alloc (.cells #[.string aB] 9)) := open_1 h
  have h1 := h.below (below_a V (.cells #[.string aB] 9))
  have HC : Hid (Calls Tryz.prog 106 #[.pointer (some ⟨f, 0, none⟩)] (V.alloc (.cells #[.string aB] 9)) fun e w' => ∃ c, e = .returned (.slice (some ⟨c, 0, none⟩) 3 3) ∧ Hid (w'.heap[c]? = some (.cells abcV.toArray 5 (0, 0)) ∧ Below w0.heap.size w0 w')) :=
    (copied_1 h1).mono (fun e w' hh => ⟨_, hh.1, hh.2.1, h1.bel.trans (hh.2.2.mono h1.bel.size)⟩)
  clear h h1
  go_enter Tryz.func49, Tryz.ntmps49
  go_wp2_with (first | (go_at_call 105; refine (HO.out).mono ?_; rintro e w1 ⟨rfl, rfl⟩) | (go_at_call 106; refine (HC.out).mono ?_; rintro e w2 ⟨c, rfl, HR⟩))
  all_goals (go_ret2; exact ⟨c, rfl, HR.out⟩)
end

end Go.Proofs.YtiakjeomedijkaaGreatDoor

/- Package disk at one small file named a: the second Append, New, and what lives of the statements of layer 2 answers. -/
namespace Go.Proofs.YtiakjeomedijkaaGreatDoor
open Go.RowKit Go.Shelf
set_option maxRecDepth 8000

section
variable {w0 V : World} {d b f g cF : Nat} {rF cur : Array Value}

set_option maxHeartbeats 1000000 in
theorem append_1 {m cm : Nat} (h : S1 w0 V d b f g cF rF cur 3 3 2 true) (hm : V.cell? ⟨m, 0, none⟩ = some (.int .u8 100)) (hmd : m ≠ d) (hmf : m ≠ f) :
    Calls Tryz.prog 95 #[.pointer (some ⟨d, 0, none⟩), .string aB, .slice (some ⟨m, 0, none⟩) 1 cm] V fun e w' => e = .returned (.int .i64 0) ∧ ∃ g' cur', S1 w0 w' d b f g' cF rF cur' 4 3 3 true := by
  have hml : m < V.heap.size := World.block_lt_of_cell? V ⟨m, 0, none⟩ hm
  obtain ⟨W1, hW1⟩ : ∃ W, W = V.alloc (.cells #[.string aB] 9) := ⟨_, rfl⟩
  have B1 : Below V.heap.size V W1 := by rw [hW1]; exact below_a _ _
  have h1 := h.below B1
  have hn1 : W1.cell? ⟨V.heap.size, 0, none⟩ = some (.string aB) := by rw [hW1]; exact cell_of_row _ V.heap.size 0 _ _ _ (heap_alloc_new _ _)
  have hm1 : W1.cell? ⟨m, 0, none⟩ = some (.int .u8 100) := by
    unfold World.cell? at hm ⊢
    rw [B1.block _ hml]
    exact hm
  have hD : S1 w0 W1.drew d b f g cF rF cur 3 3 2 true := h1.below ⟨rfl, rfl, rfl, Nat.le_refl _, fun _ _ => rfl⟩
  have HRe : Hid (∀ V', V' = W1 → Calls Tryz.prog 122 #[.pointer (some ⟨d, 0, none⟩), .slice (some ⟨V.heap.size, 0, none⟩) 1 1] V' fun e w' => e = .returned (.int .i64 0) ∧ w' = W1) := fun V' hV => by subst hV; exact ready_a h1.hd hn1
  have HFi : Hid (Calls Tryz.prog 117 #[.pointer (some ⟨d, 0, none⟩), .string aB] W1 fun e w' => e = .returned (.pointer (some ⟨f, 0, none⟩)) ∧ w' = W1) := find1 (dk_cells h1.hd).1 h1.cb h1.hf
  have HFt : Hid (Calls Tryz.prog 119 #[.pointer (some ⟨d, 0, none⟩), .int .i64 1] W1 fun e w' => e = .returned (.bool true) ∧ w' = W1.drew) := fits_yes 1 3 7 h1.hd (used1 (l := 3) (dk_cells hD.hd).1 hD.cb hD.hf (by decide)) (by decide) (by decide)
  have HWr : Hid (Calls Tryz.prog 123 #[.pointer (some ⟨d, 0, none⟩)] W1.drew fun e w' => e = .returned (.int .i64 0) ∧ S1 w0 w' d b f g cF rF cur 3 3 3 true ∧ w'.cell? ⟨m, 0, none⟩ = some (.int .u8 100)) :=
    (write_ok hD.hd (by omega) (by omega)).mono (fun e w' hh => ⟨hh.1, hD.setD hh.2.1 hh.2.2.2.1 (hh.2.2.2.2 _ _ hD.ed hD.bel), by
      have := hm1
      unfold World.cell? at this ⊢
      rw [hh.2.2.2.1 m hmd]
      exact this⟩)
  have HW1 : Hid (W1 = V.alloc (.cells #[.string aB] 9)) := hW1
  clear h hm hW1 B1 h1 hn1 hm1 hD
  go_enter Tryz.func95, Tryz.ntmps95
  go_wp2_with fail
  go_at_call 122
  refine (HRe.out _ HW1.out.symm).mono ?_
  rintro e w1 ⟨rfl, hw⟩
  subst hw
  go_wp2_with fail
  go_at_call 117
  refine (HFi.out).mono ?_
  rintro e w2 ⟨rfl, hw⟩
  subst hw
  go_wp2_with fail
  go_at_call 119
  refine (HFt.out).mono ?_
  rintro e w4 ⟨rfl, hw⟩
  subst hw
  go_wp2_with fail
  go_at_call 123
  refine (HWr.out).mono ?_
  rintro e w5 ⟨rfl, q1, q2⟩
  have HAp : Hid (Calls Tryz.prog 121 #[.pointer (some ⟨f, 0, none⟩), .slice (some ⟨m, 0, none⟩) 1 cm] w5 fun e w' => e = .returned (.tuple #[]) ∧ Hid (∃ g' cur', S1 w0 w' d b f g' cF rF cur' 4 3 3 true)) :=
    (append_more q1.hf q1.hg q1.h3 q1.h63 q1.ht q2 hmf q1.ngf).mono (fun e w' hh => by
      obtain ⟨e1, g', cur', t0, t1, t2, t3, t4, t5, t6, t7, t8⟩ := hh
      have hdl := lt_of_block q1.hd
      have hbl := lt_of_block q1.hb
      have hge : w0.heap.size ≤ g' := by
        rcases t0 with rfl | t0
        · exact q1.eg
        · have := q1.bel.size; omega
      exact ⟨e1, g', cur', (t7 _ hdl (Ne.symm q1.nfd) (Ne.symm q1.ngd)).trans q1.hd, (t7 _ hbl q1.nbf q1.nbg).trans q1.hb, q1.hb0, t1, t2, t3, by omega, t4, t5, t8 _ _ q1.ef q1.eg q1.bel, q1.ed, q1.eb, q1.ef, hge⟩)
  clear q1 q2
  go_wp2_with fail
  go_at_call 121
  refine (HAp.out).mono ?_
  rintro e w7 ⟨rfl, HE⟩
  go_wp2
  all_goals (go_ret; exact ⟨rfl, HE.out⟩)
end

theorem from_10 (w : World) : Calls Tryz.prog 46 #[.int .i64 10, .slice none 0 0] w fun e w' => e = .returned (.tuple #[.pointer (some ⟨w.heap.size, 0, none⟩), .int .i64 0]) ∧ w' = w.alloc (.cells (dkC (.slice none 0 0) true 0) 211) := by
  go_enter Tryz.func46, Tryz.ntmps46
  go_wp2
  go_loopw [21] (fun vi w2 => vi = .int .i64 0 ∧ w2 = w.alloc (.cells (dkC (.slice none 0 0) true 0) 211)) (fun _ _ => 0)
  case atStart => exact ⟨rfl, rfl⟩
  case round =>
    obtain ⟨rfl, rfl⟩ := hrel
    go_wp2
    all_goals (go_ret2; exact ⟨rfl, rfl⟩)

theorem new_10 (w : World) : Calls Tryz.prog 12 #[.int .i64 10] w fun e w' => e = .returned (.tuple #[.pointer (some ⟨w.heap.size, 0, none⟩), .int .i64 0]) ∧ w' = w.alloc (.cells (dkC (.slice none 0 0) true 0) 211) := by
  have HF : Hid (Calls Tryz.prog 46 #[.int .i64 10, .slice none 0 0] w fun e w' => e = .returned (.tuple #[.pointer (some ⟨w.heap.size, 0, none⟩), .int .i64 0]) ∧ w' = w.alloc (.cells (dkC (.slice none 0 0) true 0) 211)) := from_10 w
  go_enter Tryz.func12, Tryz.ntmps12
  go_wp2_with (go_at_call 46; refine (HF.out).mono ?_; rintro e w1 ⟨rfl, rfl⟩)
  all_goals (go_ret2; exact ⟨rfl, rfl⟩)

theorem text_abc {c : Nat} {w : World} (h : w.heap[c]? = some (.cells abcV.toArray 5 (0, 0))) : (convert 26 9 (.slice (some ⟨c, 0, none⟩) 3 3)).run Tryz.prog w = .ok (.string ⟨#[97, 98, 99]⟩) w := by
  have := run_convert_bytes_arg (P := Tryz.prog) w 26 5 Tryz.underlying26 Tryz.underlying5 c 0 3 3 [97, 98, 99] rfl (fun i hi => by
    rw [Nat.zero_add, cell_of_row w c i _ _ _ h]
    have hi3 : i = 0 ∨ i = 1 ∨ i = 2 := by omega
    rcases hi3 with rfl | rfl | rfl <;> rfl) 9 Tryz.underlying9
  rw [this]
  rfl

end Go.Proofs.YtiakjeomedijkaaGreatDoor
