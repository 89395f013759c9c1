/- Package disk at one small file named a: Sync, Off, Start, Read. -/
import Derived.Test.YtbdokdhconhifaaGreatDoorDnFJ
import Derived.Lib.SlBytesConst
namespace Go.Proofs.YtbdokdhconhifaaGreatDoor
open Go.RowKit Go.Shelf
set_option maxRecDepth 8000

section
variable {w0 V : World} {d b f g cF : Nat} {rF cur : Array Value} {l : Nat} {dur nw : Int} {on : Bool}

theorem S1.ndb (h : S1 w0 V d b f g cF rF cur l dur nw on) : b ≠ d := ne_tyD h.hb h.hd (by decide)
theorem S1.nfd (h : S1 w0 V d b f g cF rF cur l dur nw on) : f ≠ d := ne_tyD h.hf h.hd (by decide)
theorem S1.ngd (h : S1 w0 V d b f g cF rF cur l dur nw on) : g ≠ d := ne_tyD h.hg h.hd (by decide)
theorem S1.nbf (h : S1 w0 V d b f g cF rF cur l dur nw on) : b ≠ f := ne_tyD h.hb h.hf (by decide)
theorem S1.ngf (h : S1 w0 V d b f g cF rF cur l dur nw on) : g ≠ f := ne_tyD h.hg h.hf (by decide)
theorem S1.nbg (h : S1 w0 V d b f g cF rF cur l dur nw on) : b ≠ g := ne_tyD h.hb h.hg (by decide)

theorem S1.setD (h : S1 w0 V d b f g cF rF cur l dur nw on) {W : World} {on' : Bool} {nw' : Int} (hd' : W.heap[d]? = some (.cells (dkC (.slice (some ⟨b, 0, none⟩) 1 cF) on' nw') 76 (0, 0))) (hk : ∀ k, k ≠ d → W.heap[k]? = V.heap[k]?) (hB : Below w0.heap.size w0 W) : S1 w0 W d b f g cF rF cur l dur nw' on' :=
  ⟨hd', (hk _ h.ndb).trans h.hb, h.hb0, (hk _ h.nfd).trans h.hf, (hk _ h.ngd).trans h.hg, h.hl, h.h3, h.h63, h.ht, hB, h.ed, h.eb, h.ef, h.eg⟩

theorem S1.setF (h : S1 w0 V d b f g cF rF cur l dur nw on) {W : World} {l' : Nat} {dur' : Int} (hf' : W.heap[f]? = some (.cells (flC (some ⟨g, 0, none⟩) l' cur.size dur') 122 (0, 0))) (hl' : l' ≤ cur.size) (hk : ∀ k, k ≠ f → W.heap[k]? = V.heap[k]?) (hB : Below w0.heap.size w0 W) : S1 w0 W d b f g cF rF cur l' dur' nw on :=
  ⟨(hk _ (Ne.symm h.nfd)).trans h.hd, (hk _ h.nbf).trans h.hb, h.hb0, hf', (hk _ h.ngf).trans h.hg, hl', h.h3, h.h63, h.ht, hB, h.ed, h.eb, h.ef, h.eg⟩

/-- open of the one file. -/
theorem open_1 (h : S1 w0 V d b f g cF rF cur l dur nw true) : Calls Tryz.prog 34 #[.pointer (some ⟨d, 0, none⟩), .string aB] V fun e w' => e = .returned (.tuple #[.pointer (some ⟨f, 0, none⟩), .int .i64 0]) ∧ w' = V.alloc (.cells #[.string aB] 9) := by
  have B1 : Below V.heap.size V (V.alloc (.cells #[.string aB] 9)) := below_a _ _
  have h1 := h.below B1
  have HRe : Hid (Calls Tryz.prog 70 #[.pointer (some ⟨d, 0, none⟩), .slice (some ⟨V.heap.size, 0, none⟩) 1 1] (V.alloc (.cells #[.string aB] 9)) fun e w' => e = .returned (.int .i64 0) ∧ w' = V.alloc (.cells #[.string aB] 9)) := ready_a h1.hd (cell_of_row _ V.heap.size 0 _ _ _ (heap_alloc_new _ _))
  have HFi : Hid (Calls Tryz.prog 65 #[.pointer (some ⟨d, 0, none⟩), .string aB] (V.alloc (.cells #[.string aB] 9)) fun e w' => e = .returned (.pointer (some ⟨f, 0, none⟩)) ∧ w' = V.alloc (.cells #[.string aB] 9)) := find1 (dk_cells h1.hd).1 h1.cb h1.hf
  clear B1 h1 h
  go_enter Tryz.func34, Tryz.ntmps34
  go_wp2_with (first | (go_at_call 70; refine (HRe.out).mono ?_; rintro e w1 ⟨rfl, rfl⟩) | (go_at_call 65; refine (HFi.out).mono ?_; rintro e w1 ⟨rfl, rfl⟩))
  all_goals (go_ret2; exact ⟨rfl, rfl⟩)

set_option maxHeartbeats 1000000 in
theorem sync_1 (h : S1 w0 V d b f g cF rF cur l dur nw true) (hw0 : 0 ≤ nw) (hw1 : nw ≤ 100) : Calls Tryz.prog 31 #[.pointer (some ⟨d, 0, none⟩), .string aB] V fun e w' => e = .returned (.int .i64 0) ∧ S1 w0 w' d b f g cF rF cur l (l : Int) (nw + 1) true := by
  have HO : Hid (Calls Tryz.prog 34 #[.pointer (some ⟨d, 0, none⟩), .string aB] V fun e w' => e = .returned (.tuple #[.pointer (some ⟨f, 0, none⟩), .int .i64 0]) ∧ w' = V.alloc (.cells #[.string aB] 9)) := open_1 h
  have h1 := h.below (below_a V (.cells #[.string aB] 9))
  have HS : Hid (S1 w0 (V.alloc (.cells #[.string aB] 9)) d b f g cF rF cur l dur nw true) := h1
  have HW : Hid (Calls Tryz.prog 71 #[.pointer (some ⟨d, 0, none⟩)] (V.alloc (.cells #[.string aB] 9)) fun e w' => e = .returned (.int .i64 0) ∧ S1 w0 w' d b f g cF rF cur l dur (nw + 1) true) :=
    (write_ok h1.hd hw0 hw1).mono (fun e w' hh => ⟨hh.1, h1.setD hh.2.1 hh.2.2.2.1 (hh.2.2.2.2 _ _ h1.ed h1.bel)⟩)
  clear h h1
  go_enter Tryz.func31, Tryz.ntmps31
  go_wp2_with fail
  go_at_call 34
  refine (HO.out).mono ?_
  rintro e w1 ⟨rfl, rfl⟩
  go_wp2_with fail
  go_at_call 71
  refine (HW.out).mono ?_
  rintro e w2 ⟨rfl, h2⟩
  obtain ⟨c0, c1, c2⟩ := fl_cells h2.hf
  have fr2 : w2.frozen? ⟨f, 2, none⟩ = false := frozen_of_row w2 f 2 _ _ h2.hf
  have hfl := lt_of_block h2.hf
  have HE : Hid (S1 w0 (w2.setCell ⟨f, 2, none⟩ (.int .i64 (l : Int))) d b f g cF rF cur l (l : Int) (nw + 1) true) := h2.setF (heap_setD _ h2.hf) h2.hl (fun k hk => Below.heap_setCell _ _ _ _ hk) (h2.bel.setCell (p := ⟨f, 2, none⟩) h2.ef _)
  clear h2
  go_wp2
  all_goals (go_ret; exact ⟨rfl, HE.out⟩)

theorem on_1 (h : S1 w0 V d b f g cF rF cur l dur nw true) : Calls Tryz.prog 61 #[.pointer (some ⟨d, 0, none⟩)] V fun e w' => e = .returned (.bool true) ∧ w' = V := by
  obtain ⟨c0, c1, c2, c3, c4, c5⟩ := dk_cells h.hd
  clear h
  go_enter Tryz.func61, Tryz.ntmps61
  go_wp2
  all_goals (go_ret; exact ⟨rfl, rfl⟩)

theorem off_1 (h : S1 w0 V d b f g cF rF cur l dur nw true) : Calls Tryz.prog 32 #[.pointer (some ⟨d, 0, none⟩)] V fun e w' => e = .returned (.tuple #[]) ∧ S1 w0 w' d b f g cF rF cur l dur nw false := by
  have HO : Hid (Calls Tryz.prog 61 #[.pointer (some ⟨d, 0, none⟩)] V fun e w' => e = .returned (.bool true) ∧ w' = V) := on_1 h
  obtain ⟨c0, c1, c2, c3, c4, c5⟩ := dk_cells h.hd
  have hdl := lt_of_block h.hd
  have f3 : V.frozen? ⟨d, 3, none⟩ = false := frozen_of_row V d 3 _ _ h.hd
  have f4 : V.frozen? ⟨d, 4, none⟩ = false := frozen_of_row V d 4 _ _ h.hd
  have HE : Hid (S1 w0 ((V.setCell ⟨d, 3, none⟩ (.bool false)).setCell ⟨d, 4, none⟩ (.int .i64 (-1))) d b f g cF rF cur l dur nw false) :=
    h.setD (heap_setD _ (heap_setD _ h.hd)) (fun k hk => by rw [Below.heap_setCell _ _ _ _ hk, Below.heap_setCell _ _ _ _ hk]) ((h.bel.setCell (p := ⟨d, 3, none⟩) h.ed _).setCell (p := ⟨d, 4, none⟩) h.ed _)
  clear h
  go_enter Tryz.func32, Tryz.ntmps32
  go_wp2_with (go_at_call 61; refine (HO.out).mono ?_; rintro e w1 ⟨rfl, rfl⟩)
  all_goals ((first | go_end0 | refine bodyPost_ret (results_none rfl _ _ _) rfl ?_); exact ⟨rfl, HE.out⟩)

theorem cut_3 {l : Nat} (h : S1 w0 V d b f g cF rF cur l dur nw on) : Calls Tryz.prog 99 #[.pointer (some ⟨f, 0, none⟩), .int .i64 3] V fun e w' => e = .returned (.tuple #[]) ∧ S1 w0 w' d b f g cF rF cur 3 3 nw on := by
  obtain ⟨c0, c1, c2⟩ := fl_cells h.hf
  have hfl := lt_of_block h.hf
  have f1 : V.frozen? ⟨f, 1, none⟩ = false := frozen_of_row V f 1 _ _ h.hf
  have f2 : V.frozen? ⟨f, 2, none⟩ = false := frozen_of_row V f 2 _ _ h.hf
  have h3 := h.h3
  have hcI : (3 : Int) ≤ (cur.size : Int) := by omega
  have HE : Hid (S1 w0 ((V.setCell ⟨f, 1, none⟩ (.slice (some ⟨g, 0, none⟩) 3 cur.size)).setCell ⟨f, 2, none⟩ (.int .i64 3)) d b f g cF rF cur 3 3 nw on) :=
    h.setF (heap_setD _ (heap_setD _ h.hf)) h3 (fun k hk => by rw [Below.heap_setCell _ _ _ _ hk, Below.heap_setCell _ _ _ _ hk]) ((h.bel.setCell (p := ⟨f, 1, none⟩) h.ef _).setCell (p := ⟨f, 2, none⟩) h.ef _)
  clear h
  go_enter Tryz.func99, Tryz.ntmps99
  go_wp2
  all_goals ((first | go_end0 | refine bodyPost_ret (results_none rfl _ _ _) rfl ?_); exact ⟨rfl, HE.out⟩)

set_option maxHeartbeats 1000000 in
theorem lose_1 (h : S1 w0 V d b f g cF rF cur 4 3 nw on) : Calls Tryz.prog 72 #[.pointer (some ⟨f, 0, none⟩), .int .i64 0] V fun e w' => e = .returned (.tuple #[]) ∧ S1 w0 w' d b f g cF rF cur 3 3 nw on := by
  have hD : S1 w0 V.drew d b f g cF rF cur 4 3 nw on := h.below ⟨rfl, rfl, rfl, Nat.le_refl _, fun _ _ => rfl⟩
  obtain ⟨c0, c1, c2⟩ := fl_cells hD.hf
  have HC : Hid (Calls Tryz.prog 99 #[.pointer (some ⟨f, 0, none⟩), .int .i64 3] V.drew fun e w' => e = .returned (.tuple #[]) ∧ S1 w0 w' d b f g cF rF cur 3 3 nw on) := cut_3 hD
  have hfl := lt_of_block h.hf
  clear h hD
  go_enter Tryz.func72, Tryz.ntmps72
  go_wp2_with fail
  refine wp_region_held_drew (S := fun w' => w'.cell? ⟨f, 1, none⟩ = some (.slice (some ⟨g, 0, none⟩) 4 cur.size) ∧ w'.cell? ⟨f, 2, none⟩ = some (.int .i64 3)) (by kernel_rfl) ?_ (fun hHeld => ?_)
  · exact ⟨c1, c2⟩
  refine wpAnyH_take (i := 0) (oi := { dst := some 5, op := Op.move (Operand.tmp 0), type := 90, pos := "shelf.go:31", after := #[], guard := none }) (v := ?_) rfl (by kernel_rfl) (by kernel_rfl) (by kernel_rfl) (fun _ _ _ h => h) (Or.inl ⟨by rfl, ?_⟩) (by assumption) ?_
  rotate_left
  · (intro w hSw; (try dsimp only at hSw); go_simp) <;> with_reducible rfl
  try simp only [Act.put, List.setIfInBounds_toArray, List.set_cons_zero, List.set_cons_succ]
  refine wpAnyH_take (i := 1) (oi := { dst := some 6, op := Op.nilCheck (Operand.tmp 5), type := 0, pos := "shelf.go:31", after := #[{ on := 0, ground := Ground.data }], guard := none }) (v := ?_) rfl (by kernel_rfl) (by kernel_rfl) (by kernel_rfl) (fun _ _ _ h => h) (Or.inl ⟨by rfl, ?_⟩) (by assumption) ?_
  rotate_left
  · (intro w hSw; (try dsimp only at hSw); go_simp) <;> with_reducible rfl
  try simp only [Act.put, List.setIfInBounds_toArray, List.set_cons_zero, List.set_cons_succ]
  refine wpAnyH_take (i := 2) (oi := { dst := some 7, op := Op.fieldAddr 122 (Operand.tmp 6) 1, type := 0, pos := "shelf.go:31", after := #[{ on := 1, ground := Ground.data }], guard := none }) (v := ?_) rfl (by kernel_rfl) (by kernel_rfl) (by kernel_rfl) (fun _ _ _ h => h) (Or.inl ⟨by rfl, ?_⟩) (by assumption) ?_
  rotate_left
  · (intro w hSw; (try dsimp only at hSw); go_simp) <;> with_reducible rfl
  try simp only [Act.put, List.setIfInBounds_toArray, List.set_cons_zero, List.set_cons_succ]
  refine wpAnyH_take (i := 3) (oi := { dst := some 8, op := Op.load 58 (Operand.tmp 7), type := 58, pos := "shelf.go:31", after := #[{ on := 2, ground := Ground.data }], guard := none }) (v := ?_) rfl (by kernel_rfl) (by kernel_rfl) (by kernel_rfl) (fun _ _ _ h => h) (Or.inl ⟨by rfl, ?_⟩) (by assumption) ?_
  rotate_left
  · (intro w hSw; (try dsimp only at hSw); go_simp) <;> with_reducible rfl
  try simp only [Act.put, List.setIfInBounds_toArray, List.set_cons_zero, List.set_cons_succ]
  refine wpAnyH_take (i := 4) (oi := { dst := some 9, op := Op.call { callee := Callee.builtin Builtin.len, args := #[Operand.tmp 8], argTypes := #[58] }, type := 3, pos := "shelf.go:31", after := #[{ on := 3, ground := Ground.data }], guard := none }) (v := ?_) rfl (by kernel_rfl) (by kernel_rfl) (by kernel_rfl) (fun _ _ _ h => h) (Or.inl ⟨by rfl, ?_⟩) (by assumption) ?_
  rotate_left
  · (intro w hSw; (try dsimp only at hSw); go_simp) <;> with_reducible rfl
  try simp only [Act.put, List.setIfInBounds_toArray, List.set_cons_zero, List.set_cons_succ]
  refine wpAnyH_take (i := 5) (oi := { dst := some 10, op := Op.move (Operand.tmp 0), type := 90, pos := "shelf.go:31", after := #[], guard := none }) (v := ?_) rfl (by kernel_rfl) (by kernel_rfl) (by kernel_rfl) (fun _ _ _ h => h) (Or.inl ⟨by rfl, ?_⟩) (by assumption) ?_
  rotate_left
  · (intro w hSw; (try dsimp only at hSw); go_simp) <;> with_reducible rfl
  try simp only [Act.put, List.setIfInBounds_toArray, List.set_cons_zero, List.set_cons_succ]
  refine wpAnyH_take (i := 6) (oi := { dst := some 11, op := Op.nilCheck (Operand.tmp 10), type := 0, pos := "shelf.go:31", after := #[{ on := 5, ground := Ground.data }], guard := none }) (v := ?_) rfl (by kernel_rfl) (by kernel_rfl) (by kernel_rfl) (fun _ _ _ h => h) (Or.inl ⟨by rfl, ?_⟩) (by assumption) ?_
  rotate_left
  · (intro w hSw; (try dsimp only at hSw); go_simp) <;> with_reducible rfl
  try simp only [Act.put, List.setIfInBounds_toArray, List.set_cons_zero, List.set_cons_succ]
  refine wpAnyH_take (i := 7) (oi := { dst := some 12, op := Op.fieldAddr 122 (Operand.tmp 11) 2, type := 0, pos := "shelf.go:31", after := #[{ on := 6, ground := Ground.data }], guard := none }) (v := ?_) rfl (by kernel_rfl) (by kernel_rfl) (by kernel_rfl) (fun _ _ _ h => h) (Or.inl ⟨by rfl, ?_⟩) (by assumption) ?_
  rotate_left
  · (intro w hSw; (try dsimp only at hSw); go_simp) <;> with_reducible rfl
  try simp only [Act.put, List.setIfInBounds_toArray, List.set_cons_zero, List.set_cons_succ]
  refine wpAnyH_take (i := 8) (oi := { dst := some 13, op := Op.load 3 (Operand.tmp 12), type := 3, pos := "shelf.go:31", after := #[{ on := 7, ground := Ground.data }], guard := none }) (v := ?_) rfl (by kernel_rfl) (by kernel_rfl) (by kernel_rfl) (fun _ _ _ h => h) (Or.inl ⟨by rfl, ?_⟩) (by assumption) ?_
  rotate_left
  · (intro w hSw; (try dsimp only at hSw); go_simp) <;> with_reducible rfl
  try simp only [Act.put, List.setIfInBounds_toArray, List.set_cons_zero, List.set_cons_succ]
  refine wpAnyH_take (i := 9) (oi := { dst := some 14, op := Op.binOp BinOp.sub 3 (Operand.tmp 9) (Operand.tmp 13) 3, type := 3, pos := "shelf.go:31", after := #[{ on := 4, ground := Ground.data }, { on := 8, ground := Ground.data }], guard := none }) (v := ?_) rfl (by kernel_rfl) (by kernel_rfl) (by kernel_rfl) (fun _ _ _ h => h) (Or.inl ⟨by rfl, ?_⟩) (by assumption) ?_
  rotate_left
  · (intro w hSw; (try dsimp only at hSw); go_simp) <;> with_reducible rfl
  try simp only [Act.put, List.setIfInBounds_toArray, List.set_cons_zero, List.set_cons_succ]
  refine wpAnyH_take (i := 10) (oi := { dst := some 4, op := Op.assign (Operand.tmp 14), type := 3, pos := "shelf.go:31", after := #[{ on := 9, ground := Ground.data }, { on := 0, ground := Ground.phase }, { on := 1, ground := Ground.phase }, { on := 2, ground := Ground.phase }, { on := 3, ground := Ground.phase }, { on := 4, ground := Ground.phase }, { on := 5, ground := Ground.phase }, { on := 6, ground := Ground.phase }, { on := 7, ground := Ground.phase }, { on := 8, ground := Ground.phase }, { on := 9, ground := Ground.phase }], guard := none }) (v := ?_) rfl (by kernel_rfl) (by kernel_rfl) (by kernel_rfl) (fun _ _ _ h => h) (Or.inl ⟨by rfl, ?_⟩) (by assumption) ?_
  rotate_left
  · (intro w hSw; (try dsimp only at hSw); go_simp) <;> with_reducible rfl
  try simp only [Act.put, List.setIfInBounds_toArray, List.set_cons_zero, List.set_cons_succ]
  refine wpAnyH_done (by kernel_rfl) ?_ _
  go_wp2_with fail
  rw [show (3 + min 0 1 : Int) = 3 from rfl]
  go_at_call 99
  refine (HC.out).mono ?_
  rintro e w1 ⟨rfl, h1⟩
  have HE : Hid (S1 w0 w1 d b f g cF rF cur 3 3 nw on) := h1
  clear h1
  go_wp2
  all_goals ((first | go_end0 | refine bodyPost_ret (results_none rfl _ _ _) rfl ?_); exact ⟨rfl, HE.out⟩)

set_option maxHeartbeats 1000000 in
theorem start_1 (h : S1 w0 V d b f g cF rF cur 4 3 nw false) : Calls Tryz.prog 33 #[.pointer (some ⟨d, 0, none⟩), .slice none 0 0] V fun e w' => e = .returned (.tuple #[]) ∧ S1 w0 w' d b f g cF rF cur 3 3 nw true := by
  obtain ⟨c0, c1, c2, c3, c4, c5⟩ := dk_cells h.hd
  have hdl := lt_of_block h.hd
  have f3 : V.frozen? ⟨d, 3, none⟩ = false := frozen_of_row V d 3 _ _ h.hd
  have HE : Hid (S1 w0 (V.setCell ⟨d, 3, none⟩ (.bool true)) d b f g cF rF cur 4 3 nw true) :=
    h.setD (heap_setD _ h.hd) (fun k hk => Below.heap_setCell _ _ _ _ hk) (h.bel.setCell (p := ⟨d, 3, none⟩) h.ed _)
  clear h
  go_enter Tryz.func33, Tryz.ntmps33
  go_wp2
  go_loopw [31] (fun vi w2 => (vi = .int .i64 0 ∧ Hid (S1 w0 w2 d b f g cF rF cur 4 3 nw true)) ∨ (vi = .int .i64 1 ∧ Hid (S1 w0 w2 d b f g cF rF cur 3 3 nw true))) (fun vi _ => (1 - intOf vi).toNat)
  case atStart => exact .inl ⟨rfl, HE.out⟩
  case round =>
    rcases hrel with ⟨rfl, HR⟩ | ⟨rfl, HR⟩
    · have e0 := HR.out.cb
      have HL : Hid (Calls Tryz.prog 72 #[.pointer (some ⟨f, 0, none⟩), .int .i64 0] wr fun e w' => e = .returned (.tuple #[]) ∧ S1 w0 w' d b f g cF rF cur 3 3 nw true) := lose_1 HR.out
      clear HR
      go_wp2_with fail
      go_at_call 72
      refine (HL.out).mono ?_
      rintro e w1 ⟨rfl, h1⟩
      have HQ : Hid (S1 w0 w1 d b f g cF rF cur 3 3 nw true) := h1
      clear h1
      go_wp2
      go_roundw
      case rel => exact .inr ⟨rfl, HQ.out⟩
      case measure => simp [intOf]
    · go_wp2
      all_goals ((first | go_end0 | refine bodyPost_ret (results_none rfl _ _ _) rfl ?_); exact ⟨rfl, HR.out⟩)

theorem make_3 (w : World) : (Instr.makeSlice 58 (.int .i64 3) (.int .i64 3)).run Tryz.prog w = .ok (.slice (some ⟨w.heap.size, 0, none⟩) 3 3) (w.alloc (.cells #[.int .u8 0, .int .u8 0, .int .u8 0] 5)) := by kernel_rfl

theorem copied_1 (h : S1 w0 V d b f g cF rF cur 3 dur nw on) : Calls Tryz.prog 35 #[.pointer (some ⟨f, 0, none⟩)] V fun e w' => e = .returned (.slice (some ⟨V.heap.size, 0, none⟩) 3 3) ∧ w'.heap[V.heap.size]? = some (.cells abcV.toArray 5 (0, 0)) ∧ Below V.heap.size V w' := by
  obtain ⟨c0, c1, c2⟩ := fl_cells h.hf
  have hfl := lt_of_block h.hf
  have hgl := lt_of_block h.hg
  have hmk := make_3
  have hA : Below V.heap.size V (V.alloc (.cells #[.int .u8 0, .int .u8 0, .int .u8 0] 5)) := below_a _ _
  have hrow : (V.alloc (.cells #[.int .u8 0, .int .u8 0, .int .u8 0] 5)).heap[V.heap.size]? = some (.cells #[.int .u8 0, .int .u8 0, .int .u8 0] 5 (0, 0)) := heap_alloc_new _ _
  have hcp := run_copy_row (P := Tryz.prog) (V.alloc (.cells #[.int .u8 0, .int .u8 0, .int .u8 0] 5)) 58 58 3 5 V.heap.size 0 3 3 ⟨g, 0, none⟩ 3 cur.size #[.int .u8 0, .int .u8 0, .int .u8 0] 5 abcV Tryz.underlying58 (by kernel_rfl) hrow rfl (fun j v hj => by
    rw [Addr.add_lit, Nat.zero_add, cell_of_row _ g j _ _ _ ((hA.block _ hgl).trans h.hg), ← Array.getElem?_toList]
    rw [← h.ht, List.getElem?_take] at hj
    split at hj
    · exact hj
    · simp at hj) (by simp) (by simp [Value.oneCell'])
  have HR : Hid (((V.alloc (.cells #[.int .u8 0, .int .u8 0, .int .u8 0] 5)).setRow V.heap.size abcV.toArray).heap[V.heap.size]? = some (.cells abcV.toArray 5 (0, 0)) ∧ Below V.heap.size V ((V.alloc (.cells #[.int .u8 0, .int .u8 0, .int .u8 0] 5)).setRow V.heap.size abcV.toArray)) := ⟨setRow_heap _ _ _ _ _ _ hrow, below_setRow hA (Nat.le_refl _) _⟩
  clear h hA hrow
  go_enter Tryz.func35, Tryz.ntmps35
  go_wp2
  all_goals (go_ret; exact ⟨rfl, HR.out⟩)

theorem read_1 (h : S1 w0 V d b f g cF rF cur 3 dur nw true) : Calls Tryz.prog 9 #[.pointer (some ⟨d, 0, none⟩), .string aB] V fun e w' => ∃ c, e = .returned (.tuple #[.slice (some ⟨c, 0, none⟩) 3 3, .int .i64 0]) ∧ w'.heap[c]? = some (.cells abcV.toArray 5 (0, 0)) ∧ Below w0.heap.size w0 w' := by
  have HO : Hid (Calls Tryz.prog 34 #[.pointer (some ⟨d, 0, none⟩), .string aB] V fun e w' => e = .returned (.tuple #[.pointer (some ⟨f, 0, none⟩), .int .i64 0]) ∧ w' = V.alloc (.cells #[.string aB] 9)) := open_1 h
  have h1 := h.below (below_a V (.cells #[.string aB] 9))
  have HC : Hid (Calls Tryz.prog 35 #[.pointer (some ⟨f, 0, none⟩)] (V.alloc (.cells #[.string aB] 9)) fun e w' => ∃ c, e = .returned (.slice (some ⟨c, 0, none⟩) 3 3) ∧ Hid (w'.heap[c]? = some (.cells abcV.toArray 5 (0, 0)) ∧ Below w0.heap.size w0 w')) :=
    (copied_1 h1).mono (fun e w' hh => ⟨_, hh.1, hh.2.1, h1.bel.trans (hh.2.2.mono h1.bel.size)⟩)
  clear h h1
  go_enter Tryz.func9, Tryz.ntmps9
  go_wp2_with (first | (go_at_call 34; refine (HO.out).mono ?_; rintro e w1 ⟨rfl, rfl⟩) | (go_at_call 35; refine (HC.out).mono ?_; rintro e w2 ⟨c, rfl, HR⟩))
  all_goals (go_ret2; exact ⟨c, rfl, HR.out⟩)
end

end Go.Proofs.YtbdokdhconhifaaGreatDoor

/- Package disk at one small file named a: the second Append, New, and what lives of the statements of layer 2 answers. -/
namespace Go.Proofs.YtbdokdhconhifaaGreatDoor
open Go.RowKit Go.Shelf
set_option maxRecDepth 8000

section
variable {w0 V : World} {d b f g cF : Nat} {rF cur : Array Value}

set_option maxHeartbeats 1000000 in
theorem append_1 {m cm : Nat} (h : S1 w0 V d b f g cF rF cur 3 3 2 true) (hm : V.cell? ⟨m, 0, none⟩ = some (.int .u8 100)) (hmd : m ≠ d) (hmf : m ≠ f) :
    Calls Tryz.prog 30 #[.pointer (some ⟨d, 0, none⟩), .string aB, .slice (some ⟨m, 0, none⟩) 1 cm] V fun e w' => e = .returned (.int .i64 0) ∧ ∃ g' cur', S1 w0 w' d b f g' cF rF cur' 4 3 3 true := by
  have hml : m < V.heap.size := World.block_lt_of_cell? V ⟨m, 0, none⟩ hm
  obtain ⟨W1, hW1⟩ : ∃ W, W = V.alloc (.cells #[.string aB] 9) := ⟨_, rfl⟩
  have B1 : Below V.heap.size V W1 := by rw [hW1]; exact below_a _ _
  have h1 := h.below B1
  have hn1 : W1.cell? ⟨V.heap.size, 0, none⟩ = some (.string aB) := by rw [hW1]; exact cell_of_row _ V.heap.size 0 _ _ _ (heap_alloc_new _ _)
  have hm1 : W1.cell? ⟨m, 0, none⟩ = some (.int .u8 100) := by
    unfold World.cell? at hm ⊢
    rw [B1.block _ hml]
    exact hm
  have hD : S1 w0 W1.drew d b f g cF rF cur 3 3 2 true := h1.below ⟨rfl, rfl, rfl, Nat.le_refl _, fun _ _ => rfl⟩
  have HRe : Hid (∀ V', V' = W1 → Calls Tryz.prog 70 #[.pointer (some ⟨d, 0, none⟩), .slice (some ⟨V.heap.size, 0, none⟩) 1 1] V' fun e w' => e = .returned (.int .i64 0) ∧ w' = W1) := fun V' hV => by subst hV; exact ready_a h1.hd hn1
  have HFi : Hid (Calls Tryz.prog 65 #[.pointer (some ⟨d, 0, none⟩), .string aB] W1 fun e w' => e = .returned (.pointer (some ⟨f, 0, none⟩)) ∧ w' = W1) := find1 (dk_cells h1.hd).1 h1.cb h1.hf
  have HFt : Hid (Calls Tryz.prog 67 #[.pointer (some ⟨d, 0, none⟩), .int .i64 1] W1 fun e w' => e = .returned (.bool true) ∧ w' = W1.drew) := fits_yes 1 3 7 h1.hd (used1 (l := 3) (dk_cells hD.hd).1 hD.cb hD.hf (by decide)) (by decide) (by decide)
  have HWr : Hid (Calls Tryz.prog 71 #[.pointer (some ⟨d, 0, none⟩)] W1.drew fun e w' => e = .returned (.int .i64 0) ∧ S1 w0 w' d b f g cF rF cur 3 3 3 true ∧ w'.cell? ⟨m, 0, none⟩ = some (.int .u8 100)) :=
    (write_ok hD.hd (by omega) (by omega)).mono (fun e w' hh => ⟨hh.1, hD.setD hh.2.1 hh.2.2.2.1 (hh.2.2.2.2 _ _ hD.ed hD.bel), by
      have := hm1
      unfold World.cell? at this ⊢
      rw [hh.2.2.2.1 m hmd]
      exact this⟩)
  have HW1 : Hid (W1 = V.alloc (.cells #[.string aB] 9)) := hW1
  clear h hm hW1 B1 h1 hn1 hm1 hD
  go_enter Tryz.func30, Tryz.ntmps30
  go_wp2_with fail
  go_at_call 70
  refine (HRe.out _ HW1.out.symm).mono ?_
  rintro e w1 ⟨rfl, hw⟩
  subst hw
  go_wp2_with fail
  go_at_call 65
  refine (HFi.out).mono ?_
  rintro e w2 ⟨rfl, hw⟩
  subst hw
  go_wp2_with fail
  go_at_call 67
  refine (HFt.out).mono ?_
  rintro e w4 ⟨rfl, hw⟩
  subst hw
  go_wp2_with fail
  go_at_call 71
  refine (HWr.out).mono ?_
  rintro e w5 ⟨rfl, q1, q2⟩
  have HAp : Hid (Calls Tryz.prog 69 #[.pointer (some ⟨f, 0, none⟩), .slice (some ⟨m, 0, none⟩) 1 cm] w5 fun e w' => e = .returned (.tuple #[]) ∧ Hid (∃ g' cur', S1 w0 w' d b f g' cF rF cur' 4 3 3 true)) :=
    (append_more q1.hf q1.hg q1.h3 q1.h63 q1.ht q2 hmf q1.ngf).mono (fun e w' hh => by
      obtain ⟨e1, g', cur', t0, t1, t2, t3, t4, t5, t6, t7, t8⟩ := hh
      have hdl := lt_of_block q1.hd
      have hbl := lt_of_block q1.hb
      have hge : w0.heap.size ≤ g' := by
        rcases t0 with rfl | t0
        · exact q1.eg
        · have := q1.bel.size; omega
      exact ⟨e1, g', cur', (t7 _ hdl (Ne.symm q1.nfd) (Ne.symm q1.ngd)).trans q1.hd, (t7 _ hbl q1.nbf q1.nbg).trans q1.hb, q1.hb0, t1, t2, t3, by omega, t4, t5, t8 _ _ q1.ef q1.eg q1.bel, q1.ed, q1.eb, q1.ef, hge⟩)
  clear q1 q2
  go_wp2_with fail
  go_at_call 69
  refine (HAp.out).mono ?_
  rintro e w7 ⟨rfl, HE⟩
  go_wp2
  all_goals (go_ret; exact ⟨rfl, HE.out⟩)
end

theorem from_10 (w : World) : Calls Tryz.prog 5 #[.int .i64 10, .slice none 0 0] w fun e w' => e = .returned (.tuple #[.pointer (some ⟨w.heap.size, 0, none⟩), .int .i64 0]) ∧ w' = w.alloc (.cells (dkC (.slice none 0 0) true 0) 76) := by
  go_enter Tryz.func5, Tryz.ntmps5
  go_wp2
  go_loopw [21] (fun vi w2 => vi = .int .i64 0 ∧ w2 = w.alloc (.cells (dkC (.slice none 0 0) true 0) 76)) (fun _ _ => 0)
  case atStart => exact ⟨rfl, rfl⟩
  case round =>
    obtain ⟨rfl, rfl⟩ := hrel
    go_wp2
    all_goals (go_ret2; exact ⟨rfl, rfl⟩)

theorem new_10 (w : World) : Calls Tryz.prog 29 #[.int .i64 10] w fun e w' => e = .returned (.tuple #[.pointer (some ⟨w.heap.size, 0, none⟩), .int .i64 0]) ∧ w' = w.alloc (.cells (dkC (.slice none 0 0) true 0) 76) := by
  have HF : Hid (Calls Tryz.prog 5 #[.int .i64 10, .slice none 0 0] w fun e w' => e = .returned (.tuple #[.pointer (some ⟨w.heap.size, 0, none⟩), .int .i64 0]) ∧ w' = w.alloc (.cells (dkC (.slice none 0 0) true 0) 76)) := from_10 w
  go_enter Tryz.func29, Tryz.ntmps29
  go_wp2_with (go_at_call 5; refine (HF.out).mono ?_; rintro e w1 ⟨rfl, rfl⟩)
  all_goals (go_ret2; exact ⟨rfl, rfl⟩)

theorem text_abc {c : Nat} {w : World} (h : w.heap[c]? = some (.cells abcV.toArray 5 (0, 0))) : (convert 58 9 (.slice (some ⟨c, 0, none⟩) 3 3)).run Tryz.prog w = .ok (.string ⟨#[97, 98, 99]⟩) w := by
  have := run_convert_bytes_arg (P := Tryz.prog) w 58 5 Tryz.underlying58 Tryz.underlying5 c 0 3 3 [97, 98, 99] rfl (fun i hi => by
    rw [Nat.zero_add, cell_of_row w c i _ _ _ h]
    have hi3 : i = 0 ∨ i = 1 ∨ i = 2 := by omega
    rcases hi3 with rfl | rfl | rfl <;> rfl) 9 Tryz.underlying9
  rw [this]
  rfl

set_option maxHeartbeats 2000000 in
theorem lives_yes (w : World) : Calls Tryz.prog 7 #[] w fun e w' => e = .returned (.bool true) ∧ Below w.heap.size w w' := by
  have HN : Hid (Calls Tryz.prog 29 #[.int .i64 10] w fun e w' => e = .returned (.tuple #[.pointer (some ⟨w.heap.size, 0, none⟩), .int .i64 0]) ∧ w' = w.alloc (.cells (dkC (.slice none 0 0) true 0) 76)) := new_10 w
  have HD1 : Hid ((w.alloc (.cells (dkC (.slice none 0 0) true 0) 76)).heap[w.heap.size]? = some (.cells (dkC (.slice none 0 0) true 0) 76 (0, 0)) ∧ Below w.heap.size w (w.alloc (.cells (dkC (.slice none 0 0) true 0) 76)) ∧ (w.alloc (.cells (dkC (.slice none 0 0) true 0) 76)).heap.size = w.heap.size + 1) := ⟨heap_alloc_new _ _, below_a _ _, by simp⟩
  obtain ⟨W1, hW1⟩ : ∃ W, W = w.alloc (.cells (dkC (.slice none 0 0) true 0) 76) := ⟨_, rfl⟩
  rw [← hW1] at HN HD1
  clear hW1
  go_enter Tryz.func7, Tryz.ntmps7
  go_wp2_with fail
  go_at_call 29
  refine (HN.out).mono ?_
  rintro e w1 ⟨rfl, hw⟩
  subst hw
  have HA : Hid (Calls Tryz.prog 30 #[.pointer (some ⟨w.heap.size, 0, none⟩), .string aB, .slice (some ⟨w1.heap.size, 0, none⟩) 3 3] (w1.alloc (.cells abcV.toArray 5 (3, 4))) fun e w' => e = .returned (.int .i64 0) ∧ ∃ b f g cF rF cur, S1 w w' w.heap.size b f g cF rF cur 3 0 1 true) := by
    have hB := below_a w1 (.cells abcV.toArray 5 (3, 4))
    have hr : (w1.alloc (.cells abcV.toArray 5 (3, 4))).heap[w1.heap.size]? = some (.cells abcV.toArray 5 (3, 4)) := heap_alloc_new _ _
    exact append_0 ((hB.block _ (by have := HD1.out.2.2; omega)).trans HD1.out.1) (fun j v hj => by rw [cell_of_row _ w1.heap.size j _ _ _ hr]; simpa using hj) (by have := HD1.out.2.2; omega) (HD1.out.2.1.trans (hB.mono HD1.out.2.1.size)) (Nat.le_refl _)
  have hcv : (convert 58 58 (.slice (some ⟨w1.heap.size, 0, none⟩) 3 3)).run Tryz.prog (w1.alloc (.cells #[.int .u8 97, .int .u8 98, .int .u8 99] 5)) = .ok (.slice (some ⟨w1.heap.size, 0, none⟩) 3 3) (w1.alloc (.cells #[.int .u8 97, .int .u8 98, .int .u8 99] 5 (3, 4))) := Lib.run_convert_bytes_const w1 58 5 _ 3 3 Tryz.underlying58 Tryz.underlying5
  go_wp2_with fail
  go_at_call 30
  refine (HA.out).mono ?_
  rintro e w2 ⟨rfl, b, f, g, cF, rF, cur, h2⟩
  have HS : Hid (Calls Tryz.prog 31 #[.pointer (some ⟨w.heap.size, 0, none⟩), .string aB] w2 fun e w' => e = .returned (.int .i64 0) ∧ S1 w w' w.heap.size b f g cF rF cur 3 3 2 true) := sync_1 h2 (by omega) (by omega)
  clear h2 HA HN HD1
  go_wp2_with fail
  go_at_call 31
  refine (HS.out).mono ?_
  rintro e w3 ⟨rfl, h3⟩
  have HA2 : Hid (Calls Tryz.prog 30 #[.pointer (some ⟨w.heap.size, 0, none⟩), .string aB, .slice (some ⟨w3.heap.size, 0, none⟩) 1 1] (w3.alloc (.cells #[.int .u8 100] 5 (1, 2))) fun e w' => e = .returned (.int .i64 0) ∧ ∃ g' cur', S1 w w' w.heap.size b f g' cF rF cur' 4 3 3 true) := by
    have hd := lt_of_block h3.hd
    have hf := lt_of_block h3.hf
    exact append_1 (h3.below (below_a w3 (.cells #[.int .u8 100] 5 (1, 2)))) (cell_of_row _ w3.heap.size 0 _ _ _ (heap_alloc_new _ _)) (by omega) (by omega)
  have hcv3 : (convert 58 58 (.slice (some ⟨w3.heap.size, 0, none⟩) 1 1)).run Tryz.prog (w3.alloc (.cells #[.int .u8 100] 5)) = .ok (.slice (some ⟨w3.heap.size, 0, none⟩) 1 1) (w3.alloc (.cells #[.int .u8 100] 5 (1, 2))) := Lib.run_convert_bytes_const w3 58 5 _ 1 1 Tryz.underlying58 Tryz.underlying5
  clear h3 HS
  go_wp2_with fail
  go_at_call 30
  refine (HA2.out).mono ?_
  rintro e w4 ⟨rfl, g', cur', h4⟩
  have HO : Hid (Calls Tryz.prog 32 #[.pointer (some ⟨w.heap.size, 0, none⟩)] w4 fun e w' => e = .returned (.tuple #[]) ∧ S1 w w' w.heap.size b f g' cF rF cur' 4 3 3 false) := off_1 h4
  clear h4 HA2
  go_wp2_with fail
  go_at_call 32
  refine (HO.out).mono ?_
  rintro e w5 ⟨rfl, h5⟩
  have HT : Hid (Calls Tryz.prog 33 #[.pointer (some ⟨w.heap.size, 0, none⟩), .slice none 0 0] w5 fun e w' => e = .returned (.tuple #[]) ∧ S1 w w' w.heap.size b f g' cF rF cur' 3 3 3 true) := start_1 h5
  clear h5 HO
  go_wp2_with fail
  go_at_call 33
  refine (HT.out).mono ?_
  rintro e w6 ⟨rfl, h6⟩
  have HR : Hid (Calls Tryz.prog 9 #[.pointer (some ⟨w.heap.size, 0, none⟩), .string aB] w6 fun e w' => ∃ c, e = .returned (.tuple #[.slice (some ⟨c, 0, none⟩) 3 3, .int .i64 0]) ∧ w'.heap[c]? = some (.cells abcV.toArray 5 (0, 0)) ∧ Below w.heap.size w w') := read_1 h6
  clear h6 HT
  go_wp2_with fail
  go_at_call 9
  refine (HR.out).mono ?_
  rintro e w7 ⟨c, rfl, h7, hB⟩
  have htx := text_abc h7
  have HB : Hid (Below w.heap.size w w7) := hB
  clear h7 hB HR
  go_wp2
  all_goals (go_ret; exact ⟨rfl, HB.out⟩)

end Go.Proofs.YtbdokdhconhifaaGreatDoor
