/- Package disk at one small file named a: the steps of a write. -/
import Derived.Test.YtbdokdhconhifaaGreatDoorDnCJ
import Derived.Deep.RegionHeld
import Derived.Lib.SlFresh
import Derived.Lib.AppendZerosOnto
import Derived.Laws.CopyRow
namespace Go.Proofs.YtbdokdhconhifaaGreatDoor
open Go.RowKit Go.Shelf
set_option maxRecDepth 8000

set_option maxHeartbeats 1000000 in
theorem fits_yes {d : Nat} {fs : Value} {on : Bool} {wr : Int} {w : World} (m u x : Int) (h : w.heap[d]? = some (.cells (dkC fs on wr) 76 (0, 0))) (hU : Calls Tryz.prog 95 #[.pointer (some ⟨d, 0, none⟩)] w.drew fun e w' => e = .returned (.int .i64 u) ∧ w' = w.drew)
    (hx : IntKind.i64.wrap (10 - u) = x) (hle : decide (m ≤ x) = true) :
    Calls Tryz.prog 67 #[.pointer (some ⟨d, 0, none⟩), .int .i64 m] w fun e w' => e = .returned (.bool true) ∧ w' = w.drew := by
  have HU : Hid (Calls Tryz.prog 95 #[.pointer (some ⟨d, 0, none⟩)] w.drew fun e w' => e = .returned (.int .i64 u) ∧ w' = w.drew) := hU
  have HX : Hid (IntKind.i64.wrap (10 - u) = x) := hx
  have HL : Hid (decide (m ≤ x) = true) := hle
  have c2 : w.drew.cell? ⟨d, 2, none⟩ = some (.int .i64 10) := (dk_cells h).2.2.1
  have hl := lt_of_block h
  clear hU hx hle h
  go_enter Tryz.func67, Tryz.ntmps67
  go_wp2_with fail
  refine wp_region_held_drew (S := fun w' => w'.cell? ⟨d, 2, none⟩ = some (.int .i64 10)) (by kernel_rfl) ?_ (fun hHeld => ?_)
  · exact c2
  refine wpAnyH_take (i := 0) (oi := { dst := some 5, op := Op.move (Operand.tmp 1), type := 3, pos := "disk.go:200", after := #[], guard := none }) (v := ?_) rfl (by kernel_rfl) (by kernel_rfl) (by kernel_rfl) (fun _ _ _ h => h) (Or.inl ⟨by rfl, ?_⟩) (by assumption) ?_
  rotate_left
  · (intro w hSw; (try dsimp only at hSw); go_simp) <;> with_reducible rfl
  try simp only [Act.put, List.setIfInBounds_toArray, List.set_cons_zero, List.set_cons_succ]
  refine wpAnyH_take (i := 1) (oi := { dst := some 6, op := Op.move (Operand.tmp 0), type := 24, pos := "disk.go:200", after := #[], guard := none }) (v := ?_) rfl (by kernel_rfl) (by kernel_rfl) (by kernel_rfl) (fun _ _ _ h => h) (Or.inl ⟨by rfl, ?_⟩) (by assumption) ?_
  rotate_left
  · (intro w hSw; (try dsimp only at hSw); go_simp) <;> with_reducible rfl
  try simp only [Act.put, List.setIfInBounds_toArray, List.set_cons_zero, List.set_cons_succ]
  refine wpAnyH_take (i := 2) (oi := { dst := some 7, op := Op.nilCheck (Operand.tmp 6), type := 0, pos := "disk.go:200", after := #[{ on := 1, ground := Ground.data }], guard := none }) (v := ?_) rfl (by kernel_rfl) (by kernel_rfl) (by kernel_rfl) (fun _ _ _ h => h) (Or.inl ⟨by rfl, ?_⟩) (by assumption) ?_
  rotate_left
  · (intro w hSw; (try dsimp only at hSw); go_simp) <;> with_reducible rfl
  try simp only [Act.put, List.setIfInBounds_toArray, List.set_cons_zero, List.set_cons_succ]
  refine wpAnyH_take (i := 3) (oi := { dst := some 8, op := Op.fieldAddr 76 (Operand.tmp 7) 2, type := 0, pos := "disk.go:200", after := #[{ on := 2, ground := Ground.data }], guard := none }) (v := ?_) rfl (by kernel_rfl) (by kernel_rfl) (by kernel_rfl) (fun _ _ _ h => h) (Or.inl ⟨by rfl, ?_⟩) (by assumption) ?_
  rotate_left
  · (intro w hSw; (try dsimp only at hSw); go_simp) <;> with_reducible rfl
  try simp only [Act.put, List.setIfInBounds_toArray, List.set_cons_zero, List.set_cons_succ]
  refine wpAnyH_take (i := 4) (oi := { dst := some 9, op := Op.load 3 (Operand.tmp 8), type := 3, pos := "disk.go:200", after := #[{ on := 3, ground := Ground.data }], guard := none }) (v := ?_) rfl (by kernel_rfl) (by kernel_rfl) (by kernel_rfl) (fun _ _ _ h => h) (Or.inl ⟨by rfl, ?_⟩) (by assumption) ?_
  rotate_left
  · (intro w hSw; (try dsimp only at hSw); go_simp) <;> with_reducible rfl
  try simp only [Act.put, List.setIfInBounds_toArray, List.set_cons_zero, List.set_cons_succ]
  refine wpAnyH_take (i := 5) (oi := { dst := some 10, op := Op.move (Operand.tmp 0), type := 24, pos := "disk.go:200", after := #[], guard := none }) (v := ?_) rfl (by kernel_rfl) (by kernel_rfl) (by kernel_rfl) (fun _ _ _ h => h) (Or.inl ⟨by rfl, ?_⟩) (by assumption) ?_
  rotate_left
  · (intro w hSw; (try dsimp only at hSw); go_simp) <;> with_reducible rfl
  try simp only [Act.put, List.setIfInBounds_toArray, List.set_cons_zero, List.set_cons_succ]
  refine wpAnyH_take (i := 6) (oi := { dst := some 11, op := Op.nilCheck (Operand.tmp 10), type := 0, pos := "disk.go:200", after := #[{ on := 5, ground := Ground.data }], guard := none }) (v := ?_) rfl (by kernel_rfl) (by kernel_rfl) (by kernel_rfl) (fun _ _ _ h => h) (Or.inl ⟨by rfl, ?_⟩) (by assumption) ?_
  rotate_left
  · (intro w hSw; (try dsimp only at hSw); go_simp) <;> with_reducible rfl
  try simp only [Act.put, List.setIfInBounds_toArray, List.set_cons_zero, List.set_cons_succ]
  refine wpAnyH_take (i := 7) (oi := { dst := some 12, op := Op.fieldAddr 76 (Operand.tmp 11) 0, type := 0, pos := "disk.go:200", after := #[{ on := 6, ground := Ground.data }], guard := none }) (v := ?_) rfl (by kernel_rfl) (by kernel_rfl) (by kernel_rfl) (fun _ _ _ h => h) (Or.inl ⟨by rfl, ?_⟩) (by assumption) ?_
  rotate_left
  · (intro w hSw; (try dsimp only at hSw); go_simp) <;> with_reducible rfl
  try simp only [Act.put, List.setIfInBounds_toArray, List.set_cons_zero, List.set_cons_succ]
  refine wpAnyH_ready (rs := [8]) (by kernel_rfl) (by simp) ?_
  refine AllReadyH.cons (o := { dst := some 13, op := Op.call { callee := Callee.value (Operand.func 95), args := #[Operand.tmp 12], argTypes := #[74] }, type := 3, pos := "disk.go:200", after := #[{ on := 7, ground := Ground.data }], guard := none }) rfl (fun K hK => ?_) AllReadyH.nil
  go_simp
  refine (HU.out).mono ?_
  rintro e w1 ⟨rfl, rfl⟩
  refine hK.out _ _ hHeld (fun _ => ?_)
  clear hK K
  refine wpAnyH_take (i := 9) (oi := { dst := some 14, op := Op.binOp BinOp.sub 3 (Operand.tmp 9) (Operand.tmp 13) 3, type := 3, pos := "disk.go:200", after := #[{ on := 4, ground := Ground.data }, { on := 8, ground := Ground.data }], guard := none }) (v := ?_) rfl (by kernel_rfl) (by kernel_rfl) (by kernel_rfl) (fun _ _ _ h => h) (Or.inl ⟨by rfl, ?_⟩) (by assumption) ?_
  rotate_left
  · (intro w hSw; (try dsimp only at hSw); go_simp; (rw [HX.out]) <;> with_reducible rfl)
  try simp only [Act.put, List.setIfInBounds_toArray, List.set_cons_zero, List.set_cons_succ]
  refine wpAnyH_take (i := 10) (oi := { dst := some 15, op := Op.binOp BinOp.leq 3 (Operand.tmp 5) (Operand.tmp 14) 3, type := 4, pos := "disk.go:200", after := #[{ on := 0, ground := Ground.data }, { on := 9, ground := Ground.data }], guard := none }) (v := ?_) rfl (by kernel_rfl) (by kernel_rfl) (by kernel_rfl) (fun _ _ _ h => h) (Or.inl ⟨by rfl, ?_⟩) (by assumption) ?_
  rotate_left
  · (intro w hSw; (try dsimp only at hSw); go_simp; (rw [HL.out]) <;> with_reducible rfl)
  try simp only [Act.put, List.setIfInBounds_toArray, List.set_cons_zero, List.set_cons_succ]
  refine wpAnyH_take (i := 11) (oi := { dst := some 4, op := Op.assign (Operand.tmp 15), type := 4, pos := "disk.go:200", after := #[{ on := 10, ground := Ground.data }, { on := 8, ground := Ground.chain }, { on := 0, ground := Ground.phase }, { on := 1, ground := Ground.phase }, { on := 2, ground := Ground.phase }, { on := 3, ground := Ground.phase }, { on := 4, ground := Ground.phase }, { on := 5, ground := Ground.phase }, { on := 6, ground := Ground.phase }, { on := 7, ground := Ground.phase }, { on := 8, ground := Ground.phase }, { on := 9, ground := Ground.phase }, { on := 10, ground := Ground.phase }], guard := none }) (v := ?_) rfl (by kernel_rfl) (by kernel_rfl) (by kernel_rfl) (fun _ _ _ h => h) (Or.inl ⟨by rfl, ?_⟩) (by assumption) ?_
  rotate_left
  · (intro w hSw; (try dsimp only at hSw); go_simp) <;> with_reducible rfl
  try simp only [Act.put, List.setIfInBounds_toArray, List.set_cons_zero, List.set_cons_succ]
  refine wpAnyH_done (by kernel_rfl) ?_ _
  all_goals go_wp2
  all_goals (go_ret; exact ⟨rfl, rfl⟩)

theorem heap_setD {w : World} {b i : Nat} {cs : Array Value} {t : TypeId} {fr : Nat × Nat} (c : Value) (h : w.heap[b]? = some (.cells cs t fr)) : (w.setCell ⟨b, i, none⟩ c).heap[b]? = some (.cells (cs.setIfInBounds i c) t fr) := by
  rw [setCell_eq_setRow w b i cs t fr c h]
  exact setRow_heap w b cs _ t fr h

theorem write_ok {d : Nat} {fs : Value} {wr : Int} {w : World} (h : w.heap[d]? = some (.cells (dkC fs true wr) 76 (0, 0))) (h0 : 0 ≤ wr) (h1 : wr ≤ 100) :
    Calls Tryz.prog 71 #[.pointer (some ⟨d, 0, none⟩)] w fun e w' => e = .returned (.int .i64 0) ∧ w'.heap[d]? = some (.cells (dkC fs true (wr + 1)) 76 (0, 0)) ∧ w'.heap.size = w.heap.size ∧ (∀ k, k ≠ d → w'.heap[k]? = w.heap[k]?) ∧ (∀ (B : Nat) (v : World), B ≤ d → Below B v w → Below B v w') := by
  obtain ⟨c0, c1, c2, c3, c4, c5⟩ := dk_cells h
  have hl := lt_of_block h
  have f4 : w.frozen? ⟨d, 4, none⟩ = false := frozen_of_row w d 4 _ _ h
  have f5 : w.frozen? ⟨d, 5, none⟩ = false := frozen_of_row w d 5 _ _ h
  have HH : Hid (w.heap[d]? = some (.cells (dkC fs true wr) 76 (0, 0))) := h
  clear h
  have HZ : Hid (∃ W : World, W = (w.setCell ⟨d, 4, none⟩ (.int .i64 (-1))).setCell ⟨d, 5, none⟩ (.int .i64 (wr + 1)) ∧ W.heap[d]? = some (.cells (dkC fs true (wr + 1)) 76 (0, 0)) ∧ W.heap.size = w.heap.size ∧ (∀ k, k ≠ d → W.heap[k]? = w.heap[k]?) ∧ (∀ (B : Nat) (v : World), B ≤ d → Below B v w → Below B v W)) := by
    refine ⟨_, rfl, heap_setD _ (heap_setD _ HH.out), by simp, fun k hk => ?_, fun B v hB h => ?_⟩
    · rw [Below.heap_setCell _ _ _ _ hk, Below.heap_setCell _ _ _ _ hk]
    · exact (h.setCell (p := ⟨d, 4, none⟩) hB _).setCell (p := ⟨d, 5, none⟩) hB _
  go_enter Tryz.func71, Tryz.ntmps71
  go_wp2
  all_goals (go_ret; obtain ⟨W, rfl, hW⟩ := HZ.out; exact ⟨rfl, hW⟩)

theorem Tryz.infoFp : (Tryz.prog.info? 90).map (fun i => (i.zero, i.size, i.bytes)) = some (some (.pointer none), 1, 8) := by kernel_rfl

theorem insert0 {m f : Nat} {w : World} (hm : w.cell? ⟨m, 0, none⟩ = some (.pointer (some ⟨f, 0, none⟩))) :
    Calls Tryz.prog 104 #[.slice none 0 0, .int .i64 0, .slice (some ⟨m, 0, none⟩) 1 1] w fun e w' => ∃ b cap cur, e = .returned (.slice (some ⟨b, 0, none⟩) 1 cap) ∧ w.heap.size ≤ b ∧ w'.heap[b]? = some (.cells cur 90 (0, 0)) ∧ cur[0]? = some (.pointer (some ⟨f, 0, none⟩)) ∧ Below w.heap.size w w' := by
  obtain ⟨i, hi, hz, hs, hb⟩ : ∃ i, Tryz.prog.info? 90 = some i ∧ i.zero = some (.pointer none) ∧ i.size = 1 ∧ i.bytes = 8 := by
    have := Tryz.infoFp
    cases h : Tryz.prog.info? 90 with
    | none => rw [h] at this; simp at this
    | some i => rw [h] at this; simp at this; exact ⟨i, rfl, this.1, this.2.1, this.2.2⟩
  have hrun := fun ty => run_append_own (P := Tryz.prog) w w.heap.size 72 ty 90 i (.pointer none) 1 8 Tryz.underlying72 hi hz hs hb rfl (by decide) (.slice none 0 0) 0 [] (World.ownsRow_nil w _ _ _) ⟨m, 0, none⟩ 1 1 [.pointer (some ⟨f, 0, none⟩)] rfl (fun j u hj => by
    cases j with
    | zero => simp at hj; subst hj; rw [Addr.add_lit]; exact hm
    | succ j => simp at hj) (by simp [Value.oneCell']) (by unfold maxLen; omega) (by omega) (Nat.le_refl _)
  obtain ⟨v', w', hr, ho, hg, hnn⟩ := hrun 72
  have HO : Hid (∃ b cap cur, v' = .slice (some ⟨b, 0, none⟩) 1 cap ∧ w.heap.size ≤ b ∧ w'.heap[b]? = some (.cells cur 90 (0, 0)) ∧ cur[0]? = some (.pointer (some ⟨f, 0, none⟩))) := by
    obtain ⟨_, h | ⟨g, cap, cur, h1, h2, h3, h4, _, h5, h6⟩⟩ := ho
    · omega
    · refine ⟨g, cap, cur, h1, h2, h3, ?_⟩
      have := congrArg (fun l => l[0]?) h6
      simpa using this
  have HG : Hid (Below w.heap.size w w') := ⟨hg.os, hg.tape, hg.output, hg.size, fun k hk => hg.block k hk (by simp [Value.ownBlock])⟩
  clear ho hg hnn hrun hi hz hs hb
  go_enter Tryz.func104, Tryz.ntmps104
  go_wp2_with (at_builtin; refine Lib.wpList_append_run_sl _ rfl _ _ 72 rfl _ _ rfl rfl hr ?_)
  all_goals (go_ret; obtain ⟨b, cap, cur, h1, h2, h3, h4⟩ := HO.out; exact ⟨b, cap, cur, by rw [h1]; rfl, h2, h3, h4, HG.out⟩)

/-- put of the first file. -/
theorem put0 {d f : Nat} {on : Bool} {wr : Int} {u v : Value} {w : World} (h : w.heap[d]? = some (.cells (dkC (.slice none 0 0) on wr) 76 (0, 0))) (hf : w.heap[f]? = some (.cells #[.string aB, u, v] 122 (0, 0))) :
    Calls Tryz.prog 97 #[.pointer (some ⟨d, 0, none⟩), .pointer (some ⟨f, 0, none⟩)] w fun e w' => e = .returned (.tuple #[]) ∧ ∃ b cap cur, w'.heap[d]? = some (.cells (dkC (.slice (some ⟨b, 0, none⟩) 1 cap) on wr) 76 (0, 0)) ∧ w.heap.size ≤ b ∧ w'.heap[b]? = some (.cells cur 90 (0, 0)) ∧ cur[0]? = some (.pointer (some ⟨f, 0, none⟩)) ∧ w.heap.size ≤ w'.heap.size ∧ (∀ k, k < w.heap.size → k ≠ d → w'.heap[k]? = w.heap[k]?) ∧ (∀ (B : Nat) (v : World), B ≤ d → Below B v w → Below B v w') := by
  obtain ⟨c0, c1, c2, c3, c4, c5⟩ := dk_cells h
  have hl := lt_of_block h
  have hfl := lt_of_block hf
  have g0 : w.cell? ⟨f, 0, none⟩ = some (.string aB) := cell_of_row w f 0 _ _ _ hf
  have HP : Hid (Calls Tryz.prog 96 #[.pointer (some ⟨d, 0, none⟩), .string aB] w fun e w' => e = .returned (.tuple #[.int .i64 0, .bool false]) ∧ w' = w) := place0 c0
  have HH : Hid (w.heap[d]? = some (.cells (dkC (.slice none 0 0) on wr) 76 (0, 0))) := h
  have HI : Hid (∀ V : World, V = w.alloc (.cells #[.pointer (some ⟨f, 0, none⟩)] 90) → Calls Tryz.prog 104 #[.slice none 0 0, .int .i64 0, .slice (some ⟨w.heap.size, 0, none⟩) 1 1] V fun e w' => ∃ b cap cur, e = .returned (.slice (some ⟨b, 0, none⟩) 1 cap) ∧ Hid (w.heap.size ≤ b ∧ w'.heap[b]? = some (.cells cur 90 (0, 0)) ∧ cur[0]? = some (.pointer (some ⟨f, 0, none⟩)) ∧ Below w.heap.size w w') ∧ w'.cell? ⟨d, 0, none⟩ = some (.slice none 0 0) ∧ w'.frozen? ⟨d, 0, none⟩ = false ∧ d < w'.heap.size) := fun V hV => by
    subst hV
    have hB : Below w.heap.size w (w.alloc (.cells #[.pointer (some ⟨f, 0, none⟩)] 90)) := (Below.refl _ w).alloc (Nat.le_refl _) _
    refine (insert0 (cell_of_row _ w.heap.size 0 _ _ _ (heap_alloc_new w _))).mono ?_
    rintro e w' ⟨b, cap, cur, h1, h2, h3, h4, h5⟩
    have hBw : Below w.heap.size w w' := hB.trans (h5.mono hB.size)
    have hd' : w'.heap[d]? = some (.cells (dkC (.slice none 0 0) on wr) 76 (0, 0)) := (hBw.block _ hl).trans HH.out
    exact ⟨b, cap, cur, h1, ⟨by have := hB.size; omega, h3, h4, hBw⟩, (dk_cells hd').1, frozen_of_row w' d 0 _ _ hd', lt_of_block hd'⟩
  clear h hf
  go_enter Tryz.func97, Tryz.ntmps97
  go_wp2_with (first | (go_at_call 96; refine (HP.out).mono ?_; rintro e w' ⟨rfl, rfl⟩) | (go_at_call 104; refine (HI.out _ rfl).mono ?_; rintro e w1 ⟨b, cap, cur, rfl, HQ, q0, q1, q2⟩))
  all_goals (first | go_end0 | refine bodyPost_ret (results_none rfl _ _ _) rfl ?_)
  obtain ⟨hb1, hb2, hb3, hb4⟩ := HQ.out
  have hbd : b ≠ d := by omega
  refine ⟨rfl, b, cap, cur, heap_setD _ ((hb4.block _ hl).trans HH.out), hb1, ?_, hb3, by simpa using hb4.size, fun k hk hkd => ?_, fun B v hB h => ?_⟩
  · rw [Below.heap_setCell _ _ _ _ hbd]; exact hb2
  · rw [Below.heap_setCell _ _ _ _ hkd]; exact hb4.block _ hk
  · exact (h.trans (hb4.mono (by omega))).setCell (p := ⟨d, 0, none⟩) hB _

/-- The one file's cells. -/
abbrev flC (ga : Option Addr) (l c : Nat) (dur : Int) : Array Value := #[.string aB, .slice ga l c, .int .i64 dur]

/-- add of the first file. -/
theorem add0 {d : Nat} {on : Bool} {wr : Int} {w : World} (h : w.heap[d]? = some (.cells (dkC (.slice none 0 0) on wr) 76 (0, 0))) :
    Calls Tryz.prog 68 #[.pointer (some ⟨d, 0, none⟩), .string aB] w fun e w' => e = .returned (.pointer (some ⟨w.heap.size, 0, none⟩)) ∧ ∃ b cap cur, w'.heap[d]? = some (.cells (dkC (.slice (some ⟨b, 0, none⟩) 1 cap) on wr) 76 (0, 0)) ∧ w.heap.size < b ∧ w'.heap[b]? = some (.cells cur 90 (0, 0)) ∧ cur[0]? = some (.pointer (some ⟨w.heap.size, 0, none⟩)) ∧ w'.heap[w.heap.size]? = some (.cells (flC none 0 0 0) 122 (0, 0)) ∧ w.heap.size < w'.heap.size ∧ (∀ k, k < w.heap.size → k ≠ d → w'.heap[k]? = w.heap[k]?) ∧ (∀ (B : Nat) (v : World), B ≤ d → Below B v w → Below B v w') := by
  have hl := lt_of_block h
  have hA : Below w.heap.size w (w.alloc (.cells (flC none 0 0 0) 122)) := (Below.refl _ w).alloc (Nat.le_refl _) _
  have HP : Hid (∀ V : World, V = w.alloc (.cells (flC none 0 0 0) 122) → Calls Tryz.prog 97 #[.pointer (some ⟨d, 0, none⟩), .pointer (some ⟨w.heap.size, 0, none⟩)] V fun e w' => e = .returned (.tuple #[]) ∧ Hid (∃ b cap cur, w'.heap[d]? = some (.cells (dkC (.slice (some ⟨b, 0, none⟩) 1 cap) on wr) 76 (0, 0)) ∧ w.heap.size < b ∧ w'.heap[b]? = some (.cells cur 90 (0, 0)) ∧ cur[0]? = some (.pointer (some ⟨w.heap.size, 0, none⟩)) ∧ w'.heap[w.heap.size]? = some (.cells (flC none 0 0 0) 122 (0, 0)) ∧ w.heap.size < w'.heap.size ∧ (∀ k, k < w.heap.size → k ≠ d → w'.heap[k]? = w.heap[k]?) ∧ (∀ (B : Nat) (v : World), B ≤ d → Below B v w → Below B v w'))) := fun V hV => by
    subst hV
    have hfn : (w.alloc (.cells (flC none 0 0 0) 122)).heap[w.heap.size]? = some (.cells (flC none 0 0 0) 122 (0, 0)) := heap_alloc_new w _
    have hsz : (w.alloc (.cells (flC none 0 0 0) 122)).heap.size = w.heap.size + 1 := by simp
    refine (put0 ((hA.block _ hl).trans h) hfn).mono ?_
    rintro e w' ⟨h1, b, cap, cur, h2, h3, h4, h5, h6, h7, h8⟩
    refine ⟨h1, b, cap, cur, h2, by omega, h4, h5, (h7 _ (by omega) (by omega)).trans hfn, by omega, fun k hk hkd => (h7 k (by omega) hkd).trans (hA.block _ hk), fun B v hB hv => h8 B v hB (hv.trans (hA.mono (by omega)))⟩
  clear h hA
  go_enter Tryz.func68, Tryz.ntmps68
  go_wp2_with (go_at_call 97; refine (HP.out _ rfl).mono ?_; rintro e w1 ⟨rfl, HQ⟩)
  all_goals (go_ret; exact ⟨rfl, HQ.out⟩)

end Go.Proofs.YtbdokdhconhifaaGreatDoor
