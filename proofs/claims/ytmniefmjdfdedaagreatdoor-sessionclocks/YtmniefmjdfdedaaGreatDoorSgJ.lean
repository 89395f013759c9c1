/- does of the law: Add, Touch, Remove, Due, and what is no call. -/
import Derived.Test.YtmniefmjdfdedaaGreatDoorSgI
import Derived.Test.YtmniefmjdfdedaaGreatDoorSeQ
namespace Go.Proofs.YtmniefmjdfdedaaGreatDoor
open Go.RowKit Go.Shelf
set_option maxRecDepth 8000
set_option linter.unusedSimpArgs false
set_option linter.unusedVariables false

theorem opRow {V : World} {b : Nat} {ki on id tm n : Int} (h : V.heap[b]? = some (.cells #[.int .i64 ki, .int .i64 on, .int .i64 id, .int .i32 tm, .int .i64 n] 38 (0, 0))) : V.cell? ⟨b, 2, none⟩ = some (.int .i64 id) ∧ V.cell? ⟨b, 3, none⟩ = some (.int .i32 tm) := ⟨by rw [cell_of_row _ _ 2 _ _ _ h]; rfl, by rw [cell_of_row _ _ 3 _ _ _ h]; rfl⟩
theorem Kept.of_drew {W w1 : World} {S : Nat → Prop} (h : Kept W.drew w1 S) : Kept W w1 S := ⟨h.os, h.tape, h.output, h.size, h.block⟩
section
variable {w W : World} {own : Nat → Nat} {p : Nat} {R : WoR} {T : Int}
set_option maxHeartbeats 4000000 in
theorem does_add (hp : p ≠ 7) (h : Wo w W own p R) (f : Fit R T) (hT : T ≤ 3000000000000000000) (on id tm n : Int)  :
    Calls Tryz.prog 7 #[.pointer (some ⟨R.x, 0, none⟩), .agg #[.int .i64 1, .int .i64 on, .int .i64 id, .int .i32 tm, .int .i64 n]] W fun e w' => e = .returned (.bool true) ∧ Hid (DoTo w W w' own p R T) := by
  have FF : Hid (Fit R T ∧ T ≤ 3000000000000000000) := ⟨f, hT⟩
  obtain ⟨bx, hbx⟩ : ∃ b, b = W.heap.size := ⟨_, rfl⟩
  obtain ⟨W0, hW0⟩ : ∃ W0, W0 = W.alloc (.cells #[.int .i64 1, .int .i64 on, .int .i64 id, .int .i32 tm, .int .i64 n] 38) := ⟨_, rfl⟩
  have hb0 : Below W.heap.size W W0 := by rw [hW0]; exact (Below.refl _ W).alloc (Nat.le_refl _) _
  have HX : Hid (W0.heap[bx]? = some (.cells #[.int .i64 1, .int .i64 on, .int .i64 id, .int .i32 tm, .int .i64 n] 38 (0, 0))) := by rw [hbx, hW0]; exact heap_alloc_new _ _
  have k0 : W0.cell? ⟨bx, 0, none⟩ = some (.int .i64 1) := by rw [cell_of_row _ _ 0 _ _ _ HX.out]; rfl
  have H0 : Hid (Wo w W0 (bxO own W.heap.size) p R) := h.box hp hb0
  have zb : bx < W0.heap.size := lt_of_block HX.out
  have zx : R.x < W0.heap.size := H0.out.lt (.inl rfl)
  have HOut : Hid (∀ w', DoTo w W0 w' (bxO own W.heap.size) p R T → DoTo w W w' own p R T) := fun w' q => q.out hb0
  have HO7 : Hid (bxO own W.heap.size bx ≠ p) := by rw [hbx]; unfold bxO; rw [if_neg (Nat.lt_irrefl _)]; exact fun e => hp e.symm
  have HM : Hid (bx ≠ R.m) := by
    have := h.lt (.inr (.inl (.inr (.inl rfl))))
    show bx ≠ R.m
    omega
  have g0 : W0.cell? ⟨R.x, 0, none⟩ = some (.pointer (some ⟨R.c, 0, none⟩)) ∧ W0.cell? ⟨R.x, 1, none⟩ = some (.pointer (some ⟨R.d, 0, none⟩)) ∧ W0.cell? ⟨bx, 2, none⟩ = some (.int .i64 id) ∧ W0.cell? ⟨bx, 3, none⟩ = some (.int .i32 tm) := ⟨H0.out.cx.1, H0.out.cx.2, opRow HX.out⟩
  have HW0 : Hid (W.alloc (.cells #[.int .i64 1, .int .i64 on, .int .i64 id, .int .i32 tm, .int .i64 n] 38) = W0) := hW0.symm
  have HBx : Hid (W.heap.size = bx) := hbx.symm
  clear h hb0 hW0 hbx f hT
  generalize bxO own W.heap.size = own1 at *
  have HA : Hid _ := wo_add (H0.out.drewN 1) FF.out.1 FF.out.2 id tm
  go_enter Tryz.func7, Tryz.ntmps7
  go_upto_region 1 with fail
  rw [HW0.out, HBx.out]
  clear HW0 HBx
  go_wp2_with fail
  refine wp_region_held_drew (S := (fun V => V.cell? ⟨R.x, 0, none⟩ = some (.pointer (some ⟨R.c, 0, none⟩)) ∧ V.cell? ⟨R.x, 1, none⟩ = some (.pointer (some ⟨R.d, 0, none⟩)) ∧ V.cell? ⟨bx, 2, none⟩ = some (.int .i64 id) ∧ V.cell? ⟨bx, 3, none⟩ = some (.int .i32 tm))) (by kernel_rfl) ?_ (fun hHeld => ?_)
  · exact g0
  refine wpAnyH_take (i := 0) (oi := { dst := some 22, op := Op.move (Operand.tmp 0), type := 24, pos := "law.go:76", after := #[], guard := none }) (v := ?_) rfl (by kernel_rfl) (by kernel_rfl) (by kernel_rfl) (fun _ _ _ h => h) (Or.inl ⟨by rfl, ?_⟩) (by assumption) ?_
  rotate_left
  · (intro w hSw; (try dsimp only at hSw); go_simp) <;> with_reducible rfl
  try simp only [Act.put, List.setIfInBounds_toArray, List.set_cons_zero, List.set_cons_succ]
  refine wpAnyH_take (i := 1) (oi := { dst := some 23, op := Op.nilCheck (Operand.tmp 22), type := 0, pos := "law.go:76", after := #[{ on := 0, ground := Ground.data }], guard := none }) (v := ?_) rfl (by kernel_rfl) (by kernel_rfl) (by kernel_rfl) (fun _ _ _ h => h) (Or.inl ⟨by rfl, ?_⟩) (by assumption) ?_
  rotate_left
  · (intro w hSw; (try dsimp only at hSw); go_simp) <;> with_reducible rfl
  try simp only [Act.put, List.setIfInBounds_toArray, List.set_cons_zero, List.set_cons_succ]
  refine wpAnyH_take (i := 2) (oi := { dst := some 24, op := Op.fieldAddr 36 (Operand.tmp 23) 0, type := 0, pos := "law.go:76", after := #[{ on := 1, ground := Ground.data }], guard := none }) (v := ?_) rfl (by kernel_rfl) (by kernel_rfl) (by kernel_rfl) (fun _ _ _ h => h) (Or.inl ⟨by rfl, ?_⟩) (by assumption) ?_
  rotate_left
  · (intro w hSw; (try dsimp only at hSw); go_simp) <;> with_reducible rfl
  try simp only [Act.put, List.setIfInBounds_toArray, List.set_cons_zero, List.set_cons_succ]
  refine wpAnyH_take (i := 3) (oi := { dst := some 25, op := Op.load 27 (Operand.tmp 24), type := 27, pos := "law.go:76", after := #[{ on := 2, ground := Ground.data }], guard := none }) (v := ?_) rfl (by kernel_rfl) (by kernel_rfl) (by kernel_rfl) (fun _ _ _ h => h) (Or.inl ⟨by rfl, ?_⟩) (by assumption) ?_
  rotate_left
  · (intro w hSw; (try dsimp only at hSw); go_simp) <;> with_reducible rfl
  try simp only [Act.put, List.setIfInBounds_toArray, List.set_cons_zero, List.set_cons_succ]
  refine wpAnyH_take (i := 4) (oi := { dst := some 26, op := Op.fieldAddr 38 (Operand.tmp 3) 2, type := 0, pos := "law.go:76", after := #[], guard := none }) (v := ?_) rfl (by kernel_rfl) (by kernel_rfl) (by kernel_rfl) (fun _ _ _ h => h) (Or.inl ⟨by rfl, ?_⟩) (by assumption) ?_
  rotate_left
  · (intro w hSw; (try dsimp only at hSw); go_simp) <;> with_reducible rfl
  try simp only [Act.put, List.setIfInBounds_toArray, List.set_cons_zero, List.set_cons_succ]
  refine wpAnyH_take (i := 5) (oi := { dst := some 27, op := Op.load 2 (Operand.tmp 26), type := 2, pos := "law.go:76", after := #[{ on := 4, ground := Ground.data }], guard := none }) (v := ?_) rfl (by kernel_rfl) (by kernel_rfl) (by kernel_rfl) (fun _ _ _ h => h) (Or.inl ⟨by rfl, ?_⟩) (by assumption) ?_
  rotate_left
  · (intro w hSw; (try dsimp only at hSw); go_simp) <;> with_reducible rfl
  try simp only [Act.put, List.setIfInBounds_toArray, List.set_cons_zero, List.set_cons_succ]
  refine wpAnyH_take (i := 6) (oi := { dst := some 28, op := Op.fieldAddr 38 (Operand.tmp 3) 3, type := 0, pos := "law.go:76", after := #[], guard := none }) (v := ?_) rfl (by kernel_rfl) (by kernel_rfl) (by kernel_rfl) (fun _ _ _ h => h) (Or.inl ⟨by rfl, ?_⟩) (by assumption) ?_
  rotate_left
  · (intro w hSw; (try dsimp only at hSw); go_simp) <;> with_reducible rfl
  try simp only [Act.put, List.setIfInBounds_toArray, List.set_cons_zero, List.set_cons_succ]
  refine wpAnyH_take (i := 7) (oi := { dst := some 29, op := Op.load 21 (Operand.tmp 28), type := 21, pos := "law.go:76", after := #[{ on := 6, ground := Ground.data }], guard := none }) (v := ?_) rfl (by kernel_rfl) (by kernel_rfl) (by kernel_rfl) (fun _ _ _ h => h) (Or.inl ⟨by rfl, ?_⟩) (by assumption) ?_
  rotate_left
  · (intro w hSw; (try dsimp only at hSw); go_simp) <;> with_reducible rfl
  try simp only [Act.put, List.setIfInBounds_toArray, List.set_cons_zero, List.set_cons_succ]
  refine wpAnyH_take (i := 9) (oi := { dst := some 31, op := Op.move (Operand.tmp 0), type := 24, pos := "law.go:76", after := #[], guard := none }) (v := ?_) rfl (by kernel_rfl) (by kernel_rfl) (by kernel_rfl) (fun _ _ _ h => h) (Or.inl ⟨by rfl, ?_⟩) (by assumption) ?_
  rotate_left
  · (intro w hSw; (try dsimp only at hSw); go_simp) <;> with_reducible rfl
  try simp only [Act.put, List.setIfInBounds_toArray, List.set_cons_zero, List.set_cons_succ]
  refine wpAnyH_take (i := 10) (oi := { dst := some 32, op := Op.nilCheck (Operand.tmp 31), type := 0, pos := "law.go:76", after := #[{ on := 9, ground := Ground.data }], guard := none }) (v := ?_) rfl (by kernel_rfl) (by kernel_rfl) (by kernel_rfl) (fun _ _ _ h => h) (Or.inl ⟨by rfl, ?_⟩) (by assumption) ?_
  rotate_left
  · (intro w hSw; (try dsimp only at hSw); go_simp) <;> with_reducible rfl
  try simp only [Act.put, List.setIfInBounds_toArray, List.set_cons_zero, List.set_cons_succ]
  refine wpAnyH_take (i := 11) (oi := { dst := some 33, op := Op.fieldAddr 36 (Operand.tmp 32) 1, type := 0, pos := "law.go:76", after := #[{ on := 10, ground := Ground.data }], guard := none }) (v := ?_) rfl (by kernel_rfl) (by kernel_rfl) (by kernel_rfl) (fun _ _ _ h => h) (Or.inl ⟨by rfl, ?_⟩) (by assumption) ?_
  rotate_left
  · (intro w hSw; (try dsimp only at hSw); go_simp) <;> with_reducible rfl
  try simp only [Act.put, List.setIfInBounds_toArray, List.set_cons_zero, List.set_cons_succ]
  refine wpAnyH_take (i := 12) (oi := { dst := some 34, op := Op.load 31 (Operand.tmp 33), type := 31, pos := "law.go:76", after := #[{ on := 11, ground := Ground.data }], guard := none }) (v := ?_) rfl (by kernel_rfl) (by kernel_rfl) (by kernel_rfl) (fun _ _ _ h => h) (Or.inl ⟨by rfl, ?_⟩) (by assumption) ?_
  rotate_left
  · (intro w hSw; (try dsimp only at hSw); go_simp) <;> with_reducible rfl
  try simp only [Act.put, List.setIfInBounds_toArray, List.set_cons_zero, List.set_cons_succ]
  refine wpAnyH_take (i := 13) (oi := { dst := some 35, op := Op.fieldAddr 38 (Operand.tmp 3) 2, type := 0, pos := "law.go:76", after := #[], guard := none }) (v := ?_) rfl (by kernel_rfl) (by kernel_rfl) (by kernel_rfl) (fun _ _ _ h => h) (Or.inl ⟨by rfl, ?_⟩) (by assumption) ?_
  rotate_left
  · (intro w hSw; (try dsimp only at hSw); go_simp) <;> with_reducible rfl
  try simp only [Act.put, List.setIfInBounds_toArray, List.set_cons_zero, List.set_cons_succ]
  refine wpAnyH_take (i := 14) (oi := { dst := some 36, op := Op.load 2 (Operand.tmp 35), type := 2, pos := "law.go:76", after := #[{ on := 13, ground := Ground.data }], guard := none }) (v := ?_) rfl (by kernel_rfl) (by kernel_rfl) (by kernel_rfl) (fun _ _ _ h => h) (Or.inl ⟨by rfl, ?_⟩) (by assumption) ?_
  rotate_left
  · (intro w hSw; (try dsimp only at hSw); go_simp) <;> with_reducible rfl
  try simp only [Act.put, List.setIfInBounds_toArray, List.set_cons_zero, List.set_cons_succ]
  refine wpAnyH_take (i := 15) (oi := { dst := some 37, op := Op.fieldAddr 38 (Operand.tmp 3) 3, type := 0, pos := "law.go:76", after := #[], guard := none }) (v := ?_) rfl (by kernel_rfl) (by kernel_rfl) (by kernel_rfl) (fun _ _ _ h => h) (Or.inl ⟨by rfl, ?_⟩) (by assumption) ?_
  rotate_left
  · (intro w hSw; (try dsimp only at hSw); go_simp) <;> with_reducible rfl
  try simp only [Act.put, List.setIfInBounds_toArray, List.set_cons_zero, List.set_cons_succ]
  refine wpAnyH_take (i := 16) (oi := { dst := some 38, op := Op.load 21 (Operand.tmp 37), type := 21, pos := "law.go:76", after := #[{ on := 15, ground := Ground.data }], guard := none }) (v := ?_) rfl (by kernel_rfl) (by kernel_rfl) (by kernel_rfl) (fun _ _ _ h => h) (Or.inl ⟨by rfl, ?_⟩) (by assumption) ?_
  rotate_left
  · (intro w hSw; (try dsimp only at hSw); go_simp) <;> with_reducible rfl
  try simp only [Act.put, List.setIfInBounds_toArray, List.set_cons_zero, List.set_cons_succ]
  refine wpAnyH_ready (rs := [8]) (by kernel_rfl) (by simp) ?_
  refine AllReadyH.cons (o := { dst := some 30, op := Op.call { callee := Callee.value (Operand.func 9), args := #[Operand.tmp 25, Operand.tmp 27, Operand.tmp 29], argTypes := #[27, 2, 21] }, type := 28, pos := "law.go:76", after := #[{ on := 3, ground := Ground.data }, { on := 5, ground := Ground.data }, { on := 7, ground := Ground.data }], guard := none }) rfl (fun K hK => ?_) AllReadyH.nil
  go_simp
  refine Calls.mono HA.out ?_
  rintro y w1 ⟨rfl, HW1, HK1⟩
  have HX1 : Hid (w1.heap[bx]? = some (.cells #[.int .i64 1, .int .i64 on, .int .i64 id, .int .i32 tm, .int .i64 n] 38 (0, 0))) := HK1.out.heap (w := W0.drew) HX.out HM.out
  have g1 : w1.cell? ⟨R.x, 0, none⟩ = some (.pointer (some ⟨R.c, 0, none⟩)) ∧ w1.cell? ⟨R.x, 1, none⟩ = some (.pointer (some ⟨R.d, 0, none⟩)) ∧ w1.cell? ⟨bx, 2, none⟩ = some (.int .i64 id) ∧ w1.cell? ⟨bx, 3, none⟩ = some (.int .i32 tm) := ⟨HW1.out.cx.1, HW1.out.cx.2, opRow HX1.out⟩
  refine hK.out _ _ g1 (fun hHeld => ?_)
  clear hK K
  refine wpAnyH_ready (rs := [17]) (by kernel_rfl) (by simp) ?_
  refine AllReadyH.cons (o := { dst := some 39, op := Op.call { callee := Callee.value (Operand.func 13), args := #[Operand.tmp 34, Operand.tmp 36, Operand.tmp 38], argTypes := #[31, 2, 21] }, type := 28, pos := "law.go:76", after := #[{ on := 12, ground := Ground.data }, { on := 14, ground := Ground.data }, { on := 16, ground := Ground.data }, { on := 8, ground := Ground.chain }], guard := none }) rfl (fun K hK => ?_) AllReadyH.nil
  go_simp
  refine Calls.mono (doc_add FF.out.1 id tm rfl HW1.out) ?_
  rintro y2 w2 ⟨rfl, HD2⟩
  have hk2 := HD2.out
  obtain ⟨_, _, _, _, _, _, hkk⟩ := hk2
  have g2 : w2.cell? ⟨R.x, 0, none⟩ = some (.pointer (some ⟨R.c, 0, none⟩)) ∧ w2.cell? ⟨R.x, 1, none⟩ = some (.pointer (some ⟨R.d, 0, none⟩)) ∧ w2.cell? ⟨bx, 2, none⟩ = some (.int .i64 id) ∧ w2.cell? ⟨bx, 3, none⟩ = some (.int .i32 tm) := ⟨HD2.out.cx.1, HD2.out.cx.2, opRow (hkk.heap HX1.out HO7.out)⟩
  clear hkk
  have HE : Hid (DoTo w W0 w2 own1 p R T) := by
    obtain ⟨o', R', d1, d2, d3, d4, d5⟩ := HD2.out
    have hk1 : Kept W0 w1 (fun k => own1 k = p) := ((HK1.out.mono (fun k _ e => H0.out.kC k (.inr e))) : Kept W0.drew w1 (fun k => own1 k = p)).of_drew
    exact ⟨o', R', d1, d2, d3, fun k hk => d4 k (Nat.lt_of_lt_of_le hk HK1.out.size), hk1.trans d5 (fun _ _ e => e)⟩
  refine hK.out _ _ g2 (fun hHeld => ?_)
  clear hK K
  refine wpAnyH_take (i := 18) (oi := { dst := some 40, op := Op.binOp BinOp.eql 28 (Operand.tmp 30) (Operand.tmp 39) 28, type := 4, pos := "law.go:76", after := #[{ on := 8, ground := Ground.data }, { on := 17, ground := Ground.data }], guard := none }) (v := ?_) rfl (by kernel_rfl) (by kernel_rfl) (by kernel_rfl) (fun _ _ _ h => h) (Or.inl ⟨by rfl, ?_⟩) (by assumption) ?_
  rotate_left
  · (intro w hSw; (try dsimp only at hSw); go_simp) <;> with_reducible rfl
  try simp only [Act.put, List.setIfInBounds_toArray, List.set_cons_zero, List.set_cons_succ]
  refine wpAnyH_take (i := 19) (oi := { dst := some 4, op := Op.assign (Operand.tmp 40), type := 4, pos := "law.go:76", after := #[{ on := 18, ground := Ground.data }, { on := 17, ground := Ground.chain }, { on := 0, ground := Ground.phase }, { on := 1, ground := Ground.phase }, { on := 2, ground := Ground.phase }, { on := 3, ground := Ground.phase }, { on := 4, ground := Ground.phase }, { on := 5, ground := Ground.phase }, { on := 6, ground := Ground.phase }, { on := 7, ground := Ground.phase }, { on := 8, ground := Ground.phase }, { on := 9, ground := Ground.phase }, { on := 10, ground := Ground.phase }, { on := 11, ground := Ground.phase }, { on := 12, ground := Ground.phase }, { on := 13, ground := Ground.phase }, { on := 14, ground := Ground.phase }, { on := 15, ground := Ground.phase }, { on := 16, ground := Ground.phase }, { on := 17, ground := Ground.phase }, { on := 18, ground := Ground.phase }], guard := none }) (v := ?_) rfl (by kernel_rfl) (by kernel_rfl) (by kernel_rfl) (fun _ _ _ h => h) (Or.inl ⟨by rfl, ?_⟩) (by assumption) ?_
  rotate_left
  · (intro w hSw; (try dsimp only at hSw); go_simp) <;> with_reducible rfl
  try simp only [Act.put, List.setIfInBounds_toArray, List.set_cons_zero, List.set_cons_succ]
  refine wpAnyH_done (by kernel_rfl) ?_ _
  clear hHeld
  generalize addE R.l id tm = av at *
  have hav : (av == av) = true := by simp
  go_wp2
  all_goals (go_ret; exact ⟨by first | rfl | simp, HOut.out _ HE.out⟩)

set_option maxHeartbeats 4000000 in
theorem does_touch_no (hp : p ≠ 7) (h : Wo w W own p R) (f : Fit R T) (hT : T ≤ 3000000000000000000) (on id tm n : Int) (hm : id ∉ idD R.dl) :
    Calls Tryz.prog 7 #[.pointer (some ⟨R.x, 0, none⟩), .agg #[.int .i64 2, .int .i64 on, .int .i64 id, .int .i32 tm, .int .i64 n]] W fun e w' => e = .returned (.bool true) ∧ Hid (DoTo w W w' own p R T) := by
  have FF : Hid (Fit R T ∧ T ≤ 3000000000000000000) := ⟨f, hT⟩
  obtain ⟨bx, hbx⟩ : ∃ b, b = W.heap.size := ⟨_, rfl⟩
  obtain ⟨W0, hW0⟩ : ∃ W0, W0 = W.alloc (.cells #[.int .i64 2, .int .i64 on, .int .i64 id, .int .i32 tm, .int .i64 n] 38) := ⟨_, rfl⟩
  have hb0 : Below W.heap.size W W0 := by rw [hW0]; exact (Below.refl _ W).alloc (Nat.le_refl _) _
  have HX : Hid (W0.heap[bx]? = some (.cells #[.int .i64 2, .int .i64 on, .int .i64 id, .int .i32 tm, .int .i64 n] 38 (0, 0))) := by rw [hbx, hW0]; exact heap_alloc_new _ _
  have k0 : W0.cell? ⟨bx, 0, none⟩ = some (.int .i64 2) := by rw [cell_of_row _ _ 0 _ _ _ HX.out]; rfl
  have H0 : Hid (Wo w W0 (bxO own W.heap.size) p R) := h.box hp hb0
  have zb : bx < W0.heap.size := lt_of_block HX.out
  have zx : R.x < W0.heap.size := H0.out.lt (.inl rfl)
  have HOut : Hid (∀ w', DoTo w W0 w' (bxO own W.heap.size) p R T → DoTo w W w' own p R T) := fun w' q => q.out hb0
  have HO7 : Hid (bxO own W.heap.size bx ≠ p) := by rw [hbx]; unfold bxO; rw [if_neg (Nat.lt_irrefl _)]; exact fun e => hp e.symm
  have HM : Hid (bx ≠ R.m) := by
    have := h.lt (.inr (.inl (.inr (.inl rfl))))
    show bx ≠ R.m
    omega
  have g0 : W0.cell? ⟨R.x, 0, none⟩ = some (.pointer (some ⟨R.c, 0, none⟩)) ∧ W0.cell? ⟨R.x, 1, none⟩ = some (.pointer (some ⟨R.d, 0, none⟩)) ∧ W0.cell? ⟨bx, 2, none⟩ = some (.int .i64 id) ∧ W0.cell? ⟨bx, 3, none⟩ = some (.int .i32 tm) := ⟨H0.out.cx.1, H0.out.cx.2, opRow HX.out⟩
  have HW0 : Hid (W.alloc (.cells #[.int .i64 2, .int .i64 on, .int .i64 id, .int .i32 tm, .int .i64 n] 38) = W0) := hW0.symm
  have HBx : Hid (W.heap.size = bx) := hbx.symm
  clear h hb0 hW0 hbx f hT
  generalize bxO own W.heap.size = own1 at *
  have HMn : Hid (id ∉ idD R.dl) := hm
  have HA : Hid _ := wo_touch_no (H0.out.drewN 1) FF.out.1 id hm
  go_enter Tryz.func7, Tryz.ntmps7
  go_upto_region 1 with fail
  rw [HW0.out, HBx.out]
  clear HW0 HBx
  go_wp2_with fail
  refine wp_region_held_drew (S := (fun V => V.cell? ⟨R.x, 0, none⟩ = some (.pointer (some ⟨R.c, 0, none⟩)) ∧ V.cell? ⟨R.x, 1, none⟩ = some (.pointer (some ⟨R.d, 0, none⟩)) ∧ V.cell? ⟨bx, 2, none⟩ = some (.int .i64 id) ∧ V.cell? ⟨bx, 3, none⟩ = some (.int .i32 tm))) (by kernel_rfl) ?_ (fun hHeld => ?_)
  · exact g0
  refine wpAnyH_take (i := 0) (oi := { dst := some 43, op := Op.move (Operand.tmp 0), type := 24, pos := "law.go:78", after := #[], guard := none }) (v := ?_) rfl (by kernel_rfl) (by kernel_rfl) (by kernel_rfl) (fun _ _ _ h => h) (Or.inl ⟨by rfl, ?_⟩) (by assumption) ?_
  rotate_left
  · (intro w hSw; (try dsimp only at hSw); go_simp) <;> with_reducible rfl
  try simp only [Act.put, List.setIfInBounds_toArray, List.set_cons_zero, List.set_cons_succ]
  refine wpAnyH_take (i := 1) (oi := { dst := some 44, op := Op.nilCheck (Operand.tmp 43), type := 0, pos := "law.go:78", after := #[{ on := 0, ground := Ground.data }], guard := none }) (v := ?_) rfl (by kernel_rfl) (by kernel_rfl) (by kernel_rfl) (fun _ _ _ h => h) (Or.inl ⟨by rfl, ?_⟩) (by assumption) ?_
  rotate_left
  · (intro w hSw; (try dsimp only at hSw); go_simp) <;> with_reducible rfl
  try simp only [Act.put, List.setIfInBounds_toArray, List.set_cons_zero, List.set_cons_succ]
  refine wpAnyH_take (i := 2) (oi := { dst := some 45, op := Op.fieldAddr 36 (Operand.tmp 44) 0, type := 0, pos := "law.go:78", after := #[{ on := 1, ground := Ground.data }], guard := none }) (v := ?_) rfl (by kernel_rfl) (by kernel_rfl) (by kernel_rfl) (fun _ _ _ h => h) (Or.inl ⟨by rfl, ?_⟩) (by assumption) ?_
  rotate_left
  · (intro w hSw; (try dsimp only at hSw); go_simp) <;> with_reducible rfl
  try simp only [Act.put, List.setIfInBounds_toArray, List.set_cons_zero, List.set_cons_succ]
  refine wpAnyH_take (i := 3) (oi := { dst := some 46, op := Op.load 27 (Operand.tmp 45), type := 27, pos := "law.go:78", after := #[{ on := 2, ground := Ground.data }], guard := none }) (v := ?_) rfl (by kernel_rfl) (by kernel_rfl) (by kernel_rfl) (fun _ _ _ h => h) (Or.inl ⟨by rfl, ?_⟩) (by assumption) ?_
  rotate_left
  · (intro w hSw; (try dsimp only at hSw); go_simp) <;> with_reducible rfl
  try simp only [Act.put, List.setIfInBounds_toArray, List.set_cons_zero, List.set_cons_succ]
  refine wpAnyH_take (i := 4) (oi := { dst := some 47, op := Op.fieldAddr 38 (Operand.tmp 3) 2, type := 0, pos := "law.go:78", after := #[], guard := none }) (v := ?_) rfl (by kernel_rfl) (by kernel_rfl) (by kernel_rfl) (fun _ _ _ h => h) (Or.inl ⟨by rfl, ?_⟩) (by assumption) ?_
  rotate_left
  · (intro w hSw; (try dsimp only at hSw); go_simp) <;> with_reducible rfl
  try simp only [Act.put, List.setIfInBounds_toArray, List.set_cons_zero, List.set_cons_succ]
  refine wpAnyH_take (i := 5) (oi := { dst := some 48, op := Op.load 2 (Operand.tmp 47), type := 2, pos := "law.go:78", after := #[{ on := 4, ground := Ground.data }], guard := none }) (v := ?_) rfl (by kernel_rfl) (by kernel_rfl) (by kernel_rfl) (fun _ _ _ h => h) (Or.inl ⟨by rfl, ?_⟩) (by assumption) ?_
  rotate_left
  · (intro w hSw; (try dsimp only at hSw); go_simp) <;> with_reducible rfl
  try simp only [Act.put, List.setIfInBounds_toArray, List.set_cons_zero, List.set_cons_succ]
  refine wpAnyH_take (i := 7) (oi := { dst := some 50, op := Op.move (Operand.tmp 0), type := 24, pos := "law.go:78", after := #[], guard := none }) (v := ?_) rfl (by kernel_rfl) (by kernel_rfl) (by kernel_rfl) (fun _ _ _ h => h) (Or.inl ⟨by rfl, ?_⟩) (by assumption) ?_
  rotate_left
  · (intro w hSw; (try dsimp only at hSw); go_simp) <;> with_reducible rfl
  try simp only [Act.put, List.setIfInBounds_toArray, List.set_cons_zero, List.set_cons_succ]
  refine wpAnyH_take (i := 8) (oi := { dst := some 51, op := Op.nilCheck (Operand.tmp 50), type := 0, pos := "law.go:78", after := #[{ on := 7, ground := Ground.data }], guard := none }) (v := ?_) rfl (by kernel_rfl) (by kernel_rfl) (by kernel_rfl) (fun _ _ _ h => h) (Or.inl ⟨by rfl, ?_⟩) (by assumption) ?_
  rotate_left
  · (intro w hSw; (try dsimp only at hSw); go_simp) <;> with_reducible rfl
  try simp only [Act.put, List.setIfInBounds_toArray, List.set_cons_zero, List.set_cons_succ]
  refine wpAnyH_take (i := 9) (oi := { dst := some 52, op := Op.fieldAddr 36 (Operand.tmp 51) 1, type := 0, pos := "law.go:78", after := #[{ on := 8, ground := Ground.data }], guard := none }) (v := ?_) rfl (by kernel_rfl) (by kernel_rfl) (by kernel_rfl) (fun _ _ _ h => h) (Or.inl ⟨by rfl, ?_⟩) (by assumption) ?_
  rotate_left
  · (intro w hSw; (try dsimp only at hSw); go_simp) <;> with_reducible rfl
  try simp only [Act.put, List.setIfInBounds_toArray, List.set_cons_zero, List.set_cons_succ]
  refine wpAnyH_take (i := 10) (oi := { dst := some 53, op := Op.load 31 (Operand.tmp 52), type := 31, pos := "law.go:78", after := #[{ on := 9, ground := Ground.data }], guard := none }) (v := ?_) rfl (by kernel_rfl) (by kernel_rfl) (by kernel_rfl) (fun _ _ _ h => h) (Or.inl ⟨by rfl, ?_⟩) (by assumption) ?_
  rotate_left
  · (intro w hSw; (try dsimp only at hSw); go_simp) <;> with_reducible rfl
  try simp only [Act.put, List.setIfInBounds_toArray, List.set_cons_zero, List.set_cons_succ]
  refine wpAnyH_take (i := 11) (oi := { dst := some 54, op := Op.fieldAddr 38 (Operand.tmp 3) 2, type := 0, pos := "law.go:78", after := #[], guard := none }) (v := ?_) rfl (by kernel_rfl) (by kernel_rfl) (by kernel_rfl) (fun _ _ _ h => h) (Or.inl ⟨by rfl, ?_⟩) (by assumption) ?_
  rotate_left
  · (intro w hSw; (try dsimp only at hSw); go_simp) <;> with_reducible rfl
  try simp only [Act.put, List.setIfInBounds_toArray, List.set_cons_zero, List.set_cons_succ]
  refine wpAnyH_take (i := 12) (oi := { dst := some 55, op := Op.load 2 (Operand.tmp 54), type := 2, pos := "law.go:78", after := #[{ on := 11, ground := Ground.data }], guard := none }) (v := ?_) rfl (by kernel_rfl) (by kernel_rfl) (by kernel_rfl) (fun _ _ _ h => h) (Or.inl ⟨by rfl, ?_⟩) (by assumption) ?_
  rotate_left
  · (intro w hSw; (try dsimp only at hSw); go_simp) <;> with_reducible rfl
  try simp only [Act.put, List.setIfInBounds_toArray, List.set_cons_zero, List.set_cons_succ]
  refine wpAnyH_ready (rs := [6]) (by kernel_rfl) (by simp) ?_
  refine AllReadyH.cons (o := { dst := some 49, op := Op.call { callee := Callee.value (Operand.func 14), args := #[Operand.tmp 46, Operand.tmp 48], argTypes := #[27, 2] }, type := 28, pos := "law.go:78", after := #[{ on := 3, ground := Ground.data }, { on := 5, ground := Ground.data }], guard := none }) rfl (fun K hK => ?_) AllReadyH.nil
  go_simp
  refine Calls.mono HA.out ?_
  rintro y w1 ⟨rfl, HW1, HK1⟩
  have HX1 : Hid (w1.heap[bx]? = some (.cells #[.int .i64 2, .int .i64 on, .int .i64 id, .int .i32 tm, .int .i64 n] 38 (0, 0))) := HK1.out.heap (w := W0.drew) HX.out HM.out
  have g1 : w1.cell? ⟨R.x, 0, none⟩ = some (.pointer (some ⟨R.c, 0, none⟩)) ∧ w1.cell? ⟨R.x, 1, none⟩ = some (.pointer (some ⟨R.d, 0, none⟩)) ∧ w1.cell? ⟨bx, 2, none⟩ = some (.int .i64 id) ∧ w1.cell? ⟨bx, 3, none⟩ = some (.int .i32 tm) := ⟨HW1.out.cx.1, HW1.out.cx.2, opRow HX1.out⟩
  refine hK.out _ _ g1 (fun hHeld => ?_)
  clear hK K
  refine wpAnyH_ready (rs := [13]) (by kernel_rfl) (by simp) ?_
  refine AllReadyH.cons (o := { dst := some 56, op := Op.call { callee := Callee.value (Operand.func 15), args := #[Operand.tmp 53, Operand.tmp 55], argTypes := #[31, 2] }, type := 28, pos := "law.go:78", after := #[{ on := 10, ground := Ground.data }, { on := 12, ground := Ground.data }, { on := 6, ground := Ground.chain }], guard := none }) rfl (fun K hK => ?_) AllReadyH.nil
  go_simp
  refine Calls.mono (doc_touch_no HW1.out FF.out.1 id HMn.out) ?_
  rintro y2 w2 ⟨rfl, HD2⟩
  have hk2 := HD2.out
  obtain ⟨_, _, _, _, _, _, hkk⟩ := hk2
  have g2 : w2.cell? ⟨R.x, 0, none⟩ = some (.pointer (some ⟨R.c, 0, none⟩)) ∧ w2.cell? ⟨R.x, 1, none⟩ = some (.pointer (some ⟨R.d, 0, none⟩)) ∧ w2.cell? ⟨bx, 2, none⟩ = some (.int .i64 id) ∧ w2.cell? ⟨bx, 3, none⟩ = some (.int .i32 tm) := ⟨HD2.out.cx.1, HD2.out.cx.2, opRow (hkk.heap HX1.out HO7.out)⟩
  clear hkk
  have HE : Hid (DoTo w W0 w2 own1 p R T) := by
    obtain ⟨o', R', d1, d2, d3, d4, d5⟩ := HD2.out
    have hk1 : Kept W0 w1 (fun k => own1 k = p) := ((HK1.out.mono (fun k _ e => H0.out.kC k (.inr e))) : Kept W0.drew w1 (fun k => own1 k = p)).of_drew
    exact ⟨o', R', d1, d2, d3, fun k hk => d4 k (Nat.lt_of_lt_of_le hk HK1.out.size), hk1.trans d5 (fun _ _ e => e)⟩
  refine hK.out _ _ g2 (fun hHeld => ?_)
  clear hK K
  refine wpAnyH_take (i := 14) (oi := { dst := some 57, op := Op.binOp BinOp.eql 28 (Operand.tmp 49) (Operand.tmp 56) 28, type := 4, pos := "law.go:78", after := #[{ on := 6, ground := Ground.data }, { on := 13, ground := Ground.data }], guard := none }) (v := ?_) rfl (by kernel_rfl) (by kernel_rfl) (by kernel_rfl) (fun _ _ _ h => h) (Or.inl ⟨by rfl, ?_⟩) (by assumption) ?_
  rotate_left
  · (intro w hSw; (try dsimp only at hSw); go_simp) <;> with_reducible rfl
  try simp only [Act.put, List.setIfInBounds_toArray, List.set_cons_zero, List.set_cons_succ]
  refine wpAnyH_take (i := 15) (oi := { dst := some 4, op := Op.assign (Operand.tmp 57), type := 4, pos := "law.go:78", after := #[{ on := 14, ground := Ground.data }, { on := 13, ground := Ground.chain }, { on := 0, ground := Ground.phase }, { on := 1, ground := Ground.phase }, { on := 2, ground := Ground.phase }, { on := 3, ground := Ground.phase }, { on := 4, ground := Ground.phase }, { on := 5, ground := Ground.phase }, { on := 6, ground := Ground.phase }, { on := 7, ground := Ground.phase }, { on := 8, ground := Ground.phase }, { on := 9, ground := Ground.phase }, { on := 10, ground := Ground.phase }, { on := 11, ground := Ground.phase }, { on := 12, ground := Ground.phase }, { on := 13, ground := Ground.phase }, { on := 14, ground := Ground.phase }], guard := none }) (v := ?_) rfl (by kernel_rfl) (by kernel_rfl) (by kernel_rfl) (fun _ _ _ h => h) (Or.inl ⟨by rfl, ?_⟩) (by assumption) ?_
  rotate_left
  · (intro w hSw; (try dsimp only at hSw); go_simp) <;> with_reducible rfl
  try simp only [Act.put, List.setIfInBounds_toArray, List.set_cons_zero, List.set_cons_succ]
  refine wpAnyH_done (by kernel_rfl) ?_ _
  clear hHeld
  go_wp2
  all_goals (go_ret; exact ⟨by first | rfl | simp, HOut.out _ HE.out⟩)

set_option maxHeartbeats 4000000 in
theorem does_touch_yes (hp : p ≠ 7) (h : Wo w W own p R) (f : Fit R T) (hT : T ≤ 3000000000000000000) (on id tm n : Int) {a b : List DcT} {y : DcT} (hm : R.dl = a ++ y :: b) (hid : id = y.1) :
    Calls Tryz.prog 7 #[.pointer (some ⟨R.x, 0, none⟩), .agg #[.int .i64 2, .int .i64 on, .int .i64 id, .int .i32 tm, .int .i64 n]] W fun e w' => e = .returned (.bool true) ∧ Hid (DoTo w W w' own p R T) := by
  have FF : Hid (Fit R T ∧ T ≤ 3000000000000000000) := ⟨f, hT⟩
  obtain ⟨bx, hbx⟩ : ∃ b, b = W.heap.size := ⟨_, rfl⟩
  obtain ⟨W0, hW0⟩ : ∃ W0, W0 = W.alloc (.cells #[.int .i64 2, .int .i64 on, .int .i64 id, .int .i32 tm, .int .i64 n] 38) := ⟨_, rfl⟩
  have hb0 : Below W.heap.size W W0 := by rw [hW0]; exact (Below.refl _ W).alloc (Nat.le_refl _) _
  have HX : Hid (W0.heap[bx]? = some (.cells #[.int .i64 2, .int .i64 on, .int .i64 id, .int .i32 tm, .int .i64 n] 38 (0, 0))) := by rw [hbx, hW0]; exact heap_alloc_new _ _
  have k0 : W0.cell? ⟨bx, 0, none⟩ = some (.int .i64 2) := by rw [cell_of_row _ _ 0 _ _ _ HX.out]; rfl
  have H0 : Hid (Wo w W0 (bxO own W.heap.size) p R) := h.box hp hb0
  have zb : bx < W0.heap.size := lt_of_block HX.out
  have zx : R.x < W0.heap.size := H0.out.lt (.inl rfl)
  have HOut : Hid (∀ w', DoTo w W0 w' (bxO own W.heap.size) p R T → DoTo w W w' own p R T) := fun w' q => q.out hb0
  have HO7 : Hid (bxO own W.heap.size bx ≠ p) := by rw [hbx]; unfold bxO; rw [if_neg (Nat.lt_irrefl _)]; exact fun e => hp e.symm
  have HM : Hid (bx ≠ R.m) := by
    have := h.lt (.inr (.inl (.inr (.inl rfl))))
    show bx ≠ R.m
    omega
  have g0 : W0.cell? ⟨R.x, 0, none⟩ = some (.pointer (some ⟨R.c, 0, none⟩)) ∧ W0.cell? ⟨R.x, 1, none⟩ = some (.pointer (some ⟨R.d, 0, none⟩)) ∧ W0.cell? ⟨bx, 2, none⟩ = some (.int .i64 id) ∧ W0.cell? ⟨bx, 3, none⟩ = some (.int .i32 tm) := ⟨H0.out.cx.1, H0.out.cx.2, opRow HX.out⟩
  have HW0 : Hid (W.alloc (.cells #[.int .i64 2, .int .i64 on, .int .i64 id, .int .i32 tm, .int .i64 n] 38) = W0) := hW0.symm
  have HBx : Hid (W.heap.size = bx) := hbx.symm
  clear h hb0 hW0 hbx f hT
  generalize bxO own W.heap.size = own1 at *
  have HMn : Hid (R.dl = a ++ y :: b) := hm
  have HId : Hid (id = y.1) := hid
  have HA : Hid (Calls Tryz.prog 14 #[.pointer (some ⟨R.c, 0, none⟩), .int .i64 id] W0.drew fun e w' => e = .returned (.int .i64 0) ∧ Hid (Wo w w' own1 p { R with l := putL R.l (y.1, y.2.1, upT (R.now + y.2.1) R.span) }) ∧ Hid (Kept W0.drew w' (fun k => k = R.m))) := by rw [hid]; exact wo_touch (H0.out.drewN 1) FF.out.1 FF.out.2 hm
  clear hm hid
  go_enter Tryz.func7, Tryz.ntmps7
  go_upto_region 1 with fail
  rw [HW0.out, HBx.out]
  clear HW0 HBx
  go_wp2_with fail
  refine wp_region_held_drew (S := (fun V => V.cell? ⟨R.x, 0, none⟩ = some (.pointer (some ⟨R.c, 0, none⟩)) ∧ V.cell? ⟨R.x, 1, none⟩ = some (.pointer (some ⟨R.d, 0, none⟩)) ∧ V.cell? ⟨bx, 2, none⟩ = some (.int .i64 id) ∧ V.cell? ⟨bx, 3, none⟩ = some (.int .i32 tm))) (by kernel_rfl) ?_ (fun hHeld => ?_)
  · exact g0
  refine wpAnyH_take (i := 0) (oi := { dst := some 43, op := Op.move (Operand.tmp 0), type := 24, pos := "law.go:78", after := #[], guard := none }) (v := ?_) rfl (by kernel_rfl) (by kernel_rfl) (by kernel_rfl) (fun _ _ _ h => h) (Or.inl ⟨by rfl, ?_⟩) (by assumption) ?_
  rotate_left
  · (intro w hSw; (try dsimp only at hSw); go_simp) <;> with_reducible rfl
  try simp only [Act.put, List.setIfInBounds_toArray, List.set_cons_zero, List.set_cons_succ]
  refine wpAnyH_take (i := 1) (oi := { dst := some 44, op := Op.nilCheck (Operand.tmp 43), type := 0, pos := "law.go:78", after := #[{ on := 0, ground := Ground.data }], guard := none }) (v := ?_) rfl (by kernel_rfl) (by kernel_rfl) (by kernel_rfl) (fun _ _ _ h => h) (Or.inl ⟨by rfl, ?_⟩) (by assumption) ?_
  rotate_left
  · (intro w hSw; (try dsimp only at hSw); go_simp) <;> with_reducible rfl
  try simp only [Act.put, List.setIfInBounds_toArray, List.set_cons_zero, List.set_cons_succ]
  refine wpAnyH_take (i := 2) (oi := { dst := some 45, op := Op.fieldAddr 36 (Operand.tmp 44) 0, type := 0, pos := "law.go:78", after := #[{ on := 1, ground := Ground.data }], guard := none }) (v := ?_) rfl (by kernel_rfl) (by kernel_rfl) (by kernel_rfl) (fun _ _ _ h => h) (Or.inl ⟨by rfl, ?_⟩) (by assumption) ?_
  rotate_left
  · (intro w hSw; (try dsimp only at hSw); go_simp) <;> with_reducible rfl
  try simp only [Act.put, List.setIfInBounds_toArray, List.set_cons_zero, List.set_cons_succ]
  refine wpAnyH_take (i := 3) (oi := { dst := some 46, op := Op.load 27 (Operand.tmp 45), type := 27, pos := "law.go:78", after := #[{ on := 2, ground := Ground.data }], guard := none }) (v := ?_) rfl (by kernel_rfl) (by kernel_rfl) (by kernel_rfl) (fun _ _ _ h => h) (Or.inl ⟨by rfl, ?_⟩) (by assumption) ?_
  rotate_left
  · (intro w hSw; (try dsimp only at hSw); go_simp) <;> with_reducible rfl
  try simp only [Act.put, List.setIfInBounds_toArray, List.set_cons_zero, List.set_cons_succ]
  refine wpAnyH_take (i := 4) (oi := { dst := some 47, op := Op.fieldAddr 38 (Operand.tmp 3) 2, type := 0, pos := "law.go:78", after := #[], guard := none }) (v := ?_) rfl (by kernel_rfl) (by kernel_rfl) (by kernel_rfl) (fun _ _ _ h => h) (Or.inl ⟨by rfl, ?_⟩) (by assumption) ?_
  rotate_left
  · (intro w hSw; (try dsimp only at hSw); go_simp) <;> with_reducible rfl
  try simp only [Act.put, List.setIfInBounds_toArray, List.set_cons_zero, List.set_cons_succ]
  refine wpAnyH_take (i := 5) (oi := { dst := some 48, op := Op.load 2 (Operand.tmp 47), type := 2, pos := "law.go:78", after := #[{ on := 4, ground := Ground.data }], guard := none }) (v := ?_) rfl (by kernel_rfl) (by kernel_rfl) (by kernel_rfl) (fun _ _ _ h => h) (Or.inl ⟨by rfl, ?_⟩) (by assumption) ?_
  rotate_left
  · (intro w hSw; (try dsimp only at hSw); go_simp) <;> with_reducible rfl
  try simp only [Act.put, List.setIfInBounds_toArray, List.set_cons_zero, List.set_cons_succ]
  refine wpAnyH_take (i := 7) (oi := { dst := some 50, op := Op.move (Operand.tmp 0), type := 24, pos := "law.go:78", after := #[], guard := none }) (v := ?_) rfl (by kernel_rfl) (by kernel_rfl) (by kernel_rfl) (fun _ _ _ h => h) (Or.inl ⟨by rfl, ?_⟩) (by assumption) ?_
  rotate_left
  · (intro w hSw; (try dsimp only at hSw); go_simp) <;> with_reducible rfl
  try simp only [Act.put, List.setIfInBounds_toArray, List.set_cons_zero, List.set_cons_succ]
  refine wpAnyH_take (i := 8) (oi := { dst := some 51, op := Op.nilCheck (Operand.tmp 50), type := 0, pos := "law.go:78", after := #[{ on := 7, ground := Ground.data }], guard := none }) (v := ?_) rfl (by kernel_rfl) (by kernel_rfl) (by kernel_rfl) (fun _ _ _ h => h) (Or.inl ⟨by rfl, ?_⟩) (by assumption) ?_
  rotate_left
  · (intro w hSw; (try dsimp only at hSw); go_simp) <;> with_reducible rfl
  try simp only [Act.put, List.setIfInBounds_toArray, List.set_cons_zero, List.set_cons_succ]
  refine wpAnyH_take (i := 9) (oi := { dst := some 52, op := Op.fieldAddr 36 (Operand.tmp 51) 1, type := 0, pos := "law.go:78", after := #[{ on := 8, ground := Ground.data }], guard := none }) (v := ?_) rfl (by kernel_rfl) (by kernel_rfl) (by kernel_rfl) (fun _ _ _ h => h) (Or.inl ⟨by rfl, ?_⟩) (by assumption) ?_
  rotate_left
  · (intro w hSw; (try dsimp only at hSw); go_simp) <;> with_reducible rfl
  try simp only [Act.put, List.setIfInBounds_toArray, List.set_cons_zero, List.set_cons_succ]
  refine wpAnyH_take (i := 10) (oi := { dst := some 53, op := Op.load 31 (Operand.tmp 52), type := 31, pos := "law.go:78", after := #[{ on := 9, ground := Ground.data }], guard := none }) (v := ?_) rfl (by kernel_rfl) (by kernel_rfl) (by kernel_rfl) (fun _ _ _ h => h) (Or.inl ⟨by rfl, ?_⟩) (by assumption) ?_
  rotate_left
  · (intro w hSw; (try dsimp only at hSw); go_simp) <;> with_reducible rfl
  try simp only [Act.put, List.setIfInBounds_toArray, List.set_cons_zero, List.set_cons_succ]
  refine wpAnyH_take (i := 11) (oi := { dst := some 54, op := Op.fieldAddr 38 (Operand.tmp 3) 2, type := 0, pos := "law.go:78", after := #[], guard := none }) (v := ?_) rfl (by kernel_rfl) (by kernel_rfl) (by kernel_rfl) (fun _ _ _ h => h) (Or.inl ⟨by rfl, ?_⟩) (by assumption) ?_
  rotate_left
  · (intro w hSw; (try dsimp only at hSw); go_simp) <;> with_reducible rfl
  try simp only [Act.put, List.setIfInBounds_toArray, List.set_cons_zero, List.set_cons_succ]
  refine wpAnyH_take (i := 12) (oi := { dst := some 55, op := Op.load 2 (Operand.tmp 54), type := 2, pos := "law.go:78", after := #[{ on := 11, ground := Ground.data }], guard := none }) (v := ?_) rfl (by kernel_rfl) (by kernel_rfl) (by kernel_rfl) (fun _ _ _ h => h) (Or.inl ⟨by rfl, ?_⟩) (by assumption) ?_
  rotate_left
  · (intro w hSw; (try dsimp only at hSw); go_simp) <;> with_reducible rfl
  try simp only [Act.put, List.setIfInBounds_toArray, List.set_cons_zero, List.set_cons_succ]
  refine wpAnyH_ready (rs := [6]) (by kernel_rfl) (by simp) ?_
  refine AllReadyH.cons (o := { dst := some 49, op := Op.call { callee := Callee.value (Operand.func 14), args := #[Operand.tmp 46, Operand.tmp 48], argTypes := #[27, 2] }, type := 28, pos := "law.go:78", after := #[{ on := 3, ground := Ground.data }, { on := 5, ground := Ground.data }], guard := none }) rfl (fun K hK => ?_) AllReadyH.nil
  go_simp
  refine Calls.mono HA.out ?_
  rintro y w1 ⟨rfl, HW1, HK1⟩
  have HX1 : Hid (w1.heap[bx]? = some (.cells #[.int .i64 2, .int .i64 on, .int .i64 id, .int .i32 tm, .int .i64 n] 38 (0, 0))) := HK1.out.heap (w := W0.drew) HX.out HM.out
  have g1 : w1.cell? ⟨R.x, 0, none⟩ = some (.pointer (some ⟨R.c, 0, none⟩)) ∧ w1.cell? ⟨R.x, 1, none⟩ = some (.pointer (some ⟨R.d, 0, none⟩)) ∧ w1.cell? ⟨bx, 2, none⟩ = some (.int .i64 id) ∧ w1.cell? ⟨bx, 3, none⟩ = some (.int .i32 tm) := ⟨HW1.out.cx.1, HW1.out.cx.2, opRow HX1.out⟩
  refine hK.out _ _ g1 (fun hHeld => ?_)
  clear hK K
  refine wpAnyH_ready (rs := [13]) (by kernel_rfl) (by simp) ?_
  refine AllReadyH.cons (o := { dst := some 56, op := Op.call { callee := Callee.value (Operand.func 15), args := #[Operand.tmp 53, Operand.tmp 55], argTypes := #[31, 2] }, type := 28, pos := "law.go:78", after := #[{ on := 10, ground := Ground.data }, { on := 12, ground := Ground.data }, { on := 6, ground := Ground.chain }], guard := none }) rfl (fun K hK => ?_) AllReadyH.nil
  go_simp
  refine Calls.mono (show Calls Tryz.prog 15 #[.pointer (some ⟨R.d, 0, none⟩), .int .i64 id] w1 (fun e w' => e = .returned (.int .i64 0) ∧ Hid (DoTo w w1 w' own1 p R T)) from by rw [HId.out]; exact doc_touch FF.out.1 HMn.out HW1.out) ?_
  rintro y2 w2 ⟨rfl, HD2⟩
  have hk2 := HD2.out
  obtain ⟨_, _, _, _, _, _, hkk⟩ := hk2
  have g2 : w2.cell? ⟨R.x, 0, none⟩ = some (.pointer (some ⟨R.c, 0, none⟩)) ∧ w2.cell? ⟨R.x, 1, none⟩ = some (.pointer (some ⟨R.d, 0, none⟩)) ∧ w2.cell? ⟨bx, 2, none⟩ = some (.int .i64 id) ∧ w2.cell? ⟨bx, 3, none⟩ = some (.int .i32 tm) := ⟨HD2.out.cx.1, HD2.out.cx.2, opRow (hkk.heap HX1.out HO7.out)⟩
  clear hkk
  have HE : Hid (DoTo w W0 w2 own1 p R T) := by
    obtain ⟨o', R', d1, d2, d3, d4, d5⟩ := HD2.out
    have hk1 : Kept W0 w1 (fun k => own1 k = p) := ((HK1.out.mono (fun k _ e => H0.out.kC k (.inr e))) : Kept W0.drew w1 (fun k => own1 k = p)).of_drew
    exact ⟨o', R', d1, d2, d3, fun k hk => d4 k (Nat.lt_of_lt_of_le hk HK1.out.size), hk1.trans d5 (fun _ _ e => e)⟩
  refine hK.out _ _ g2 (fun hHeld => ?_)
  clear hK K
  refine wpAnyH_take (i := 14) (oi := { dst := some 57, op := Op.binOp BinOp.eql 28 (Operand.tmp 49) (Operand.tmp 56) 28, type := 4, pos := "law.go:78", after := #[{ on := 6, ground := Ground.data }, { on := 13, ground := Ground.data }], guard := none }) (v := ?_) rfl (by kernel_rfl) (by kernel_rfl) (by kernel_rfl) (fun _ _ _ h => h) (Or.inl ⟨by rfl, ?_⟩) (by assumption) ?_
  rotate_left
  · (intro w hSw; (try dsimp only at hSw); go_simp) <;> with_reducible rfl
  try simp only [Act.put, List.setIfInBounds_toArray, List.set_cons_zero, List.set_cons_succ]
  refine wpAnyH_take (i := 15) (oi := { dst := some 4, op := Op.assign (Operand.tmp 57), type := 4, pos := "law.go:78", after := #[{ on := 14, ground := Ground.data }, { on := 13, ground := Ground.chain }, { on := 0, ground := Ground.phase }, { on := 1, ground := Ground.phase }, { on := 2, ground := Ground.phase }, { on := 3, ground := Ground.phase }, { on := 4, ground := Ground.phase }, { on := 5, ground := Ground.phase }, { on := 6, ground := Ground.phase }, { on := 7, ground := Ground.phase }, { on := 8, ground := Ground.phase }, { on := 9, ground := Ground.phase }, { on := 10, ground := Ground.phase }, { on := 11, ground := Ground.phase }, { on := 12, ground := Ground.phase }, { on := 13, ground := Ground.phase }, { on := 14, ground := Ground.phase }], guard := none }) (v := ?_) rfl (by kernel_rfl) (by kernel_rfl) (by kernel_rfl) (fun _ _ _ h => h) (Or.inl ⟨by rfl, ?_⟩) (by assumption) ?_
  rotate_left
  · (intro w hSw; (try dsimp only at hSw); go_simp) <;> with_reducible rfl
  try simp only [Act.put, List.setIfInBounds_toArray, List.set_cons_zero, List.set_cons_succ]
  refine wpAnyH_done (by kernel_rfl) ?_ _
  clear hHeld
  go_wp2
  all_goals (go_ret; exact ⟨by first | rfl | simp, HOut.out _ HE.out⟩)

theorem does_touch (hp : p ≠ 7) (h : Wo w W own p R) (f : Fit R T) (hT : T ≤ 3000000000000000000) (on id tm n : Int) :
    Calls Tryz.prog 7 #[.pointer (some ⟨R.x, 0, none⟩), .agg #[.int .i64 2, .int .i64 on, .int .i64 id, .int .i32 tm, .int .i64 n]] W fun e w' => e = .returned (.bool true) ∧ Hid (DoTo w W w' own p R T) := by
  by_cases hm : id ∈ idD R.dl
  · obtain ⟨a, y, b, hdl, e⟩ := idD_split hm
    exact does_touch_yes hp h f hT on id tm n hdl e.symm
  · exact does_touch_no hp h f hT on id tm n hm

set_option maxHeartbeats 4000000 in
theorem does_remove (hp : p ≠ 7) (h : Wo w W own p R) (f : Fit R T) (hT : T ≤ 3000000000000000000) (on id tm n : Int)  :
    Calls Tryz.prog 7 #[.pointer (some ⟨R.x, 0, none⟩), .agg #[.int .i64 3, .int .i64 on, .int .i64 id, .int .i32 tm, .int .i64 n]] W fun e w' => e = .returned (.bool true) ∧ Hid (DoTo w W w' own p R T) := by
  have FF : Hid (Fit R T ∧ T ≤ 3000000000000000000) := ⟨f, hT⟩
  obtain ⟨bx, hbx⟩ : ∃ b, b = W.heap.size := ⟨_, rfl⟩
  obtain ⟨W0, hW0⟩ : ∃ W0, W0 = W.alloc (.cells #[.int .i64 3, .int .i64 on, .int .i64 id, .int .i32 tm, .int .i64 n] 38) := ⟨_, rfl⟩
  have hb0 : Below W.heap.size W W0 := by rw [hW0]; exact (Below.refl _ W).alloc (Nat.le_refl _) _
  have HX : Hid (W0.heap[bx]? = some (.cells #[.int .i64 3, .int .i64 on, .int .i64 id, .int .i32 tm, .int .i64 n] 38 (0, 0))) := by rw [hbx, hW0]; exact heap_alloc_new _ _
  have k0 : W0.cell? ⟨bx, 0, none⟩ = some (.int .i64 3) := by rw [cell_of_row _ _ 0 _ _ _ HX.out]; rfl
  have H0 : Hid (Wo w W0 (bxO own W.heap.size) p R) := h.box hp hb0
  have zb : bx < W0.heap.size := lt_of_block HX.out
  have zx : R.x < W0.heap.size := H0.out.lt (.inl rfl)
  have HOut : Hid (∀ w', DoTo w W0 w' (bxO own W.heap.size) p R T → DoTo w W w' own p R T) := fun w' q => q.out hb0
  have HO7 : Hid (bxO own W.heap.size bx ≠ p) := by rw [hbx]; unfold bxO; rw [if_neg (Nat.lt_irrefl _)]; exact fun e => hp e.symm
  have HM : Hid (bx ≠ R.m) := by
    have := h.lt (.inr (.inl (.inr (.inl rfl))))
    show bx ≠ R.m
    omega
  have g0 : W0.cell? ⟨R.x, 0, none⟩ = some (.pointer (some ⟨R.c, 0, none⟩)) ∧ W0.cell? ⟨R.x, 1, none⟩ = some (.pointer (some ⟨R.d, 0, none⟩)) ∧ W0.cell? ⟨bx, 2, none⟩ = some (.int .i64 id) ∧ W0.cell? ⟨bx, 3, none⟩ = some (.int .i32 tm) := ⟨H0.out.cx.1, H0.out.cx.2, opRow HX.out⟩
  have HW0 : Hid (W.alloc (.cells #[.int .i64 3, .int .i64 on, .int .i64 id, .int .i32 tm, .int .i64 n] 38) = W0) := hW0.symm
  have HBx : Hid (W.heap.size = bx) := hbx.symm
  clear h hb0 hW0 hbx f hT
  generalize bxO own W.heap.size = own1 at *
  have HA : Hid _ := wo_remove (H0.out.drewN 1) FF.out.1 id
  go_enter Tryz.func7, Tryz.ntmps7
  go_upto_region 1 with fail
  rw [HW0.out, HBx.out]
  clear HW0 HBx
  go_wp2_with fail
  refine wp_region_held_drew (S := (fun V => V.cell? ⟨R.x, 0, none⟩ = some (.pointer (some ⟨R.c, 0, none⟩)) ∧ V.cell? ⟨R.x, 1, none⟩ = some (.pointer (some ⟨R.d, 0, none⟩)) ∧ V.cell? ⟨bx, 2, none⟩ = some (.int .i64 id) ∧ V.cell? ⟨bx, 3, none⟩ = some (.int .i32 tm))) (by kernel_rfl) ?_ (fun hHeld => ?_)
  · exact g0
  refine wpAnyH_take (i := 0) (oi := { dst := some 60, op := Op.move (Operand.tmp 0), type := 24, pos := "law.go:80", after := #[], guard := none }) (v := ?_) rfl (by kernel_rfl) (by kernel_rfl) (by kernel_rfl) (fun _ _ _ h => h) (Or.inl ⟨by rfl, ?_⟩) (by assumption) ?_
  rotate_left
  · (intro w hSw; (try dsimp only at hSw); go_simp) <;> with_reducible rfl
  try simp only [Act.put, List.setIfInBounds_toArray, List.set_cons_zero, List.set_cons_succ]
  refine wpAnyH_take (i := 1) (oi := { dst := some 61, op := Op.nilCheck (Operand.tmp 60), type := 0, pos := "law.go:80", after := #[{ on := 0, ground := Ground.data }], guard := none }) (v := ?_) rfl (by kernel_rfl) (by kernel_rfl) (by kernel_rfl) (fun _ _ _ h => h) (Or.inl ⟨by rfl, ?_⟩) (by assumption) ?_
  rotate_left
  · (intro w hSw; (try dsimp only at hSw); go_simp) <;> with_reducible rfl
  try simp only [Act.put, List.setIfInBounds_toArray, List.set_cons_zero, List.set_cons_succ]
  refine wpAnyH_take (i := 2) (oi := { dst := some 62, op := Op.fieldAddr 36 (Operand.tmp 61) 0, type := 0, pos := "law.go:80", after := #[{ on := 1, ground := Ground.data }], guard := none }) (v := ?_) rfl (by kernel_rfl) (by kernel_rfl) (by kernel_rfl) (fun _ _ _ h => h) (Or.inl ⟨by rfl, ?_⟩) (by assumption) ?_
  rotate_left
  · (intro w hSw; (try dsimp only at hSw); go_simp) <;> with_reducible rfl
  try simp only [Act.put, List.setIfInBounds_toArray, List.set_cons_zero, List.set_cons_succ]
  refine wpAnyH_take (i := 3) (oi := { dst := some 63, op := Op.load 27 (Operand.tmp 62), type := 27, pos := "law.go:80", after := #[{ on := 2, ground := Ground.data }], guard := none }) (v := ?_) rfl (by kernel_rfl) (by kernel_rfl) (by kernel_rfl) (fun _ _ _ h => h) (Or.inl ⟨by rfl, ?_⟩) (by assumption) ?_
  rotate_left
  · (intro w hSw; (try dsimp only at hSw); go_simp) <;> with_reducible rfl
  try simp only [Act.put, List.setIfInBounds_toArray, List.set_cons_zero, List.set_cons_succ]
  refine wpAnyH_take (i := 4) (oi := { dst := some 64, op := Op.fieldAddr 38 (Operand.tmp 3) 2, type := 0, pos := "law.go:80", after := #[], guard := none }) (v := ?_) rfl (by kernel_rfl) (by kernel_rfl) (by kernel_rfl) (fun _ _ _ h => h) (Or.inl ⟨by rfl, ?_⟩) (by assumption) ?_
  rotate_left
  · (intro w hSw; (try dsimp only at hSw); go_simp) <;> with_reducible rfl
  try simp only [Act.put, List.setIfInBounds_toArray, List.set_cons_zero, List.set_cons_succ]
  refine wpAnyH_take (i := 5) (oi := { dst := some 65, op := Op.load 2 (Operand.tmp 64), type := 2, pos := "law.go:80", after := #[{ on := 4, ground := Ground.data }], guard := none }) (v := ?_) rfl (by kernel_rfl) (by kernel_rfl) (by kernel_rfl) (fun _ _ _ h => h) (Or.inl ⟨by rfl, ?_⟩) (by assumption) ?_
  rotate_left
  · (intro w hSw; (try dsimp only at hSw); go_simp) <;> with_reducible rfl
  try simp only [Act.put, List.setIfInBounds_toArray, List.set_cons_zero, List.set_cons_succ]
  refine wpAnyH_take (i := 7) (oi := { dst := some 67, op := Op.move (Operand.tmp 0), type := 24, pos := "law.go:80", after := #[], guard := none }) (v := ?_) rfl (by kernel_rfl) (by kernel_rfl) (by kernel_rfl) (fun _ _ _ h => h) (Or.inl ⟨by rfl, ?_⟩) (by assumption) ?_
  rotate_left
  · (intro w hSw; (try dsimp only at hSw); go_simp) <;> with_reducible rfl
  try simp only [Act.put, List.setIfInBounds_toArray, List.set_cons_zero, List.set_cons_succ]
  refine wpAnyH_take (i := 8) (oi := { dst := some 68, op := Op.nilCheck (Operand.tmp 67), type := 0, pos := "law.go:80", after := #[{ on := 7, ground := Ground.data }], guard := none }) (v := ?_) rfl (by kernel_rfl) (by kernel_rfl) (by kernel_rfl) (fun _ _ _ h => h) (Or.inl ⟨by rfl, ?_⟩) (by assumption) ?_
  rotate_left
  · (intro w hSw; (try dsimp only at hSw); go_simp) <;> with_reducible rfl
  try simp only [Act.put, List.setIfInBounds_toArray, List.set_cons_zero, List.set_cons_succ]
  refine wpAnyH_take (i := 9) (oi := { dst := some 69, op := Op.fieldAddr 36 (Operand.tmp 68) 1, type := 0, pos := "law.go:80", after := #[{ on := 8, ground := Ground.data }], guard := none }) (v := ?_) rfl (by kernel_rfl) (by kernel_rfl) (by kernel_rfl) (fun _ _ _ h => h) (Or.inl ⟨by rfl, ?_⟩) (by assumption) ?_
  rotate_left
  · (intro w hSw; (try dsimp only at hSw); go_simp) <;> with_reducible rfl
  try simp only [Act.put, List.setIfInBounds_toArray, List.set_cons_zero, List.set_cons_succ]
  refine wpAnyH_take (i := 10) (oi := { dst := some 70, op := Op.load 31 (Operand.tmp 69), type := 31, pos := "law.go:80", after := #[{ on := 9, ground := Ground.data }], guard := none }) (v := ?_) rfl (by kernel_rfl) (by kernel_rfl) (by kernel_rfl) (fun _ _ _ h => h) (Or.inl ⟨by rfl, ?_⟩) (by assumption) ?_
  rotate_left
  · (intro w hSw; (try dsimp only at hSw); go_simp) <;> with_reducible rfl
  try simp only [Act.put, List.setIfInBounds_toArray, List.set_cons_zero, List.set_cons_succ]
  refine wpAnyH_take (i := 11) (oi := { dst := some 71, op := Op.fieldAddr 38 (Operand.tmp 3) 2, type := 0, pos := "law.go:80", after := #[], guard := none }) (v := ?_) rfl (by kernel_rfl) (by kernel_rfl) (by kernel_rfl) (fun _ _ _ h => h) (Or.inl ⟨by rfl, ?_⟩) (by assumption) ?_
  rotate_left
  · (intro w hSw; (try dsimp only at hSw); go_simp) <;> with_reducible rfl
  try simp only [Act.put, List.setIfInBounds_toArray, List.set_cons_zero, List.set_cons_succ]
  refine wpAnyH_take (i := 12) (oi := { dst := some 72, op := Op.load 2 (Operand.tmp 71), type := 2, pos := "law.go:80", after := #[{ on := 11, ground := Ground.data }], guard := none }) (v := ?_) rfl (by kernel_rfl) (by kernel_rfl) (by kernel_rfl) (fun _ _ _ h => h) (Or.inl ⟨by rfl, ?_⟩) (by assumption) ?_
  rotate_left
  · (intro w hSw; (try dsimp only at hSw); go_simp) <;> with_reducible rfl
  try simp only [Act.put, List.setIfInBounds_toArray, List.set_cons_zero, List.set_cons_succ]
  refine wpAnyH_ready (rs := [6]) (by kernel_rfl) (by simp) ?_
  refine AllReadyH.cons (o := { dst := some 66, op := Op.call { callee := Callee.value (Operand.func 16), args := #[Operand.tmp 63, Operand.tmp 65], argTypes := #[27, 2] }, type := 4, pos := "law.go:80", after := #[{ on := 3, ground := Ground.data }, { on := 5, ground := Ground.data }], guard := none }) rfl (fun K hK => ?_) AllReadyH.nil
  go_simp
  refine Calls.mono HA.out ?_
  rintro y w1 ⟨rfl, HW1, HK1⟩
  have HX1 : Hid (w1.heap[bx]? = some (.cells #[.int .i64 3, .int .i64 on, .int .i64 id, .int .i32 tm, .int .i64 n] 38 (0, 0))) := HK1.out.heap (w := W0.drew) HX.out HM.out
  have g1 : w1.cell? ⟨R.x, 0, none⟩ = some (.pointer (some ⟨R.c, 0, none⟩)) ∧ w1.cell? ⟨R.x, 1, none⟩ = some (.pointer (some ⟨R.d, 0, none⟩)) ∧ w1.cell? ⟨bx, 2, none⟩ = some (.int .i64 id) ∧ w1.cell? ⟨bx, 3, none⟩ = some (.int .i32 tm) := ⟨HW1.out.cx.1, HW1.out.cx.2, opRow HX1.out⟩
  refine hK.out _ _ g1 (fun hHeld => ?_)
  clear hK K
  refine wpAnyH_ready (rs := [13]) (by kernel_rfl) (by simp) ?_
  refine AllReadyH.cons (o := { dst := some 73, op := Op.call { callee := Callee.value (Operand.func 17), args := #[Operand.tmp 70, Operand.tmp 72], argTypes := #[31, 2] }, type := 4, pos := "law.go:80", after := #[{ on := 10, ground := Ground.data }, { on := 12, ground := Ground.data }, { on := 6, ground := Ground.chain }], guard := none }) rfl (fun K hK => ?_) AllReadyH.nil
  go_simp
  refine Calls.mono (doc_remove FF.out.1 id HW1.out) ?_
  rintro y2 w2 ⟨rfl, HD2⟩
  have hk2 := HD2.out
  obtain ⟨_, _, _, _, _, _, hkk⟩ := hk2
  have g2 : w2.cell? ⟨R.x, 0, none⟩ = some (.pointer (some ⟨R.c, 0, none⟩)) ∧ w2.cell? ⟨R.x, 1, none⟩ = some (.pointer (some ⟨R.d, 0, none⟩)) ∧ w2.cell? ⟨bx, 2, none⟩ = some (.int .i64 id) ∧ w2.cell? ⟨bx, 3, none⟩ = some (.int .i32 tm) := ⟨HD2.out.cx.1, HD2.out.cx.2, opRow (hkk.heap HX1.out HO7.out)⟩
  clear hkk
  have HE : Hid (DoTo w W0 w2 own1 p R T) := by
    obtain ⟨o', R', d1, d2, d3, d4, d5⟩ := HD2.out
    have hk1 : Kept W0 w1 (fun k => own1 k = p) := ((HK1.out.mono (fun k _ e => H0.out.kC k (.inr e))) : Kept W0.drew w1 (fun k => own1 k = p)).of_drew
    exact ⟨o', R', d1, d2, d3, fun k hk => d4 k (Nat.lt_of_lt_of_le hk HK1.out.size), hk1.trans d5 (fun _ _ e => e)⟩
  refine hK.out _ _ g2 (fun hHeld => ?_)
  clear hK K
  refine wpAnyH_take (i := 14) (oi := { dst := some 74, op := Op.binOp BinOp.eql 4 (Operand.tmp 66) (Operand.tmp 73) 4, type := 4, pos := "law.go:80", after := #[{ on := 6, ground := Ground.data }, { on := 13, ground := Ground.data }], guard := none }) (v := ?_) rfl (by kernel_rfl) (by kernel_rfl) (by kernel_rfl) (fun _ _ _ h => h) (Or.inl ⟨by rfl, ?_⟩) (by assumption) ?_
  rotate_left
  · (intro w hSw; (try dsimp only at hSw); go_simp) <;> with_reducible rfl
  try simp only [Act.put, List.setIfInBounds_toArray, List.set_cons_zero, List.set_cons_succ]
  refine wpAnyH_take (i := 15) (oi := { dst := some 4, op := Op.assign (Operand.tmp 74), type := 4, pos := "law.go:80", after := #[{ on := 14, ground := Ground.data }, { on := 13, ground := Ground.chain }, { on := 0, ground := Ground.phase }, { on := 1, ground := Ground.phase }, { on := 2, ground := Ground.phase }, { on := 3, ground := Ground.phase }, { on := 4, ground := Ground.phase }, { on := 5, ground := Ground.phase }, { on := 6, ground := Ground.phase }, { on := 7, ground := Ground.phase }, { on := 8, ground := Ground.phase }, { on := 9, ground := Ground.phase }, { on := 10, ground := Ground.phase }, { on := 11, ground := Ground.phase }, { on := 12, ground := Ground.phase }, { on := 13, ground := Ground.phase }, { on := 14, ground := Ground.phase }], guard := none }) (v := ?_) rfl (by kernel_rfl) (by kernel_rfl) (by kernel_rfl) (fun _ _ _ h => h) (Or.inl ⟨by rfl, ?_⟩) (by assumption) ?_
  rotate_left
  · (intro w hSw; (try dsimp only at hSw); go_simp) <;> with_reducible rfl
  try simp only [Act.put, List.setIfInBounds_toArray, List.set_cons_zero, List.set_cons_succ]
  refine wpAnyH_done (by kernel_rfl) ?_ _
  clear hHeld
  generalize decide (id ∈ idD R.dl) = av at *
  have hav : (av == av) = true := by simp
  go_wp2
  all_goals (go_ret; exact ⟨by first | rfl | simp, HOut.out _ HE.out⟩)

set_option maxHeartbeats 4000000 in
theorem does_due (hp : p ≠ 7) (h : Wo w W own p R) (f : Fit R T) (hT : T ≤ 3000000000000000000) (on id tm n : Int)  :
    Calls Tryz.prog 7 #[.pointer (some ⟨R.x, 0, none⟩), .agg #[.int .i64 5, .int .i64 on, .int .i64 id, .int .i32 tm, .int .i64 n]] W fun e w' => e = .returned (.bool true) ∧ Hid (DoTo w W w' own p R T) := by
  have FF : Hid (Fit R T ∧ T ≤ 3000000000000000000) := ⟨f, hT⟩
  obtain ⟨bx, hbx⟩ : ∃ b, b = W.heap.size := ⟨_, rfl⟩
  obtain ⟨W0, hW0⟩ : ∃ W0, W0 = W.alloc (.cells #[.int .i64 5, .int .i64 on, .int .i64 id, .int .i32 tm, .int .i64 n] 38) := ⟨_, rfl⟩
  have hb0 : Below W.heap.size W W0 := by rw [hW0]; exact (Below.refl _ W).alloc (Nat.le_refl _) _
  have HX : Hid (W0.heap[bx]? = some (.cells #[.int .i64 5, .int .i64 on, .int .i64 id, .int .i32 tm, .int .i64 n] 38 (0, 0))) := by rw [hbx, hW0]; exact heap_alloc_new _ _
  have k0 : W0.cell? ⟨bx, 0, none⟩ = some (.int .i64 5) := by rw [cell_of_row _ _ 0 _ _ _ HX.out]; rfl
  have H0 : Hid (Wo w W0 (bxO own W.heap.size) p R) := h.box hp hb0
  have zb : bx < W0.heap.size := lt_of_block HX.out
  have zx : R.x < W0.heap.size := H0.out.lt (.inl rfl)
  have HOut : Hid (∀ w', DoTo w W0 w' (bxO own W.heap.size) p R T → DoTo w W w' own p R T) := fun w' q => q.out hb0
  have HO7 : Hid (bxO own W.heap.size bx ≠ p) := by rw [hbx]; unfold bxO; rw [if_neg (Nat.lt_irrefl _)]; exact fun e => hp e.symm
  have HM : Hid (bx ≠ R.m) := by
    have := h.lt (.inr (.inl (.inr (.inl rfl))))
    show bx ≠ R.m
    omega
  have g0 : W0.cell? ⟨R.x, 0, none⟩ = some (.pointer (some ⟨R.c, 0, none⟩)) ∧ W0.cell? ⟨R.x, 1, none⟩ = some (.pointer (some ⟨R.d, 0, none⟩)) ∧ W0.cell? ⟨bx, 2, none⟩ = some (.int .i64 id) ∧ W0.cell? ⟨bx, 3, none⟩ = some (.int .i32 tm) := ⟨H0.out.cx.1, H0.out.cx.2, opRow HX.out⟩
  have HW0 : Hid (W.alloc (.cells #[.int .i64 5, .int .i64 on, .int .i64 id, .int .i32 tm, .int .i64 n] 38) = W0) := hW0.symm
  have HBx : Hid (W.heap.size = bx) := hbx.symm
  clear h hb0 hW0 hbx f hT
  generalize bxO own W.heap.size = own1 at *
  have HA : Hid _ := wo_due (H0.out.drewN 1) FF.out.1 id
  go_enter Tryz.func7, Tryz.ntmps7
  go_upto_region 1 with fail
  rw [HW0.out, HBx.out]
  clear HW0 HBx
  go_wp2_with fail
  refine wp_region_held_drew (S := (fun V => V.cell? ⟨R.x, 0, none⟩ = some (.pointer (some ⟨R.c, 0, none⟩)) ∧ V.cell? ⟨R.x, 1, none⟩ = some (.pointer (some ⟨R.d, 0, none⟩)) ∧ V.cell? ⟨bx, 2, none⟩ = some (.int .i64 id) ∧ V.cell? ⟨bx, 3, none⟩ = some (.int .i32 tm))) (by kernel_rfl) ?_ (fun hHeld => ?_)
  · exact g0
  refine wpAnyH_take (i := 0) (oi := { dst := some 132, op := Op.move (Operand.tmp 0), type := 24, pos := "law.go:94", after := #[], guard := none }) (v := ?_) rfl (by kernel_rfl) (by kernel_rfl) (by kernel_rfl) (fun _ _ _ h => h) (Or.inl ⟨by rfl, ?_⟩) (by assumption) ?_
  rotate_left
  · (intro w hSw; (try dsimp only at hSw); go_simp) <;> with_reducible rfl
  try simp only [Act.put, List.setIfInBounds_toArray, List.set_cons_zero, List.set_cons_succ]
  refine wpAnyH_take (i := 1) (oi := { dst := some 133, op := Op.nilCheck (Operand.tmp 132), type := 0, pos := "law.go:94", after := #[{ on := 0, ground := Ground.data }], guard := none }) (v := ?_) rfl (by kernel_rfl) (by kernel_rfl) (by kernel_rfl) (fun _ _ _ h => h) (Or.inl ⟨by rfl, ?_⟩) (by assumption) ?_
  rotate_left
  · (intro w hSw; (try dsimp only at hSw); go_simp) <;> with_reducible rfl
  try simp only [Act.put, List.setIfInBounds_toArray, List.set_cons_zero, List.set_cons_succ]
  refine wpAnyH_take (i := 2) (oi := { dst := some 134, op := Op.fieldAddr 36 (Operand.tmp 133) 0, type := 0, pos := "law.go:94", after := #[{ on := 1, ground := Ground.data }], guard := none }) (v := ?_) rfl (by kernel_rfl) (by kernel_rfl) (by kernel_rfl) (fun _ _ _ h => h) (Or.inl ⟨by rfl, ?_⟩) (by assumption) ?_
  rotate_left
  · (intro w hSw; (try dsimp only at hSw); go_simp) <;> with_reducible rfl
  try simp only [Act.put, List.setIfInBounds_toArray, List.set_cons_zero, List.set_cons_succ]
  refine wpAnyH_take (i := 3) (oi := { dst := some 135, op := Op.load 27 (Operand.tmp 134), type := 27, pos := "law.go:94", after := #[{ on := 2, ground := Ground.data }], guard := none }) (v := ?_) rfl (by kernel_rfl) (by kernel_rfl) (by kernel_rfl) (fun _ _ _ h => h) (Or.inl ⟨by rfl, ?_⟩) (by assumption) ?_
  rotate_left
  · (intro w hSw; (try dsimp only at hSw); go_simp) <;> with_reducible rfl
  try simp only [Act.put, List.setIfInBounds_toArray, List.set_cons_zero, List.set_cons_succ]
  refine wpAnyH_take (i := 4) (oi := { dst := some 136, op := Op.fieldAddr 38 (Operand.tmp 3) 2, type := 0, pos := "law.go:94", after := #[], guard := none }) (v := ?_) rfl (by kernel_rfl) (by kernel_rfl) (by kernel_rfl) (fun _ _ _ h => h) (Or.inl ⟨by rfl, ?_⟩) (by assumption) ?_
  rotate_left
  · (intro w hSw; (try dsimp only at hSw); go_simp) <;> with_reducible rfl
  try simp only [Act.put, List.setIfInBounds_toArray, List.set_cons_zero, List.set_cons_succ]
  refine wpAnyH_take (i := 5) (oi := { dst := some 137, op := Op.load 2 (Operand.tmp 136), type := 2, pos := "law.go:94", after := #[{ on := 4, ground := Ground.data }], guard := none }) (v := ?_) rfl (by kernel_rfl) (by kernel_rfl) (by kernel_rfl) (fun _ _ _ h => h) (Or.inl ⟨by rfl, ?_⟩) (by assumption) ?_
  rotate_left
  · (intro w hSw; (try dsimp only at hSw); go_simp) <;> with_reducible rfl
  try simp only [Act.put, List.setIfInBounds_toArray, List.set_cons_zero, List.set_cons_succ]
  refine wpAnyH_ready (rs := [6]) (by kernel_rfl) (by simp) ?_
  refine AllReadyH.cons (o := { dst := some 138, op := Op.call { callee := Callee.value (Operand.func 21), args := #[Operand.tmp 135, Operand.tmp 137], argTypes := #[27, 2] }, type := 56, pos := "law.go:94", after := #[{ on := 3, ground := Ground.data }, { on := 5, ground := Ground.data }], guard := none }) rfl (fun K hK => ?_) AllReadyH.nil
  go_simp
  refine Calls.mono HA.out ?_
  rintro y w1 ⟨rfl, HW1, HB1⟩
  have HX1 : Hid (w1.heap[bx]? = some (.cells #[.int .i64 5, .int .i64 on, .int .i64 id, .int .i32 tm, .int .i64 n] 38 (0, 0))) := (kept_of_belowS HB1.out : Kept W0.drew w1 (fun _ => False)).heap (w := W0.drew) HX.out (fun e => e)
  have HK1 : Hid (Kept W0 w1 (fun _ => False)) := (kept_of_belowS HB1.out : Kept W0.drew w1 (fun _ => False)).of_drew
  have g1 : w1.cell? ⟨R.x, 0, none⟩ = some (.pointer (some ⟨R.c, 0, none⟩)) ∧ w1.cell? ⟨R.x, 1, none⟩ = some (.pointer (some ⟨R.d, 0, none⟩)) ∧ w1.cell? ⟨bx, 2, none⟩ = some (.int .i64 id) ∧ w1.cell? ⟨bx, 3, none⟩ = some (.int .i32 tm) := ⟨HW1.out.cx.1, HW1.out.cx.2, opRow HX1.out⟩
  refine hK.out _ _ g1 (fun hHeld => ?_)
  clear hK K
  refine wpAnyH_take (i := 7) (oi := { dst := some 131, op := Op.move (Operand.tmp 138), type := 56, pos := "law.go:94", after := #[{ on := 6, ground := Ground.data }], guard := none }) (v := ?_) rfl (by kernel_rfl) (by kernel_rfl) (by kernel_rfl) (fun _ _ _ h => h) (Or.inl ⟨by rfl, ?_⟩) (by assumption) ?_
  rotate_left
  · (intro w hSw; (try dsimp only at hSw); go_simp) <;> with_reducible rfl
  try simp only [Act.put, List.setIfInBounds_toArray, List.set_cons_zero, List.set_cons_succ]
  refine wpAnyH_take (i := 8) (oi := { dst := some 139, op := Op.extract (Operand.tmp 131) 0, type := 3, pos := "law.go:94", after := #[{ on := 7, ground := Ground.data }], guard := none }) (v := ?_) rfl (by kernel_rfl) (by kernel_rfl) (by kernel_rfl) (fun _ _ _ h => h) (Or.inl ⟨by rfl, ?_⟩) (by assumption) ?_
  rotate_left
  · (intro w hSw; (try dsimp only at hSw); go_simp) <;> with_reducible rfl
  try simp only [Act.put, List.setIfInBounds_toArray, List.set_cons_zero, List.set_cons_succ]
  refine wpAnyH_take (i := 9) (oi := { dst := some 140, op := Op.extract (Operand.tmp 131) 1, type := 4, pos := "law.go:94", after := #[{ on := 7, ground := Ground.data }, { on := 10, ground := Ground.gcOnly Departure.lateStores }], guard := none }) (v := ?_) rfl (by kernel_rfl) (by kernel_rfl) (by kernel_rfl) (fun _ _ _ h => h) (Or.inl ⟨by rfl, ?_⟩) (by assumption) ?_
  rotate_left
  · (intro w hSw; (try dsimp only at hSw); go_simp) <;> with_reducible rfl
  try simp only [Act.put, List.setIfInBounds_toArray, List.set_cons_zero, List.set_cons_succ]
  refine wpAnyH_take (i := 10) (oi := { dst := some 8, op := Op.assign (Operand.tmp 139), type := 3, pos := "law.go:94", after := #[{ on := 8, ground := Ground.data }, { on := 6, ground := Ground.chain }, { on := 0, ground := Ground.phase }, { on := 1, ground := Ground.phase }, { on := 2, ground := Ground.phase }, { on := 3, ground := Ground.phase }, { on := 4, ground := Ground.phase }, { on := 5, ground := Ground.phase }, { on := 6, ground := Ground.phase }, { on := 7, ground := Ground.phase }, { on := 8, ground := Ground.phase }, { on := 9, ground := Ground.textOnly Departure.lateStores }], guard := none }) (v := ?_) rfl (by kernel_rfl) (by kernel_rfl) (by kernel_rfl) (fun _ _ _ h => h) (Or.inl ⟨by rfl, ?_⟩) (by assumption) ?_
  rotate_left
  · (intro w hSw; (try dsimp only at hSw); go_simp) <;> with_reducible rfl
  try simp only [Act.put, List.setIfInBounds_toArray, List.set_cons_zero, List.set_cons_succ]
  refine wpAnyH_take (i := 11) (oi := { dst := some 9, op := Op.assign (Operand.tmp 140), type := 4, pos := "law.go:94", after := #[{ on := 9, ground := Ground.data }, { on := 10, ground := Ground.chain }, { on := 0, ground := Ground.phase }, { on := 1, ground := Ground.phase }, { on := 2, ground := Ground.phase }, { on := 3, ground := Ground.phase }, { on := 4, ground := Ground.phase }, { on := 5, ground := Ground.phase }, { on := 6, ground := Ground.phase }, { on := 7, ground := Ground.phase }, { on := 8, ground := Ground.phase }, { on := 9, ground := Ground.phase }, { on := 10, ground := Ground.phase }], guard := none }) (v := ?_) rfl (by kernel_rfl) (by kernel_rfl) (by kernel_rfl) (fun _ _ _ h => h) (Or.inl ⟨by rfl, ?_⟩) (by assumption) ?_
  rotate_left
  · (intro w hSw; (try dsimp only at hSw); go_simp) <;> with_reducible rfl
  try simp only [Act.put, List.setIfInBounds_toArray, List.set_cons_zero, List.set_cons_succ]
  refine wpAnyH_done (by kernel_rfl) ?_ _
  clear hHeld
  have HB : Hid _ := doc_due (HW1.out.drewN 1) FF.out.1 FF.out.2 id
  have zb1 : bx < w1.heap.size := lt_of_block HX1.out
  have zx1 : R.x < w1.heap.size := HW1.out.lt (.inl rfl)
  go_wp2_with fail
  refine wp_region_held_drew (S := (fun V => V.cell? ⟨R.x, 0, none⟩ = some (.pointer (some ⟨R.c, 0, none⟩)) ∧ V.cell? ⟨R.x, 1, none⟩ = some (.pointer (some ⟨R.d, 0, none⟩)) ∧ V.cell? ⟨bx, 2, none⟩ = some (.int .i64 id) ∧ V.cell? ⟨bx, 3, none⟩ = some (.int .i32 tm))) (by kernel_rfl) ?_ (fun hHeld => ?_)
  · exact g1
  refine wpAnyH_take (i := 0) (oi := { dst := some 142, op := Op.move (Operand.tmp 0), type := 24, pos := "law.go:95", after := #[], guard := none }) (v := ?_) rfl (by kernel_rfl) (by kernel_rfl) (by kernel_rfl) (fun _ _ _ h => h) (Or.inl ⟨by rfl, ?_⟩) (by assumption) ?_
  rotate_left
  · (intro w hSw; (try dsimp only at hSw); go_simp) <;> with_reducible rfl
  try simp only [Act.put, List.setIfInBounds_toArray, List.set_cons_zero, List.set_cons_succ]
  refine wpAnyH_take (i := 1) (oi := { dst := some 143, op := Op.nilCheck (Operand.tmp 142), type := 0, pos := "law.go:95", after := #[{ on := 0, ground := Ground.data }], guard := none }) (v := ?_) rfl (by kernel_rfl) (by kernel_rfl) (by kernel_rfl) (fun _ _ _ h => h) (Or.inl ⟨by rfl, ?_⟩) (by assumption) ?_
  rotate_left
  · (intro w hSw; (try dsimp only at hSw); go_simp) <;> with_reducible rfl
  try simp only [Act.put, List.setIfInBounds_toArray, List.set_cons_zero, List.set_cons_succ]
  refine wpAnyH_take (i := 2) (oi := { dst := some 144, op := Op.fieldAddr 36 (Operand.tmp 143) 1, type := 0, pos := "law.go:95", after := #[{ on := 1, ground := Ground.data }], guard := none }) (v := ?_) rfl (by kernel_rfl) (by kernel_rfl) (by kernel_rfl) (fun _ _ _ h => h) (Or.inl ⟨by rfl, ?_⟩) (by assumption) ?_
  rotate_left
  · (intro w hSw; (try dsimp only at hSw); go_simp) <;> with_reducible rfl
  try simp only [Act.put, List.setIfInBounds_toArray, List.set_cons_zero, List.set_cons_succ]
  refine wpAnyH_take (i := 3) (oi := { dst := some 145, op := Op.load 31 (Operand.tmp 144), type := 31, pos := "law.go:95", after := #[{ on := 2, ground := Ground.data }], guard := none }) (v := ?_) rfl (by kernel_rfl) (by kernel_rfl) (by kernel_rfl) (fun _ _ _ h => h) (Or.inl ⟨by rfl, ?_⟩) (by assumption) ?_
  rotate_left
  · (intro w hSw; (try dsimp only at hSw); go_simp) <;> with_reducible rfl
  try simp only [Act.put, List.setIfInBounds_toArray, List.set_cons_zero, List.set_cons_succ]
  refine wpAnyH_take (i := 4) (oi := { dst := some 146, op := Op.fieldAddr 38 (Operand.tmp 3) 2, type := 0, pos := "law.go:95", after := #[], guard := none }) (v := ?_) rfl (by kernel_rfl) (by kernel_rfl) (by kernel_rfl) (fun _ _ _ h => h) (Or.inl ⟨by rfl, ?_⟩) (by assumption) ?_
  rotate_left
  · (intro w hSw; (try dsimp only at hSw); go_simp) <;> with_reducible rfl
  try simp only [Act.put, List.setIfInBounds_toArray, List.set_cons_zero, List.set_cons_succ]
  refine wpAnyH_take (i := 5) (oi := { dst := some 147, op := Op.load 2 (Operand.tmp 146), type := 2, pos := "law.go:95", after := #[{ on := 4, ground := Ground.data }], guard := none }) (v := ?_) rfl (by kernel_rfl) (by kernel_rfl) (by kernel_rfl) (fun _ _ _ h => h) (Or.inl ⟨by rfl, ?_⟩) (by assumption) ?_
  rotate_left
  · (intro w hSw; (try dsimp only at hSw); go_simp) <;> with_reducible rfl
  try simp only [Act.put, List.setIfInBounds_toArray, List.set_cons_zero, List.set_cons_succ]
  refine wpAnyH_ready (rs := [6]) (by kernel_rfl) (by simp) ?_
  refine AllReadyH.cons (o := { dst := some 148, op := Op.call { callee := Callee.value (Operand.func 22), args := #[Operand.tmp 145, Operand.tmp 147], argTypes := #[31, 2] }, type := 56, pos := "law.go:95", after := #[{ on := 3, ground := Ground.data }, { on := 5, ground := Ground.data }], guard := none }) rfl (fun K hK => ?_) AllReadyH.nil
  go_simp
  refine Calls.mono HB.out ?_
  rintro y2 w2 ⟨rfl, HW2, HK2⟩
  have g2 : w2.cell? ⟨R.x, 0, none⟩ = some (.pointer (some ⟨R.c, 0, none⟩)) ∧ w2.cell? ⟨R.x, 1, none⟩ = some (.pointer (some ⟨R.d, 0, none⟩)) ∧ w2.cell? ⟨bx, 2, none⟩ = some (.int .i64 id) ∧ w2.cell? ⟨bx, 3, none⟩ = some (.int .i32 tm) := ⟨HW2.out.cx.1, HW2.out.cx.2, opRow (HK2.out.heap (w := w1.drew) HX1.out (fun e => e))⟩
  have HE : Hid (DoTo w W0 w2 own1 p R T) := ⟨own1, R, HW2.out, FF.out.1, ⟨rfl, rfl, rfl⟩, fun _ _ => rfl, (HK1.out.trans HK2.out.of_drew (fun _ _ e => e)).mono (fun _ _ e => e.elim)⟩
  refine hK.out _ _ g2 (fun hHeld => ?_)
  clear hK K
  refine wpAnyH_take (i := 7) (oi := { dst := some 141, op := Op.move (Operand.tmp 148), type := 56, pos := "law.go:95", after := #[{ on := 6, ground := Ground.data }], guard := none }) (v := ?_) rfl (by kernel_rfl) (by kernel_rfl) (by kernel_rfl) (fun _ _ _ h => h) (Or.inl ⟨by rfl, ?_⟩) (by assumption) ?_
  rotate_left
  · (intro w hSw; (try dsimp only at hSw); go_simp) <;> with_reducible rfl
  try simp only [Act.put, List.setIfInBounds_toArray, List.set_cons_zero, List.set_cons_succ]
  refine wpAnyH_take (i := 8) (oi := { dst := some 149, op := Op.extract (Operand.tmp 141) 0, type := 3, pos := "law.go:95", after := #[{ on := 7, ground := Ground.data }], guard := none }) (v := ?_) rfl (by kernel_rfl) (by kernel_rfl) (by kernel_rfl) (fun _ _ _ h => h) (Or.inl ⟨by rfl, ?_⟩) (by assumption) ?_
  rotate_left
  · (intro w hSw; (try dsimp only at hSw); go_simp) <;> with_reducible rfl
  try simp only [Act.put, List.setIfInBounds_toArray, List.set_cons_zero, List.set_cons_succ]
  refine wpAnyH_take (i := 9) (oi := { dst := some 150, op := Op.extract (Operand.tmp 141) 1, type := 4, pos := "law.go:95", after := #[{ on := 7, ground := Ground.data }, { on := 10, ground := Ground.gcOnly Departure.lateStores }], guard := none }) (v := ?_) rfl (by kernel_rfl) (by kernel_rfl) (by kernel_rfl) (fun _ _ _ h => h) (Or.inl ⟨by rfl, ?_⟩) (by assumption) ?_
  rotate_left
  · (intro w hSw; (try dsimp only at hSw); go_simp) <;> with_reducible rfl
  try simp only [Act.put, List.setIfInBounds_toArray, List.set_cons_zero, List.set_cons_succ]
  refine wpAnyH_take (i := 10) (oi := { dst := some 10, op := Op.assign (Operand.tmp 149), type := 3, pos := "law.go:95", after := #[{ on := 8, ground := Ground.data }, { on := 6, ground := Ground.chain }, { on := 0, ground := Ground.phase }, { on := 1, ground := Ground.phase }, { on := 2, ground := Ground.phase }, { on := 3, ground := Ground.phase }, { on := 4, ground := Ground.phase }, { on := 5, ground := Ground.phase }, { on := 6, ground := Ground.phase }, { on := 7, ground := Ground.phase }, { on := 8, ground := Ground.phase }, { on := 9, ground := Ground.textOnly Departure.lateStores }], guard := none }) (v := ?_) rfl (by kernel_rfl) (by kernel_rfl) (by kernel_rfl) (fun _ _ _ h => h) (Or.inl ⟨by rfl, ?_⟩) (by assumption) ?_
  rotate_left
  · (intro w hSw; (try dsimp only at hSw); go_simp) <;> with_reducible rfl
  try simp only [Act.put, List.setIfInBounds_toArray, List.set_cons_zero, List.set_cons_succ]
  refine wpAnyH_take (i := 11) (oi := { dst := some 11, op := Op.assign (Operand.tmp 150), type := 4, pos := "law.go:95", after := #[{ on := 9, ground := Ground.data }, { on := 10, ground := Ground.chain }, { on := 0, ground := Ground.phase }, { on := 1, ground := Ground.phase }, { on := 2, ground := Ground.phase }, { on := 3, ground := Ground.phase }, { on := 4, ground := Ground.phase }, { on := 5, ground := Ground.phase }, { on := 6, ground := Ground.phase }, { on := 7, ground := Ground.phase }, { on := 8, ground := Ground.phase }, { on := 9, ground := Ground.phase }, { on := 10, ground := Ground.phase }], guard := none }) (v := ?_) rfl (by kernel_rfl) (by kernel_rfl) (by kernel_rfl) (fun _ _ _ h => h) (Or.inl ⟨by rfl, ?_⟩) (by assumption) ?_
  rotate_left
  · (intro w hSw; (try dsimp only at hSw); go_simp) <;> with_reducible rfl
  try simp only [Act.put, List.setIfInBounds_toArray, List.set_cons_zero, List.set_cons_succ]
  refine wpAnyH_done (by kernel_rfl) ?_ _
  clear hHeld
  generalize decide (id ∈ idD R.dl) = av at *
  generalize dueD R id = dv at *
  have hav : (av == av) = true := by simp
  have hdv : (dv == dv) = true := by simp
  go_wp2
  all_goals (go_ret; exact ⟨by first | rfl | simp, HOut.out _ HE.out⟩)

set_option maxHeartbeats 4000000 in
theorem does_else (hp : p ≠ 7) (h : Wo w W own p R) (f : Fit R T) (hT : T ≤ 3000000000000000000) (ki on id tm n : Int) (h1 : ki ≠ 1) (h2 : ki ≠ 2) (h3 : ki ≠ 3) (h4 : ki ≠ 4) (h5 : ki ≠ 5) (h6 : ki ≠ 6) :
    Calls Tryz.prog 7 #[.pointer (some ⟨R.x, 0, none⟩), .agg #[.int .i64 ki, .int .i64 on, .int .i64 id, .int .i32 tm, .int .i64 n]] W fun e w' => e = .returned (.bool true) ∧ Hid (DoTo w W w' own p R T) := by
  have FF : Hid (Fit R T ∧ T ≤ 3000000000000000000) := ⟨f, hT⟩
  obtain ⟨bx, hbx⟩ : ∃ b, b = W.heap.size := ⟨_, rfl⟩
  obtain ⟨W0, hW0⟩ : ∃ W0, W0 = W.alloc (.cells #[.int .i64 ki, .int .i64 on, .int .i64 id, .int .i32 tm, .int .i64 n] 38) := ⟨_, rfl⟩
  have hb0 : Below W.heap.size W W0 := by rw [hW0]; exact (Below.refl _ W).alloc (Nat.le_refl _) _
  have HX : Hid (W0.heap[bx]? = some (.cells #[.int .i64 ki, .int .i64 on, .int .i64 id, .int .i32 tm, .int .i64 n] 38 (0, 0))) := by rw [hbx, hW0]; exact heap_alloc_new _ _
  have k0 : W0.cell? ⟨bx, 0, none⟩ = some (.int .i64 ki) := by rw [cell_of_row _ _ 0 _ _ _ HX.out]; rfl
  have H0 : Hid (Wo w W0 (bxO own W.heap.size) p R) := h.box hp hb0
  have zb : bx < W0.heap.size := lt_of_block HX.out
  have zx : R.x < W0.heap.size := H0.out.lt (.inl rfl)
  have HOut : Hid (∀ w', DoTo w W0 w' (bxO own W.heap.size) p R T → DoTo w W w' own p R T) := fun w' q => q.out hb0
  have HO7 : Hid (bxO own W.heap.size bx ≠ p) := by rw [hbx]; unfold bxO; rw [if_neg (Nat.lt_irrefl _)]; exact fun e => hp e.symm
  have HM : Hid (bx ≠ R.m) := by
    have := h.lt (.inr (.inl (.inr (.inl rfl))))
    show bx ≠ R.m
    omega
  have g0 : W0.cell? ⟨R.x, 0, none⟩ = some (.pointer (some ⟨R.c, 0, none⟩)) ∧ W0.cell? ⟨R.x, 1, none⟩ = some (.pointer (some ⟨R.d, 0, none⟩)) ∧ W0.cell? ⟨bx, 2, none⟩ = some (.int .i64 id) ∧ W0.cell? ⟨bx, 3, none⟩ = some (.int .i32 tm) := ⟨H0.out.cx.1, H0.out.cx.2, opRow HX.out⟩
  have HW0 : Hid (W.alloc (.cells #[.int .i64 ki, .int .i64 on, .int .i64 id, .int .i32 tm, .int .i64 n] 38) = W0) := hW0.symm
  have HBx : Hid (W.heap.size = bx) := hbx.symm
  clear h hb0 hW0 hbx f hT
  generalize bxO own W.heap.size = own1 at *
  have HE : Hid (DoTo w W0 W0 own1 p R T) := ⟨own1, R, H0.out, FF.out.1, ⟨rfl, rfl, rfl⟩, fun _ _ => rfl, Kept.refl _ _⟩
  have e1 : (ki == 1) = false := by simpa using h1
  have e2 : (ki == 2) = false := by simpa using h2
  have e3 : (ki == 3) = false := by simpa using h3
  have e4 : (ki == 4) = false := by simpa using h4
  have e5 : (ki == 5) = false := by simpa using h5
  have e6 : (ki == 6) = false := by simpa using h6
  clear h1 h2 h3 h4 h5 h6
  go_enter Tryz.func7, Tryz.ntmps7
  go_upto_region 1 with fail
  rw [HW0.out, HBx.out]
  clear HW0 HBx
  go_wp2
  all_goals (go_ret; exact ⟨rfl, HOut.out _ HE.out⟩)

end
end Go.Proofs.YtmniefmjdfdedaaGreatDoor
