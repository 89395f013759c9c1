/- lives of the statements of layer 11: a manifest is written and read, and is a disk's. -/
import Derived.Test.YtdbphdllibffnaaGreatMaLJ
namespace Go.Proofs.YtdbphdllibffnaaGreat
open Go.RowKit Go.Shelf
set_option maxRecDepth 8000

set_option maxHeartbeats 4000000 in
theorem lives_m (w : World) : Calls Tryz.prog 5 #[] w fun e w' => e = .returned (.bool true) ∧ Below w.heap.size w w' := by
  have hq : ∀ W : World, (binOp .neq 35 (.agg #[.int .u32 3, .int .u32 2, .int .u32 1, .int .i64 4, .int .i64 5]) (.agg #[.int .u32 3, .int .u32 2, .int .u32 1, .int .i64 4, .int .i64 5])).run Tryz.prog W = .ok (.bool false) W := fun W => by
    have := neqMan smpM smpM W
    rw [eqM_self] at this
    exact this
  have hq2 : ∀ W : World, (binOp .eql 35 (.agg #[.int .u32 3, .int .u32 2, .int .u32 1, .int .i64 4, .int .i64 5]) (.agg #[.int .u32 3, .int .u32 2, .int .u32 1, .int .i64 4, .int .i64 5])).run Tryz.prog W = .ok (.bool true) W := fun W => by
    have := eqMan smpM smpM W
    rw [eqM_self] at this
    exact this
  go_enter Tryz.func5, Tryz.ntmps5
  go_wp2_with fail
  refine Calls.mono (sample_m w) ?_
  rintro e w1 ⟨rfl, hb1⟩
  have HB1 : Hid _ := hb1
  have HWR : Hid _ := mwrite_yes smpM smp_fits smp_may w1
  rw [maF_len] at HWR
  clear hb1
  go_wp2_with fail
  refine Calls.mono HWR.out ?_
  rintro e w2 ⟨g, rfl, hg, ho2, hb2⟩
  have HB2 : Hid (Below w.heap.size w w2) := Below.step HB1.out hb2
  have HRD : Hid _ := mread_good (.slice (some ⟨g, 0, none⟩) 38 38) smpM smp_fits smp_may w2 (Sees.own ho2)
  clear ho2 hb2 hg HWR HB1
  go_wp2_with fail
  refine Calls.mono HRD.out ?_
  rintro e w3 ⟨rfl, hb3⟩
  have HB3 : Hid (Below w.heap.size w w3) := Below.step HB2.out hb3
  clear hb3 HRD HB2
  obtain ⟨W4, eW4⟩ : ∃ W4, W4 = w3.alloc (.cells #[.int .u32 3, .int .u32 2, .int .u32 1, .int .i64 4, .int .i64 5] 35) := ⟨_, rfl⟩
  have hb4 : Below w3.heap.size w3 W4 := by rw [eW4]; exact one_allocK _ _
  have r4 : W4.heap[w3.heap.size]? = some (.cells #[.int .u32 3, .int .u32 2, .int .u32 1, .int .i64 4, .int .i64 5] 35 (0, 0)) := by rw [eW4]; exact heap_alloc_new w3 _
  have HN : Hid _ := new_yes 1000 W4 ⟨by decide, by decide⟩
  have HE4 : Hid _ := eW4
  have H4 : Hid (Below w.heap.size w W4 ∧ W4.heap[w3.heap.size]? = some (.cells #[.int .u32 3, .int .u32 2, .int .u32 1, .int .i64 4, .int .i64 5] 35 (0, 0))) := ⟨Below.step HB3.out hb4, r4⟩
  have hl4 := lt_of_block r4
  clear hb4 r4 eW4
  go_upto_region 3 with fail
  rw [← HE4.out]
  go_wp2_with fail
  refine Calls.mono HN.out ?_
  rintro e w5 ⟨rfl, hw5⟩
  have hb5 : Below W4.heap.size W4 w5 := by rw [hw5]; exact one_allocK _ _
  have hdk : IsDk w5 W4.heap.size (.slice none 0 0) [] (newD 1000) := by rw [hw5]; exact isDk_new W4 1000
  have r5 : w5.heap[w3.heap.size]? = some (.cells #[.int .u32 3, .int .u32 2, .int .u32 1, .int .i64 4, .int .i64 5] 35 (0, 0)) := (Below.kept hb5).heap H4.out.2 (fun e => by omega)
  have H5 : Hid (Below w.heap.size w w5 ∧ IsDk w5 W4.heap.size (.slice none 0 0) [] (newD 1000) ∧ w.heap.size ≤ W4.heap.size) := ⟨Below.step H4.out.1 hb5, hdk, H4.out.1.size⟩
  obtain ⟨p, hp⟩ : ∃ p, p = W4.heap.size := ⟨_, rfl⟩
  rw [← hp] at H5
  have HPW : Hid (w.heap.size ≤ p) := H5.out.2.2
  rw [← hp]
  obtain ⟨bm, hbm⟩ : ∃ bm, bm = w3.heap.size := ⟨_, rfl⟩
  rw [← hbm] at r5 ⊢
  have k0 : w5.drew.cell? ⟨bm, 0, none⟩ = some (.int .u32 3) := cell_of_row w5 _ 0 _ _ _ r5
  have k1 : w5.drew.cell? ⟨bm, 1, none⟩ = some (.int .u32 2) := cell_of_row w5 _ 1 _ _ _ r5
  have k2 : w5.drew.cell? ⟨bm, 2, none⟩ = some (.int .u32 1) := cell_of_row w5 _ 2 _ _ _ r5
  have k3 : w5.drew.cell? ⟨bm, 3, none⟩ = some (.int .i64 4) := cell_of_row w5 _ 3 _ _ _ r5
  have k4 : w5.drew.cell? ⟨bm, 4, none⟩ = some (.int .i64 5) := cell_of_row w5 _ 4 _ _ _ r5
  have HSM : Hid (Calls Tryz.prog 15 #[] w5.drew fun e w' => e = .returned (.agg #[.int .u32 3, .int .u32 2, .int .u32 1, .int .i64 4, .int .i64 5]) ∧ (w'.cell? ⟨bm, 0, none⟩ = some (.int .u32 3) ∧ w'.cell? ⟨bm, 1, none⟩ = some (.int .u32 2) ∧ w'.cell? ⟨bm, 2, none⟩ = some (.int .u32 1) ∧ w'.cell? ⟨bm, 3, none⟩ = some (.int .i64 4) ∧ w'.cell? ⟨bm, 4, none⟩ = some (.int .i64 5)) ∧ Hid (Below w5.heap.size w5 w')) := by
    refine (sample_m w5.drew).mono ?_
    rintro e w' ⟨rfl, hb'⟩
    have hl : bm < w5.drew.heap.size := World.block_lt_of_cell? _ _ k0
    exact ⟨rfl, ⟨cell_later k0 hb' (Nat.le_refl _), cell_later k1 hb' (Nat.le_refl _), cell_later k2 hb' (Nat.le_refl _), cell_later k3 hb' (Nat.le_refl _), cell_later k4 hb' (Nat.le_refl _)⟩, Below.step (below_drewN (Below.refl _ _) 1) hb'⟩
  clear hw5 hb5 hdk r5 HN hp hbm HE4
  go_upto_region 4 with fail
  refine wp_region_held_drew (S := (fun w' => w'.cell? ⟨bm, 0, none⟩ = some (.int .u32 3) ∧ w'.cell? ⟨bm, 1, none⟩ = some (.int .u32 2) ∧ w'.cell? ⟨bm, 2, none⟩ = some (.int .u32 1) ∧ w'.cell? ⟨bm, 3, none⟩ = some (.int .i64 4) ∧ w'.cell? ⟨bm, 4, none⟩ = some (.int .i64 5))) (by kernel_rfl) ?_ (fun hHeld => ?_)
  · exact ⟨k0, k1, k2, k3, k4⟩
  refine wpAnyH_take (i := 0) (oi := { dst := some 25, op := Op.move (Operand.tmp 2), type := 26, pos := "law.go:43", after := #[], guard := none }) (v := ?_) rfl (by kernel_rfl) (by kernel_rfl) (by kernel_rfl) (fun _ _ _ h => h) (Or.inl ⟨by rfl, ?_⟩) (by assumption) ?_
  rotate_left
  · (intro w hSw; (try dsimp only at hSw); go_simp) <;> with_reducible rfl
  try simp only [Act.put, List.setIfInBounds_toArray, List.set_cons_zero, List.set_cons_succ]
  refine wpAnyH_take (i := 1) (oi := { dst := some 26, op := Op.binOp BinOp.neq 26 (Operand.tmp 25) (Operand.const (Value.int IntKind.i64 0)) 26, type := 4, pos := "law.go:43", after := #[{ on := 0, ground := Ground.data }], guard := none }) (v := ?_) rfl (by kernel_rfl) (by kernel_rfl) (by kernel_rfl) (fun _ _ _ h => h) (Or.inl ⟨by rfl, ?_⟩) (by assumption) ?_
  rotate_left
  · (intro w hSw; (try dsimp only at hSw); go_simp) <;> with_reducible rfl
  try simp only [Act.put, List.setIfInBounds_toArray, List.set_cons_zero, List.set_cons_succ]
  refine wpAnyH_take (i := 2) (oi := { dst := some 27, op := Op.move (Operand.tmp 26), type := 4, pos := "law.go:43", after := #[{ on := 1, ground := Ground.data }], guard := none }) (v := ?_) rfl (by kernel_rfl) (by kernel_rfl) (by kernel_rfl) (fun _ _ _ h => h) (Or.inl ⟨by rfl, ?_⟩) (by assumption) ?_
  rotate_left
  · (intro w hSw; (try dsimp only at hSw); go_simp) <;> with_reducible rfl
  try simp only [Act.put, List.setIfInBounds_toArray, List.set_cons_zero, List.set_cons_succ]
  refine wpAnyH_take (i := 3) (oi := { dst := some 28, op := Op.move (Operand.tmp 4), type := 26, pos := "law.go:43", after := #[{ on := 2, ground := Ground.guard }], guard := some (2, false) }) (v := ?_) rfl (by kernel_rfl) (by kernel_rfl) (by kernel_rfl) (fun _ _ _ h => h) (Or.inl ⟨by rfl, ?_⟩) (by assumption) ?_
  rotate_left
  · (intro w hSw; (try dsimp only at hSw); go_simp) <;> with_reducible rfl
  try simp only [Act.put, List.setIfInBounds_toArray, List.set_cons_zero, List.set_cons_succ]
  refine wpAnyH_take (i := 4) (oi := { dst := some 29, op := Op.binOp BinOp.neq 26 (Operand.tmp 28) (Operand.const (Value.int IntKind.i64 0)) 26, type := 4, pos := "law.go:43", after := #[{ on := 3, ground := Ground.data }, { on := 2, ground := Ground.guard }], guard := some (2, false) }) (v := ?_) rfl (by kernel_rfl) (by kernel_rfl) (by kernel_rfl) (fun _ _ _ h => h) (Or.inl ⟨by rfl, ?_⟩) (by assumption) ?_
  rotate_left
  · (intro w hSw; (try dsimp only at hSw); go_simp) <;> with_reducible rfl
  try simp only [Act.put, List.setIfInBounds_toArray, List.set_cons_zero, List.set_cons_succ]
  refine wpAnyH_take (i := 5) (oi := { dst := some 30, op := Op.pick (Operand.tmp 27) (Operand.const (Value.bool true)) (Operand.tmp 29), type := 4, pos := "law.go:43", after := #[{ on := 2, ground := Ground.data }, { on := 4, ground := Ground.data }], guard := none }) (v := ?_) rfl (by kernel_rfl) (by kernel_rfl) (by kernel_rfl) (fun _ _ _ h => h) (Or.inl ⟨by rfl, ?_⟩) (by assumption) ?_
  rotate_left
  · (intro w hSw; (try dsimp only at hSw); go_simp) <;> with_reducible rfl
  try simp only [Act.put, List.setIfInBounds_toArray, List.set_cons_zero, List.set_cons_succ]
  refine wpAnyH_take (i := 6) (oi := { dst := some 31, op := Op.move (Operand.tmp 30), type := 4, pos := "law.go:43", after := #[{ on := 5, ground := Ground.data }, { on := 2, ground := Ground.chain }], guard := none }) (v := ?_) rfl (by kernel_rfl) (by kernel_rfl) (by kernel_rfl) (fun _ _ _ h => h) (Or.inl ⟨by rfl, ?_⟩) (by assumption) ?_
  rotate_left
  · (intro w hSw; (try dsimp only at hSw); go_simp) <;> with_reducible rfl
  try simp only [Act.put, List.setIfInBounds_toArray, List.set_cons_zero, List.set_cons_succ]
  refine wpAnyH_take (i := 7) (oi := { dst := some 32, op := Op.move (Operand.tmp 6), type := 26, pos := "law.go:43", after := #[{ on := 6, ground := Ground.guard }], guard := some (6, false) }) (v := ?_) rfl (by kernel_rfl) (by kernel_rfl) (by kernel_rfl) (fun _ _ _ h => h) (Or.inl ⟨by rfl, ?_⟩) (by assumption) ?_
  rotate_left
  · (intro w hSw; (try dsimp only at hSw); go_simp) <;> with_reducible rfl
  try simp only [Act.put, List.setIfInBounds_toArray, List.set_cons_zero, List.set_cons_succ]
  refine wpAnyH_take (i := 8) (oi := { dst := some 33, op := Op.binOp BinOp.neq 26 (Operand.tmp 32) (Operand.const (Value.int IntKind.i64 0)) 26, type := 4, pos := "law.go:43", after := #[{ on := 7, ground := Ground.data }, { on := 6, ground := Ground.guard }], guard := some (6, false) }) (v := ?_) rfl (by kernel_rfl) (by kernel_rfl) (by kernel_rfl) (fun _ _ _ h => h) (Or.inl ⟨by rfl, ?_⟩) (by assumption) ?_
  rotate_left
  · (intro w hSw; (try dsimp only at hSw); go_simp) <;> with_reducible rfl
  try simp only [Act.put, List.setIfInBounds_toArray, List.set_cons_zero, List.set_cons_succ]
  refine wpAnyH_take (i := 9) (oi := { dst := some 34, op := Op.pick (Operand.tmp 31) (Operand.const (Value.bool true)) (Operand.tmp 33), type := 4, pos := "law.go:43", after := #[{ on := 6, ground := Ground.data }, { on := 8, ground := Ground.data }], guard := none }) (v := ?_) rfl (by kernel_rfl) (by kernel_rfl) (by kernel_rfl) (fun _ _ _ h => h) (Or.inl ⟨by rfl, ?_⟩) (by assumption) ?_
  rotate_left
  · (intro w hSw; (try dsimp only at hSw); go_simp) <;> with_reducible rfl
  try simp only [Act.put, List.setIfInBounds_toArray, List.set_cons_zero, List.set_cons_succ]
  refine wpAnyH_take (i := 10) (oi := { dst := some 35, op := Op.move (Operand.tmp 34), type := 4, pos := "law.go:43", after := #[{ on := 9, ground := Ground.data }, { on := 6, ground := Ground.chain }], guard := none }) (v := ?_) rfl (by kernel_rfl) (by kernel_rfl) (by kernel_rfl) (fun _ _ _ h => h) (Or.inl ⟨by rfl, ?_⟩) (by assumption) ?_
  rotate_left
  · (intro w hSw; (try dsimp only at hSw); go_simp) <;> with_reducible rfl
  try simp only [Act.put, List.setIfInBounds_toArray, List.set_cons_zero, List.set_cons_succ]
  refine wpAnyH_take (i := 11) (oi := { dst := some 36, op := Op.load 35 (Operand.tmp 3), type := 35, pos := "law.go:43", after := #[{ on := 10, ground := Ground.guard }], guard := some (10, false) }) (v := ?_) rfl (by kernel_rfl) (by kernel_rfl) (by kernel_rfl) (fun _ _ _ h => h) (Or.inl ⟨by rfl, ?_⟩) (by assumption) ?_
  rotate_left
  · (intro w hSw; (try dsimp only at hSw); go_simp) <;> with_reducible rfl
  try simp only [Act.put, List.setIfInBounds_toArray, List.set_cons_zero, List.set_cons_succ]
  refine wpAnyH_ready (rs := [12]) (by kernel_rfl) (by simp) ?_
  refine AllReadyH.cons (o := { dst := some 37, op := Op.call { callee := Callee.value (Operand.func 15), args := #[], argTypes := #[] }, type := 35, pos := "law.go:43", after := #[{ on := 10, ground := Ground.chain }, { on := 10, ground := Ground.guard }], guard := some (10, false) }) rfl (fun K hK => ?_) AllReadyH.nil
  go_simp
  refine Calls.mono HSM.out ?_
  rintro e w6 ⟨rfl, hs6, HB6⟩
  refine hK.out _ _ hs6 (fun hHeld => ?_)
  clear hK K
  refine wpAnyH_take (i := 13) (oi := { dst := some 38, op := Op.binOp BinOp.neq 35 (Operand.tmp 36) (Operand.tmp 37) 35, type := 4, pos := "law.go:43", after := #[{ on := 11, ground := Ground.data }, { on := 12, ground := Ground.data }, { on := 10, ground := Ground.guard }], guard := some (10, false) }) (v := ?_) rfl (by kernel_rfl) (by kernel_rfl) (by kernel_rfl) (fun _ _ _ h => h) (Or.inl ⟨by rfl, ?_⟩) (by assumption) ?_
  rotate_left
  · (intro w hSw; (try dsimp only at hSw); go_simp) <;> with_reducible rfl
  try simp only [Act.put, List.setIfInBounds_toArray, List.set_cons_zero, List.set_cons_succ]
  refine wpAnyH_take (i := 14) (oi := { dst := some 39, op := Op.pick (Operand.tmp 35) (Operand.const (Value.bool true)) (Operand.tmp 38), type := 4, pos := "law.go:43", after := #[{ on := 10, ground := Ground.data }, { on := 13, ground := Ground.data }], guard := none }) (v := ?_) rfl (by kernel_rfl) (by kernel_rfl) (by kernel_rfl) (fun _ _ _ h => h) (Or.inl ⟨by rfl, ?_⟩) (by assumption) ?_
  rotate_left
  · (intro w hSw; (try dsimp only at hSw); go_simp) <;> with_reducible rfl
  try simp only [Act.put, List.setIfInBounds_toArray, List.set_cons_zero, List.set_cons_succ]
  refine wpAnyH_take (i := 15) (oi := { dst := some 40, op := Op.move (Operand.tmp 39), type := 4, pos := "law.go:43", after := #[{ on := 14, ground := Ground.data }, { on := 12, ground := Ground.chain }], guard := none }) (v := ?_) rfl (by kernel_rfl) (by kernel_rfl) (by kernel_rfl) (fun _ _ _ h => h) (Or.inl ⟨by rfl, ?_⟩) (by assumption) ?_
  rotate_left
  · (intro w hSw; (try dsimp only at hSw); go_simp) <;> with_reducible rfl
  try simp only [Act.put, List.setIfInBounds_toArray, List.set_cons_zero, List.set_cons_succ]
  refine wpAnyH_take (i := 16) (oi := { dst := some 41, op := Op.move (Operand.tmp 1), type := 36, pos := "law.go:43", after := #[{ on := 15, ground := Ground.guard }], guard := some (15, false) }) (v := ?_) rfl (by kernel_rfl) (by kernel_rfl) (by kernel_rfl) (fun _ _ _ h => h) (Or.inl ⟨by rfl, ?_⟩) (by assumption) ?_
  rotate_left
  · (intro w hSw; (try dsimp only at hSw); go_simp) <;> with_reducible rfl
  try simp only [Act.put, List.setIfInBounds_toArray, List.set_cons_zero, List.set_cons_succ]
  refine wpAnyH_take (i := 17) (oi := { dst := some 42, op := Op.call { callee := Callee.builtin Builtin.len, args := #[Operand.tmp 41], argTypes := #[36] }, type := 3, pos := "law.go:43", after := #[{ on := 16, ground := Ground.data }, { on := 15, ground := Ground.guard }], guard := some (15, false) }) (v := ?_) rfl (by kernel_rfl) (by kernel_rfl) (by kernel_rfl) (fun _ _ _ h => h) (Or.inl ⟨by rfl, ?_⟩) (by assumption) ?_
  rotate_left
  · (intro w hSw; (try dsimp only at hSw); go_simp) <;> with_reducible rfl
  try simp only [Act.put, List.setIfInBounds_toArray, List.set_cons_zero, List.set_cons_succ]
  refine wpAnyH_take (i := 18) (oi := { dst := some 43, op := Op.binOp BinOp.neq 3 (Operand.tmp 42) (Operand.const (Value.int IntKind.i64 38)) 3, type := 4, pos := "law.go:43", after := #[{ on := 17, ground := Ground.data }, { on := 15, ground := Ground.guard }], guard := some (15, false) }) (v := ?_) rfl (by kernel_rfl) (by kernel_rfl) (by kernel_rfl) (fun _ _ _ h => h) (Or.inl ⟨by rfl, ?_⟩) (by assumption) ?_
  rotate_left
  · (intro w hSw; (try dsimp only at hSw); go_simp) <;> with_reducible rfl
  try simp only [Act.put, List.setIfInBounds_toArray, List.set_cons_zero, List.set_cons_succ]
  refine wpAnyH_take (i := 19) (oi := { dst := some 44, op := Op.pick (Operand.tmp 40) (Operand.const (Value.bool true)) (Operand.tmp 43), type := 4, pos := "law.go:43", after := #[{ on := 15, ground := Ground.data }, { on := 18, ground := Ground.data }], guard := none }) (v := ?_) rfl (by kernel_rfl) (by kernel_rfl) (by kernel_rfl) (fun _ _ _ h => h) (Or.inl ⟨by rfl, ?_⟩) (by assumption) ?_
  rotate_left
  · (intro w hSw; (try dsimp only at hSw); go_simp) <;> with_reducible rfl
  try simp only [Act.put, List.setIfInBounds_toArray, List.set_cons_zero, List.set_cons_succ]
  refine wpAnyH_done (by kernel_rfl) ?_ _
  clear k0 k1 k2 k3 k4 HSM hs6
  have H6 : Hid (Below w.heap.size w w6 ∧ IsDk w6 p (.slice none 0 0) [] (newD 1000)) := ⟨Below.step H5.out.1 HB6.out, H5.out.2.1.later HB6.out⟩
  go_wp2_with fail
  refine Calls.mono (sample_m w6) ?_
  rintro e w7 ⟨rfl, hb7⟩
  have H7 : Hid (Below w.heap.size w w7 ∧ IsDk w7 p (.slice none 0 0) [] (newD 1000)) := ⟨Below.step H6.out.1 hb7, H6.out.2.later hb7⟩
  have HPU : Hid _ := mput_no H7.out.2 (dkOk_new 1000 (by decide) (by decide)) (by decide) (has_none newN) smpM smp_fits smp_may
  rw [put_plain (newD 1000) (maF smpM) rfl rfl rfl (maF_len smpM) rfl] at HPU
  clear hb7 H6 HB6 H5
  go_wp2_with fail
  refine Calls.mono HPU.out ?_
  rintro e w8 ⟨rfl, fv8, ms8, ht8⟩
  have hth := there (pfC (newD 1000) (maF smpM)) rfl (maF smpM) (maF smpM).length rfl
  have hok8 : DkOk (pfC (newD 1000) (maF smpM)) := by
    have h1 := put_plain (newD 1000) (maF smpM) rfl rfl rfl (maF_len smpM) rfl
    have h2 := stepK_ok (dkOk_new 1000 (by decide) (by decide)) (maF smpM) 0
    have h3 := stepK_ok h2 (maF smpM) 1
    have h4 := stepK_ok h3 (maF smpM) 2
    rw [step0 (newD 1000) (maF smpM) rfl rfl rfl (maF_len smpM), if_neg (by decide)] at h4
    rw [step1 (pfA (newD 1000) (maF smpM)) (maF smpM) rfl rfl, if_neg (by decide)] at h4
    rw [step2 (pfB (newD 1000) (maF smpM)) (maF smpM) rfl rfl, if_neg (by decide)] at h4
    exact h4
  have HGE : Hid _ := mget_good ht8.is hok8 hth.1 smpM smp_fits smp_may hth.2
  have H8 : Hid (Below w.heap.size w w8) := H7.out.1.trans (ht8.kept.below H7.out.1.size (fun j e => by
    simp [foot, Value.ownBlock] at e
    rw [e]
    exact HPW.out))
  clear ht8 hth hok8 HPU H7
  go_wp2_with fail
  refine Calls.mono HGE.out ?_
  rintro e w9 ⟨rfl, hb9⟩
  obtain ⟨WA, eWA⟩ : ∃ WA, WA = w9.alloc (.cells #[.int .u32 3, .int .u32 2, .int .u32 1, .int .i64 4, .int .i64 5] 35) := ⟨_, rfl⟩
  have hbA : Below w9.heap.size w9 WA := by rw [eWA]; exact one_allocK _ _
  have rA : WA.heap[w9.heap.size]? = some (.cells #[.int .u32 3, .int .u32 2, .int .u32 1, .int .i64 4, .int .i64 5] 35 (0, 0)) := by rw [eWA]; exact heap_alloc_new w9 _
  have HA : Hid (Below w.heap.size w WA) := Below.step H8.out (Below.step hb9 hbA)
  have HEA : Hid _ := eWA
  obtain ⟨bn, hbn⟩ : ∃ bn, bn = w9.heap.size := ⟨_, rfl⟩
  rw [← hbn] at rA
  have k0 : WA.drew.cell? ⟨bn, 0, none⟩ = some (.int .u32 3) := cell_of_row WA _ 0 _ _ _ rA
  have k1 : WA.drew.cell? ⟨bn, 1, none⟩ = some (.int .u32 2) := cell_of_row WA _ 1 _ _ _ rA
  have k2 : WA.drew.cell? ⟨bn, 2, none⟩ = some (.int .u32 1) := cell_of_row WA _ 2 _ _ _ rA
  have k3 : WA.drew.cell? ⟨bn, 3, none⟩ = some (.int .i64 4) := cell_of_row WA _ 3 _ _ _ rA
  have k4 : WA.drew.cell? ⟨bn, 4, none⟩ = some (.int .i64 5) := cell_of_row WA _ 4 _ _ _ rA
  have HSN : Hid (Calls Tryz.prog 15 #[] WA.drew fun e w' => e = .returned (.agg #[.int .u32 3, .int .u32 2, .int .u32 1, .int .i64 4, .int .i64 5]) ∧ (w'.cell? ⟨bn, 0, none⟩ = some (.int .u32 3) ∧ w'.cell? ⟨bn, 1, none⟩ = some (.int .u32 2) ∧ w'.cell? ⟨bn, 2, none⟩ = some (.int .u32 1) ∧ w'.cell? ⟨bn, 3, none⟩ = some (.int .i64 4) ∧ w'.cell? ⟨bn, 4, none⟩ = some (.int .i64 5)) ∧ Hid (Below WA.heap.size WA w')) := by
    refine (sample_m WA.drew).mono ?_
    rintro e w' ⟨rfl, hb'⟩
    have hl : bn < WA.drew.heap.size := World.block_lt_of_cell? _ _ k0
    exact ⟨rfl, ⟨cell_later k0 hb' (Nat.le_refl _), cell_later k1 hb' (Nat.le_refl _), cell_later k2 hb' (Nat.le_refl _), cell_later k3 hb' (Nat.le_refl _), cell_later k4 hb' (Nat.le_refl _)⟩, Below.step (below_drewN (Below.refl _ _) 1) hb'⟩
  clear hb9 hbA rA eWA HGE H8
  go_upto_region 8 with fail
  rw [← HEA.out, ← hbn]
  clear hbn
  refine wp_region_held_drew (S := (fun w' => w'.cell? ⟨bn, 0, none⟩ = some (.int .u32 3) ∧ w'.cell? ⟨bn, 1, none⟩ = some (.int .u32 2) ∧ w'.cell? ⟨bn, 2, none⟩ = some (.int .u32 1) ∧ w'.cell? ⟨bn, 3, none⟩ = some (.int .i64 4) ∧ w'.cell? ⟨bn, 4, none⟩ = some (.int .i64 5))) (by kernel_rfl) ?_ (fun hHeld => ?_)
  · exact ⟨k0, k1, k2, k3, k4⟩
  refine wpAnyH_take (i := 0) (oi := { dst := some 54, op := Op.move (Operand.tmp 7), type := 26, pos := "law.go:48", after := #[], guard := none }) (v := ?_) rfl (by kernel_rfl) (by kernel_rfl) (by kernel_rfl) (fun _ _ _ h => h) (Or.inl ⟨by rfl, ?_⟩) (by assumption) ?_
  rotate_left
  · (intro w hSw; (try dsimp only at hSw); go_simp) <;> with_reducible rfl
  try simp only [Act.put, List.setIfInBounds_toArray, List.set_cons_zero, List.set_cons_succ]
  refine wpAnyH_take (i := 1) (oi := { dst := some 55, op := Op.binOp BinOp.eql 26 (Operand.tmp 54) (Operand.const (Value.int IntKind.i64 0)) 26, type := 4, pos := "law.go:48", after := #[{ on := 0, ground := Ground.data }], guard := none }) (v := ?_) rfl (by kernel_rfl) (by kernel_rfl) (by kernel_rfl) (fun _ _ _ h => h) (Or.inl ⟨by rfl, ?_⟩) (by assumption) ?_
  rotate_left
  · (intro w hSw; (try dsimp only at hSw); go_simp) <;> with_reducible rfl
  try simp only [Act.put, List.setIfInBounds_toArray, List.set_cons_zero, List.set_cons_succ]
  refine wpAnyH_take (i := 2) (oi := { dst := some 56, op := Op.move (Operand.tmp 55), type := 4, pos := "law.go:48", after := #[{ on := 1, ground := Ground.data }], guard := none }) (v := ?_) rfl (by kernel_rfl) (by kernel_rfl) (by kernel_rfl) (fun _ _ _ h => h) (Or.inl ⟨by rfl, ?_⟩) (by assumption) ?_
  rotate_left
  · (intro w hSw; (try dsimp only at hSw); go_simp) <;> with_reducible rfl
  try simp only [Act.put, List.setIfInBounds_toArray, List.set_cons_zero, List.set_cons_succ]
  refine wpAnyH_take (i := 3) (oi := { dst := some 57, op := Op.move (Operand.tmp 10), type := 26, pos := "law.go:48", after := #[{ on := 2, ground := Ground.guard }], guard := some (2, true) }) (v := ?_) rfl (by kernel_rfl) (by kernel_rfl) (by kernel_rfl) (fun _ _ _ h => h) (Or.inl ⟨by rfl, ?_⟩) (by assumption) ?_
  rotate_left
  · (intro w hSw; (try dsimp only at hSw); go_simp) <;> with_reducible rfl
  try simp only [Act.put, List.setIfInBounds_toArray, List.set_cons_zero, List.set_cons_succ]
  refine wpAnyH_take (i := 4) (oi := { dst := some 58, op := Op.binOp BinOp.eql 26 (Operand.tmp 57) (Operand.const (Value.int IntKind.i64 0)) 26, type := 4, pos := "law.go:48", after := #[{ on := 3, ground := Ground.data }, { on := 2, ground := Ground.guard }], guard := some (2, true) }) (v := ?_) rfl (by kernel_rfl) (by kernel_rfl) (by kernel_rfl) (fun _ _ _ h => h) (Or.inl ⟨by rfl, ?_⟩) (by assumption) ?_
  rotate_left
  · (intro w hSw; (try dsimp only at hSw); go_simp) <;> with_reducible rfl
  try simp only [Act.put, List.setIfInBounds_toArray, List.set_cons_zero, List.set_cons_succ]
  refine wpAnyH_take (i := 5) (oi := { dst := some 59, op := Op.pick (Operand.tmp 56) (Operand.tmp 58) (Operand.const (Value.bool false)), type := 4, pos := "law.go:48", after := #[{ on := 2, ground := Ground.data }, { on := 4, ground := Ground.data }], guard := none }) (v := ?_) rfl (by kernel_rfl) (by kernel_rfl) (by kernel_rfl) (fun _ _ _ h => h) (Or.inl ⟨by rfl, ?_⟩) (by assumption) ?_
  rotate_left
  · (intro w hSw; (try dsimp only at hSw); go_simp) <;> with_reducible rfl
  try simp only [Act.put, List.setIfInBounds_toArray, List.set_cons_zero, List.set_cons_succ]
  refine wpAnyH_take (i := 6) (oi := { dst := some 60, op := Op.move (Operand.tmp 59), type := 4, pos := "law.go:48", after := #[{ on := 5, ground := Ground.data }, { on := 2, ground := Ground.chain }], guard := none }) (v := ?_) rfl (by kernel_rfl) (by kernel_rfl) (by kernel_rfl) (fun _ _ _ h => h) (Or.inl ⟨by rfl, ?_⟩) (by assumption) ?_
  rotate_left
  · (intro w hSw; (try dsimp only at hSw); go_simp) <;> with_reducible rfl
  try simp only [Act.put, List.setIfInBounds_toArray, List.set_cons_zero, List.set_cons_succ]
  refine wpAnyH_take (i := 7) (oi := { dst := some 61, op := Op.move (Operand.tmp 9), type := 4, pos := "law.go:48", after := #[{ on := 6, ground := Ground.guard }], guard := some (6, true) }) (v := ?_) rfl (by kernel_rfl) (by kernel_rfl) (by kernel_rfl) (fun _ _ _ h => h) (Or.inl ⟨by rfl, ?_⟩) (by assumption) ?_
  rotate_left
  · (intro w hSw; (try dsimp only at hSw); go_simp) <;> with_reducible rfl
  try simp only [Act.put, List.setIfInBounds_toArray, List.set_cons_zero, List.set_cons_succ]
  refine wpAnyH_take (i := 8) (oi := { dst := some 62, op := Op.pick (Operand.tmp 60) (Operand.tmp 61) (Operand.const (Value.bool false)), type := 4, pos := "law.go:48", after := #[{ on := 6, ground := Ground.data }, { on := 7, ground := Ground.data }], guard := none }) (v := ?_) rfl (by kernel_rfl) (by kernel_rfl) (by kernel_rfl) (fun _ _ _ h => h) (Or.inl ⟨by rfl, ?_⟩) (by assumption) ?_
  rotate_left
  · (intro w hSw; (try dsimp only at hSw); go_simp) <;> with_reducible rfl
  try simp only [Act.put, List.setIfInBounds_toArray, List.set_cons_zero, List.set_cons_succ]
  refine wpAnyH_take (i := 9) (oi := { dst := some 63, op := Op.move (Operand.tmp 62), type := 4, pos := "law.go:48", after := #[{ on := 8, ground := Ground.data }, { on := 6, ground := Ground.chain }], guard := none }) (v := ?_) rfl (by kernel_rfl) (by kernel_rfl) (by kernel_rfl) (fun _ _ _ h => h) (Or.inl ⟨by rfl, ?_⟩) (by assumption) ?_
  rotate_left
  · (intro w hSw; (try dsimp only at hSw); go_simp) <;> with_reducible rfl
  try simp only [Act.put, List.setIfInBounds_toArray, List.set_cons_zero, List.set_cons_succ]
  refine wpAnyH_take (i := 10) (oi := { dst := some 64, op := Op.load 35 (Operand.tmp 8), type := 35, pos := "law.go:48", after := #[{ on := 9, ground := Ground.guard }], guard := some (9, true) }) (v := ?_) rfl (by kernel_rfl) (by kernel_rfl) (by kernel_rfl) (fun _ _ _ h => h) (Or.inl ⟨by rfl, ?_⟩) (by assumption) ?_
  rotate_left
  · (intro w hSw; (try dsimp only at hSw); go_simp) <;> with_reducible rfl
  try simp only [Act.put, List.setIfInBounds_toArray, List.set_cons_zero, List.set_cons_succ]
  refine wpAnyH_ready (rs := [11]) (by kernel_rfl) (by simp) ?_
  refine AllReadyH.cons (o := { dst := some 65, op := Op.call { callee := Callee.value (Operand.func 15), args := #[], argTypes := #[] }, type := 35, pos := "law.go:48", after := #[{ on := 9, ground := Ground.chain }, { on := 9, ground := Ground.guard }], guard := some (9, true) }) rfl (fun K hK => ?_) AllReadyH.nil
  go_simp
  refine Calls.mono HSN.out ?_
  rintro e wA ⟨rfl, hsA, HBA⟩
  refine hK.out _ _ hsA (fun hHeld => ?_)
  clear hK K
  refine wpAnyH_take (i := 12) (oi := { dst := some 66, op := Op.binOp BinOp.eql 35 (Operand.tmp 64) (Operand.tmp 65) 35, type := 4, pos := "law.go:48", after := #[{ on := 10, ground := Ground.data }, { on := 11, ground := Ground.data }, { on := 9, ground := Ground.guard }], guard := some (9, true) }) (v := ?_) rfl (by kernel_rfl) (by kernel_rfl) (by kernel_rfl) (fun _ _ _ h => h) (Or.inl ⟨by rfl, ?_⟩) (by assumption) ?_
  rotate_left
  · (intro w hSw; (try dsimp only at hSw); go_simp) <;> with_reducible rfl
  try simp only [Act.put, List.setIfInBounds_toArray, List.set_cons_zero, List.set_cons_succ]
  refine wpAnyH_take (i := 13) (oi := { dst := some 67, op := Op.pick (Operand.tmp 63) (Operand.tmp 66) (Operand.const (Value.bool false)), type := 4, pos := "law.go:48", after := #[{ on := 9, ground := Ground.data }, { on := 12, ground := Ground.data }], guard := none }) (v := ?_) rfl (by kernel_rfl) (by kernel_rfl) (by kernel_rfl) (fun _ _ _ h => h) (Or.inl ⟨by rfl, ?_⟩) (by assumption) ?_
  rotate_left
  · (intro w hSw; (try dsimp only at hSw); go_simp) <;> with_reducible rfl
  try simp only [Act.put, List.setIfInBounds_toArray, List.set_cons_zero, List.set_cons_succ]
  refine wpAnyH_take (i := 14) (oi := { dst := some 0, op := Op.assign (Operand.tmp 67), type := 4, pos := "law.go:48", after := #[{ on := 13, ground := Ground.data }, { on := 11, ground := Ground.chain }, { on := 0, ground := Ground.phase }, { on := 1, ground := Ground.phase }, { on := 2, ground := Ground.phase }, { on := 3, ground := Ground.phase }, { on := 4, ground := Ground.phase }, { on := 5, ground := Ground.phase }, { on := 6, ground := Ground.phase }, { on := 7, ground := Ground.phase }, { on := 8, ground := Ground.phase }, { on := 9, ground := Ground.phase }, { on := 10, ground := Ground.phase }, { on := 11, ground := Ground.phase }, { on := 12, ground := Ground.phase }, { on := 13, ground := Ground.phase }], guard := none }) (v := ?_) rfl (by kernel_rfl) (by kernel_rfl) (by kernel_rfl) (fun _ _ _ h => h) (Or.inl ⟨by rfl, ?_⟩) (by assumption) ?_
  rotate_left
  · (intro w hSw; (try dsimp only at hSw); go_simp) <;> with_reducible rfl
  try simp only [Act.put, List.setIfInBounds_toArray, List.set_cons_zero]
  refine wpAnyH_done (by kernel_rfl) ?_ _
  have HF : Hid (Below w.heap.size w wA) := Below.step HA.out HBA.out
  go_wp2_with fail
  go_ret
  exact ⟨rfl, HF.out⟩
end Go.Proofs.YtdbphdllibffnaaGreat
