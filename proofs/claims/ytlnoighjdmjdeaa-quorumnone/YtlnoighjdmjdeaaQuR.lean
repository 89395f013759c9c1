/- nil and plain Systems and Acks: what their calls answer. -/
import Derived.Test.YtlnoighjdmjdeaaQuK
namespace Go.Proofs.Ytlnoighjdmjdeaa
open Go.RowKit Go.Shelf
set_option maxRecDepth 8000

theorem size_none {P : Option Addr} {w : World} (hN : Calls Try.prog 31 #[.pointer P] w fun e w' => e = .returned (.bool true) ∧ w' = w) : Calls Try.prog 13 #[.pointer P] w fun e w' => e = .returned (.int .i64 0) ∧ w' = w := by
  have HN : Hid (Calls Try.prog 31 #[.pointer P] w fun e w' => e = .returned (.bool true) ∧ w' = w) := hN
  clear hN
  go_enter Try.func13, Try.ntmps13
  go_wp2_with fail
  refine Calls.mono HN.out ?_
  rintro e w1 ⟨rfl, hw1⟩
  rw [hw1]
  clear hw1 HN w1
  go_wp2
  all_goals (go_ret; exact ⟨rfl, rfl⟩)
theorem isServer_none {P : Option Addr} {w : World} (hN : Calls Try.prog 31 #[.pointer P] w fun e w' => e = .returned (.bool true) ∧ w' = w) (v : Int) (h0 : -128 ≤ v) (h1 : v ≤ 127) : Calls Try.prog 38 #[.pointer P, .int .i8 v] w fun e w' => e = .returned (.bool false) ∧ w' = w := by
  have HZ : Hid (Calls Try.prog 13 #[.pointer P] w fun e w' => e = .returned (.int .i64 0) ∧ w' = w) := size_none hN
  clear hN
  by_cases e1 : 0 ≤ v
  · have e2 : ¬ v < 0 := by omega
    go_enter Try.func38, Try.ntmps38
    go_wp2_with fail
    refine Calls.mono HZ.out ?_
    rintro e w1 ⟨rfl, hw1⟩
    rw [hw1]
    clear hw1 HZ w1
    go_wp2
    all_goals (go_ret; exact ⟨by first | rfl | (simp; omega), rfl⟩)
  · clear HZ
    go_enter Try.func38, Try.ntmps38
    go_wp2
    all_goals (go_ret; exact ⟨rfl, rfl⟩)
theorem counts_none {P : Option Addr} {w : World} (hN : Calls Try.prog 31 #[.pointer P] w fun e w' => e = .returned (.bool true) ∧ w' = w) (v : Int) (h0 : -128 ≤ v) (h1 : v ≤ 127) : Calls Try.prog 26 #[.pointer P, .int .i8 v] w fun e w' => e = .returned (.bool false) ∧ w' = w := by
  have HZ : Hid (Calls Try.prog 38 #[.pointer P, .int .i8 v] w fun e w' => e = .returned (.bool false) ∧ w' = w) := isServer_none hN v h0 h1
  clear hN
  go_enter Try.func26, Try.ntmps26
  go_wp2_with fail
  refine Calls.mono HZ.out ?_
  rintro e w1 ⟨rfl, hw1⟩
  rw [hw1]
  clear hw1 HZ w1
  go_wp2
  all_goals (go_ret; exact ⟨rfl, rfl⟩)
theorem hasN_none {P : Option Addr} {w : World} (hN : Calls Try.prog 31 #[.pointer P] w fun e w' => e = .returned (.bool true) ∧ w' = w) (v : Int) : Calls Try.prog 22 #[.pointer P, .int .u8 v] w fun e w' => e = .returned (.bool false) ∧ w' = w := by
  have HN : Hid (Calls Try.prog 31 #[.pointer P] w fun e w' => e = .returned (.bool true) ∧ w' = w) := hN
  clear hN
  go_enter Try.func22, Try.ntmps22
  go_wp2_with fail
  refine Calls.mono HN.out ?_
  rintro e w1 ⟨rfl, hw1⟩
  rw [hw1]
  clear hw1 HN w1
  go_wp2
  all_goals (go_ret; exact ⟨rfl, rfl⟩)
theorem least_none {P : Option Addr} {w : World} (hN : Calls Try.prog 31 #[.pointer P] w fun e w' => e = .returned (.bool true) ∧ w' = w) (v : Int) : Calls Try.prog 24 #[.pointer P, .int .u8 v] w fun e w' => e = .returned (.bool false) ∧ w' = w := by
  have HZ : Hid (Calls Try.prog 22 #[.pointer P, .int .u8 v] w fun e w' => e = .returned (.bool false) ∧ w' = w) := hasN_none hN v
  clear hN
  go_enter Try.func24, Try.ntmps24
  go_wp2_with fail
  refine Calls.mono HZ.out ?_
  rintro e w1 ⟨rfl, hw1⟩
  rw [hw1]
  clear hw1 HZ w1
  go_wp2
  all_goals (go_ret; exact ⟨rfl, rfl⟩)

theorem put_none {P : Option Addr} {w : World} (v e m : Int) (hN : Calls Try.prog 33 #[.pointer P] (w.alloc (.cells #[.int .u32 e, .int .u32 m] 38)) fun r w' => r = .returned (.bool true) ∧ w' = (w.alloc (.cells #[.int .u32 e, .int .u32 m] 38))) : Calls Try.prog 20 #[.pointer P, .int .i8 v, zx e m] w fun r w' => r = .returned (.int .i64 1) ∧ Below w.heap.size w w' := by
  have HN : Hid (Calls Try.prog 33 #[.pointer P] (w.alloc (.cells #[.int .u32 e, .int .u32 m] 38)) fun r w' => r = .returned (.bool true) ∧ w' = (w.alloc (.cells #[.int .u32 e, .int .u32 m] 38))) := hN
  have HB : Hid (∀ o, Below w.heap.size w (w.alloc o)) := fun o => one_alloc w o
  clear hN
  go_enter Try.func20, Try.ntmps20
  go_wp2_with fail
  refine Calls.mono HN.out ?_
  rintro e w1 ⟨rfl, hw1⟩
  rw [hw1]
  clear hw1 HN w1
  go_wp2
  all_goals (go_ret; exact ⟨rfl, HB.out _⟩)

theorem of_none {P : Option Addr} {w : World} (v : Int) (hN : Calls Try.prog 33 #[.pointer P] (w.alloc (.cells #[.int .u32 0, .int .u32 0] 38)).drew fun r w' => r = .returned (.bool true) ∧ w' = (w.alloc (.cells #[.int .u32 0, .int .u32 0] 38)).drew) : Calls Try.prog 18 #[.pointer P, .int .i8 v] w fun r w' => r = .returned (.tuple #[zx 0 0, .bool false]) ∧ Below w.heap.size w w' := by
  have HN : Hid (Calls Try.prog 33 #[.pointer P] (w.alloc (.cells #[.int .u32 0, .int .u32 0] 38)).drew fun r w' => r = .returned (.bool true) ∧ w' = (w.alloc (.cells #[.int .u32 0, .int .u32 0] 38)).drew) := hN
  have HB : Hid (Below w.heap.size w (w.alloc (.cells #[.int .u32 0, .int .u32 0] 38)).drew ∧ (w.alloc (.cells #[.int .u32 0, .int .u32 0] 38)).drew.heap[w.heap.size]? = some (.cells #[.int .u32 0, .int .u32 0] 38 (0, 0))) := ⟨(one_alloc w _).drew, heap_alloc_new _ _⟩
  clear hN
  go_enter Try.func18, Try.ntmps18
  go_wp2_with fail
  refine wp_region_held_drew (S := (fun _ => True)) (by kernel_rfl) ?_ (fun hHeld => ?_)
  · trivial
  refine wpAnyH_take (i := 0) (oi := { dst := some 6, op := Op.move (Operand.tmp 0), type := 33, pos := "acks.go:38", after := #[], guard := none }) (v := ?_) rfl (by kernel_rfl) (by kernel_rfl) (by kernel_rfl) (fun _ _ _ h => h) (Or.inl ⟨by rfl, ?_⟩) (by assumption) ?_
  rotate_left
  · (intro w hSw; (try dsimp only at hSw); go_simp) <;> with_reducible rfl
  try simp only [Act.put, List.setIfInBounds_toArray, List.set_cons_zero, List.set_cons_succ]
  refine wpAnyH_ready (rs := [1]) (by kernel_rfl) (by simp) ?_
  refine AllReadyH.cons (o := { dst := some 7, op := Op.call { callee := Callee.value (Operand.func 33), args := #[Operand.tmp 6], argTypes := #[33] }, type := 4, pos := "acks.go:38", after := #[{ on := 0, ground := Ground.data }], guard := none }) rfl (fun K hK => ?_) AllReadyH.nil
  go_simp
  refine Calls.mono HN.out ?_
  rintro e1 w1 ⟨rfl, hw1⟩
  rw [hw1]
  clear hw1 w1
  refine hK.out _ _ trivial (fun hHeld => ?_)
  clear hK K
  refine wpAnyH_take (i := 2) (oi := { dst := some 8, op := Op.move (Operand.tmp 7), type := 4, pos := "acks.go:38", after := #[{ on := 1, ground := Ground.data }, { on := 1, ground := Ground.chain }], guard := none }) (v := ?_) rfl (by kernel_rfl) (by kernel_rfl) (by kernel_rfl) (fun _ _ _ h => h) (Or.inl ⟨by rfl, ?_⟩) (by assumption) ?_
  rotate_left
  · (intro w hSw; (try dsimp only at hSw); go_simp) <;> with_reducible rfl
  try simp only [Act.put, List.setIfInBounds_toArray, List.set_cons_zero, List.set_cons_succ]
  refine wpAnyH_take (i := 3) (oi := { dst := some 9, op := Op.move (Operand.tmp 0), type := 33, pos := "acks.go:38", after := #[{ on := 2, ground := Ground.guard }], guard := some (2, false) }) (v := undef) rfl (by kernel_rfl) (by kernel_rfl) (by kernel_rfl) (fun _ _ _ h => h) (Or.inr ⟨by rfl, rfl⟩) (by assumption) ?_
  try simp only [Act.put, List.setIfInBounds_toArray, List.set_cons_zero, List.set_cons_succ]
  refine wpAnyH_take (i := 4) (oi := { dst := some 10, op := Op.nilCheck (Operand.tmp 9), type := 0, pos := "acks.go:38", after := #[{ on := 3, ground := Ground.data }, { on := 2, ground := Ground.guard }], guard := some (2, false) }) (v := undef) rfl (by kernel_rfl) (by kernel_rfl) (by kernel_rfl) (fun _ _ _ h => h) (Or.inr ⟨by rfl, rfl⟩) (by assumption) ?_
  try simp only [Act.put, List.setIfInBounds_toArray, List.set_cons_zero, List.set_cons_succ]
  refine wpAnyH_take (i := 5) (oi := { dst := some 11, op := Op.fieldAddr 41 (Operand.tmp 10) 0, type := 0, pos := "acks.go:38", after := #[{ on := 4, ground := Ground.data }, { on := 2, ground := Ground.guard }], guard := some (2, false) }) (v := undef) rfl (by kernel_rfl) (by kernel_rfl) (by kernel_rfl) (fun _ _ _ h => h) (Or.inr ⟨by rfl, rfl⟩) (by assumption) ?_
  try simp only [Act.put, List.setIfInBounds_toArray, List.set_cons_zero, List.set_cons_succ]
  refine wpAnyH_take (i := 6) (oi := { dst := some 12, op := Op.load 25 (Operand.tmp 11), type := 25, pos := "acks.go:38", after := #[{ on := 5, ground := Ground.data }, { on := 2, ground := Ground.guard }], guard := some (2, false) }) (v := undef) rfl (by kernel_rfl) (by kernel_rfl) (by kernel_rfl) (fun _ _ _ h => h) (Or.inr ⟨by rfl, rfl⟩) (by assumption) ?_
  try simp only [Act.put, List.setIfInBounds_toArray, List.set_cons_zero, List.set_cons_succ]
  refine wpAnyH_take (i := 7) (oi := { dst := some 13, op := Op.move (Operand.tmp 1), type := 48, pos := "acks.go:38", after := #[{ on := 2, ground := Ground.guard }], guard := some (2, false) }) (v := undef) rfl (by kernel_rfl) (by kernel_rfl) (by kernel_rfl) (fun _ _ _ h => h) (Or.inr ⟨by rfl, rfl⟩) (by assumption) ?_
  try simp only [Act.put, List.setIfInBounds_toArray, List.set_cons_zero, List.set_cons_succ]
  refine wpAnyH_ready (rs := [8]) (by kernel_rfl) (by simp) ?_
  refine AllReadyH.cons (o := { dst := some 14, op := Op.call { callee := Callee.value (Operand.func 38), args := #[Operand.tmp 12, Operand.tmp 13], argTypes := #[25, 48] }, type := 4, pos := "acks.go:38", after := #[{ on := 6, ground := Ground.data }, { on := 7, ground := Ground.data }, { on := 2, ground := Ground.chain }, { on := 2, ground := Ground.guard }], guard := some (2, false) }) rfl (fun K hK => ?_) AllReadyH.nil
  go_simp
  refine hK.out _ _ (by assumption) (fun _ => ?_)
  clear hK K
  refine wpAnyH_take (i := 9) (oi := { dst := some 15, op := Op.unOp UnOp.not 4 (Operand.tmp 14), type := 4, pos := "acks.go:38", after := #[{ on := 8, ground := Ground.data }, { on := 2, ground := Ground.guard }], guard := some (2, false) }) (v := undef) rfl (by kernel_rfl) (by kernel_rfl) (by kernel_rfl) (fun _ _ _ h => h) (Or.inr ⟨by rfl, rfl⟩) (by assumption) ?_
  try simp only [Act.put, List.setIfInBounds_toArray, List.set_cons_zero, List.set_cons_succ]
  refine wpAnyH_take (i := 10) (oi := { dst := some 16, op := Op.pick (Operand.tmp 8) (Operand.const (Value.bool true)) (Operand.tmp 15), type := 4, pos := "acks.go:38", after := #[{ on := 2, ground := Ground.data }, { on := 9, ground := Ground.data }], guard := none }) (v := ?_) rfl (by kernel_rfl) (by kernel_rfl) (by kernel_rfl) (fun _ _ _ h => h) (Or.inl ⟨by rfl, ?_⟩) (by assumption) ?_
  rotate_left
  · (intro w hSw; (try dsimp only at hSw); go_simp) <;> with_reducible rfl
  try simp only [Act.put, List.setIfInBounds_toArray, List.set_cons_zero, List.set_cons_succ]
  refine wpAnyH_take (i := 11) (oi := { dst := some 17, op := Op.move (Operand.tmp 16), type := 4, pos := "acks.go:38", after := #[{ on := 10, ground := Ground.data }, { on := 8, ground := Ground.chain }], guard := none }) (v := ?_) rfl (by kernel_rfl) (by kernel_rfl) (by kernel_rfl) (fun _ _ _ h => h) (Or.inl ⟨by rfl, ?_⟩) (by assumption) ?_
  rotate_left
  · (intro w hSw; (try dsimp only at hSw); go_simp) <;> with_reducible rfl
  try simp only [Act.put, List.setIfInBounds_toArray, List.set_cons_zero, List.set_cons_succ]
  refine wpAnyH_take (i := 12) (oi := { dst := some 18, op := Op.move (Operand.tmp 0), type := 33, pos := "acks.go:38", after := #[{ on := 11, ground := Ground.guard }], guard := some (11, false) }) (v := undef) rfl (by kernel_rfl) (by kernel_rfl) (by kernel_rfl) (fun _ _ _ h => h) (Or.inr ⟨by rfl, rfl⟩) (by assumption) ?_
  try simp only [Act.put, List.setIfInBounds_toArray, List.set_cons_zero, List.set_cons_succ]
  refine wpAnyH_take (i := 13) (oi := { dst := some 19, op := Op.nilCheck (Operand.tmp 18), type := 0, pos := "acks.go:38", after := #[{ on := 12, ground := Ground.data }, { on := 11, ground := Ground.guard }], guard := some (11, false) }) (v := undef) rfl (by kernel_rfl) (by kernel_rfl) (by kernel_rfl) (fun _ _ _ h => h) (Or.inr ⟨by rfl, rfl⟩) (by assumption) ?_
  try simp only [Act.put, List.setIfInBounds_toArray, List.set_cons_zero, List.set_cons_succ]
  refine wpAnyH_take (i := 14) (oi := { dst := some 20, op := Op.fieldAddr 41 (Operand.tmp 19) 2, type := 0, pos := "acks.go:38", after := #[{ on := 13, ground := Ground.data }, { on := 11, ground := Ground.guard }], guard := some (11, false) }) (v := undef) rfl (by kernel_rfl) (by kernel_rfl) (by kernel_rfl) (fun _ _ _ h => h) (Or.inr ⟨by rfl, rfl⟩) (by assumption) ?_
  try simp only [Act.put, List.setIfInBounds_toArray, List.set_cons_zero, List.set_cons_succ]
  refine wpAnyH_take (i := 15) (oi := { dst := some 21, op := Op.load 5 (Operand.tmp 20), type := 5, pos := "acks.go:38", after := #[{ on := 14, ground := Ground.data }, { on := 11, ground := Ground.guard }], guard := some (11, false) }) (v := undef) rfl (by kernel_rfl) (by kernel_rfl) (by kernel_rfl) (fun _ _ _ h => h) (Or.inr ⟨by rfl, rfl⟩) (by assumption) ?_
  try simp only [Act.put, List.setIfInBounds_toArray, List.set_cons_zero, List.set_cons_succ]
  refine wpAnyH_take (i := 16) (oi := { dst := some 22, op := Op.move (Operand.tmp 1), type := 48, pos := "acks.go:38", after := #[{ on := 11, ground := Ground.guard }], guard := some (11, false) }) (v := undef) rfl (by kernel_rfl) (by kernel_rfl) (by kernel_rfl) (fun _ _ _ h => h) (Or.inr ⟨by rfl, rfl⟩) (by assumption) ?_
  try simp only [Act.put, List.setIfInBounds_toArray, List.set_cons_zero, List.set_cons_succ]
  refine wpAnyH_take (i := 17) (oi := { dst := some 23, op := Op.convert 48 3 (Operand.tmp 22), type := 3, pos := "acks.go:38", after := #[{ on := 16, ground := Ground.data }, { on := 11, ground := Ground.guard }], guard := some (11, false) }) (v := undef) rfl (by kernel_rfl) (by kernel_rfl) (by kernel_rfl) (fun _ _ _ h => h) (Or.inr ⟨by rfl, rfl⟩) (by assumption) ?_
  try simp only [Act.put, List.setIfInBounds_toArray, List.set_cons_zero, List.set_cons_succ]
  refine wpAnyH_ready (rs := [18]) (by kernel_rfl) (by simp) ?_
  refine AllReadyH.cons (o := { dst := some 24, op := Op.call { callee := Callee.value (Operand.func 34), args := #[Operand.tmp 23], argTypes := #[3] }, type := 5, pos := "acks.go:38", after := #[{ on := 17, ground := Ground.data }, { on := 11, ground := Ground.chain }, { on := 11, ground := Ground.guard }], guard := some (11, false) }) rfl (fun K hK => ?_) AllReadyH.nil
  go_simp
  refine hK.out _ _ (by assumption) (fun _ => ?_)
  clear hK K
  refine wpAnyH_take (i := 19) (oi := { dst := some 25, op := Op.binOp BinOp.and 5 (Operand.tmp 21) (Operand.tmp 24) 5, type := 5, pos := "acks.go:38", after := #[{ on := 15, ground := Ground.data }, { on := 18, ground := Ground.data }, { on := 11, ground := Ground.guard }], guard := some (11, false) }) (v := undef) rfl (by kernel_rfl) (by kernel_rfl) (by kernel_rfl) (fun _ _ _ h => h) (Or.inr ⟨by rfl, rfl⟩) (by assumption) ?_
  try simp only [Act.put, List.setIfInBounds_toArray, List.set_cons_zero, List.set_cons_succ]
  refine wpAnyH_take (i := 20) (oi := { dst := some 26, op := Op.binOp BinOp.eql 5 (Operand.tmp 25) (Operand.const (Value.int IntKind.u8 0)) 5, type := 4, pos := "acks.go:38", after := #[{ on := 19, ground := Ground.data }, { on := 11, ground := Ground.guard }], guard := some (11, false) }) (v := undef) rfl (by kernel_rfl) (by kernel_rfl) (by kernel_rfl) (fun _ _ _ h => h) (Or.inr ⟨by rfl, rfl⟩) (by assumption) ?_
  try simp only [Act.put, List.setIfInBounds_toArray, List.set_cons_zero, List.set_cons_succ]
  refine wpAnyH_take (i := 21) (oi := { dst := some 27, op := Op.pick (Operand.tmp 17) (Operand.const (Value.bool true)) (Operand.tmp 26), type := 4, pos := "acks.go:38", after := #[{ on := 11, ground := Ground.data }, { on := 20, ground := Ground.data }], guard := none }) (v := ?_) rfl (by kernel_rfl) (by kernel_rfl) (by kernel_rfl) (fun _ _ _ h => h) (Or.inl ⟨by rfl, ?_⟩) (by assumption) ?_
  rotate_left
  · (intro w hSw; (try dsimp only at hSw); go_simp) <;> with_reducible rfl
  try simp only [Act.put, List.setIfInBounds_toArray, List.set_cons_zero, List.set_cons_succ]
  refine wpAnyH_done (by kernel_rfl) ?_ _
  clear hHeld
  go_wp2
  all_goals (refine bodyPost_ret (zx_ret Try.results18 _ _ w.heap.size 0 0 _ _ _ rfl rfl HB.out.2) rfl ?_; exact ⟨rfl, HB.out.1⟩)

theorem com_none {P : Option Addr} {w : World} (hN : Calls Try.prog 33 #[.pointer P] (w.alloc (.cells #[.int .u32 0, .int .u32 0] 38)) fun r w' => r = .returned (.bool true) ∧ w' = (w.alloc (.cells #[.int .u32 0, .int .u32 0] 38))) : Calls Try.prog 16 #[.pointer P] w fun r w' => r = .returned (.tuple #[zx 0 0, .bool false]) ∧ Below w.heap.size w w' := by
  have HN : Hid (Calls Try.prog 33 #[.pointer P] (w.alloc (.cells #[.int .u32 0, .int .u32 0] 38)) fun r w' => r = .returned (.bool true) ∧ w' = (w.alloc (.cells #[.int .u32 0, .int .u32 0] 38))) := hN
  have HB : Hid (Below w.heap.size w (w.alloc (.cells #[.int .u32 0, .int .u32 0] 38)) ∧ (w.alloc (.cells #[.int .u32 0, .int .u32 0] 38)).heap[w.heap.size]? = some (.cells #[.int .u32 0, .int .u32 0] 38 (0, 0))) := ⟨one_alloc w _, heap_alloc_new _ _⟩
  clear hN
  go_enter Try.func16, Try.ntmps16
  go_wp2_with fail
  refine Calls.mono HN.out ?_
  rintro e w1 ⟨rfl, hw1⟩
  rw [hw1]
  clear hw1 HN w1
  go_wp2
  all_goals (refine bodyPost_ret (zx_ret Try.results16 _ _ w.heap.size 0 0 _ _ _ rfl rfl HB.out.2) rfl ?_; exact ⟨rfl, HB.out.1⟩)

end Go.Proofs.Ytlnoighjdmjdeaa
