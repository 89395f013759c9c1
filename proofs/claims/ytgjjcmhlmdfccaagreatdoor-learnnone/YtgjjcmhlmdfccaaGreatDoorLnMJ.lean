/- What the statements' own first look 'lives' of layer 17 answers: true. -/
import Derived.Test.YtgjjcmhlmdfccaaGreatDoorLnLJ
namespace Go.Proofs.YtgjjcmhlmdfccaaGreatDoor
open Go.RowKit
set_option maxRecDepth 8000
set_option linter.unusedSimpArgs false
set_option linter.unusedVariables false

/-- The cells of the first packet ahead of its numbers, and of the second one. -/
abbrev pk5C : Array Value := #[.int .i8 5, .int .u32 0, .int .u32 0, .int .u32 0, .int .u32 0, .int .i64 0, .int .u32 0, .int .u32 0, .int .u32 0, .int .u32 0, .int .u32 0, .int .u32 0, .bool false, .bool false, .int .u32 1, .int .u32 1, .int .i8 0, .int .u32 0, .int .i64 0, .int .i8 7, .string ⟨#[]⟩, .slice none 0 0, .slice none 0 0, .int .i32 0, .bool false, .bool false, .int .i64 0, .int .i32 5, .slice none 0 0, .slice none 0 0, .slice none 0 0, .int .i64 0]
abbrev pk7C : Array Value := #[.int .i8 7, .int .u32 0, .int .u32 0, .int .u32 0, .int .u32 0, .int .i64 0, .int .u32 1, .int .u32 0, .int .u32 1, .int .u32 1, .int .u32 0, .int .u32 0, .bool false, .bool false, .int .u32 0, .int .u32 0, .int .i8 0, .int .u32 0, .int .i64 0, .int .i8 0, .string ⟨#[]⟩, .slice none 0 0, .slice none 0 0, .int .i32 0, .bool false, .bool false, .int .i64 0, .int .i32 0, .slice none 0 0, .slice none 0 0, .slice none 0 0, .int .i64 0]

theorem put_5 (w : World) : Calls Tryz.prog 12 #[.agg pk5C] w fun e w' => e = .returned (.agg (pkL pk5 fiC.toList (.slice none 0 0)).toArray) ∧ Below w.heap.size w w' :=
  put_any pk5C rfl (by decide +kernel) w
theorem put_7 (w : World) : Calls Tryz.prog 12 #[.agg pk7C] w fun e w' => e = .returned (.agg (pkL pk7 txZL.toList (.slice none 0 0)).toArray) ∧ Below w.heap.size w w' :=
  put_any pk7C rfl (by decide +kernel) w

theorem entF : ∀ args w, (callFunc 24 args).run Tryz.prog w = .ok (.enter 24 args) w := fun _ _ => by kernel_rfl
theorem entB : ∀ args w, (callFunc 35 args).run Tryz.prog w = .ok (.enter 35 args) w := fun _ _ => by kernel_rfl

theorem take5 {p B : Nat} {w : World} {hi : Value} (h : LnS p B w 1 hi (.func (.func 24) #[.pointer (some ⟨p, 0, none⟩)] #[]) (.iface 74 (zx 0 0)) (.slice none 0 0) [] [] false) (hn : Nam w) (hpn : PNam w) :
    Calls Tryz.prog 6 #[.pointer (some ⟨p, 0, none⟩), .agg (pkL pk5 fiC.toList (.slice none 0 0)).toArray] w fun r w' => r = .returned (.tuple #[.bool false, .int .i64 0]) ∧ (∃ v es, LnS p B w' 1 (.slice none 0 0) (.func (.func 35) #[.pointer (some ⟨p, 0, none⟩)] #[]) (.iface 74 (zx 0 0)) v es [txF1] false) ∧ Kept w w' (fun k => B ≤ k ∨ k = p) := by
  refine (take_yes h entF pk5 fiC.toList (.slice none 0 0) (sees_5 w) pk5_good hn hpn false pk5_ne pk5_ok (fun w' => ∃ v es, LnS p B w' 1 (.slice none 0 0) (.func (.func 35) #[.pointer (some ⟨p, 0, none⟩)] #[]) (.iface 74 (zx 0 0)) v es [txF1] false) false (fun W hW => ?_)).mono ?_
  · refine (atFirst_add (h.later hW) pk5 fiC.toList (.slice none 0 0) (sees_5 W) rfl (by decide +kernel) (by decide) rfl rfl (by decide)).mono ?_
    rintro r w' ⟨rfl, v', ds, h9, k9⟩
    exact ⟨rfl, ⟨_, _, h9⟩, h9.cells.2.2.2.2.2, k9⟩
  · rintro r w' ⟨rfl, h9, k9⟩
    exact ⟨rfl, h9, k9.mono (fun k _ e => e.elim (fun e => by simp [Value.ownBlock] at e) .inr)⟩

theorem take7 {p B : Nat} {w : World} {v : Value} {es : List (List Value)} (h : LnS p B w 1 (.slice none 0 0) (.func (.func 35) #[.pointer (some ⟨p, 0, none⟩)] #[]) (.iface 74 (zx 0 0)) v es [txF1] false) (hn : Nam w) (hpn : PNam w) :
    Calls Tryz.prog 6 #[.pointer (some ⟨p, 0, none⟩), .agg (pkL pk7 txZL.toList (.slice none 0 0)).toArray] w fun r w' => r = .returned (.tuple #[.bool true, .int .i64 0]) ∧ (∃ es, LnS p B w' 1 (.slice none 0 0) (.func (.func 108) #[.pointer (some ⟨p, 0, none⟩)] #[]) (.iface 74 (zx 0 0)) v es [txF1] true) ∧ Kept w w' (fun k => B ≤ k ∨ k = p) := by
  refine (take_yes h entB pk7 txZL.toList (.slice none 0 0) (sees_7 w) pk7_good hn hpn true pk7_ne pk7_ok (fun w' => ∃ es, LnS p B w' 1 (.slice none 0 0) (.func (.func 108) #[.pointer (some ⟨p, 0, none⟩)] #[]) (.iface 74 (zx 0 0)) v es [txF1] true) true (fun W hW => ?_)).mono ?_
  · refine (behind_fin (h.later hW) pk7 txZL.toList (.slice none 0 0) (sees_7 W) rfl rfl rfl rfl).mono ?_
    rintro r w' ⟨rfl, h9, k9⟩
    exact ⟨rfl, ⟨_, h9⟩, h9.cells.2.2.2.2.2, k9⟩
  · rintro r w' ⟨rfl, h9, k9⟩
    exact ⟨rfl, h9, k9.mono (fun k _ e => e.elim (fun e => .inl (h.own.lt k e).1) .inr)⟩

set_option maxHeartbeats 4000000 in
theorem lives17 (w : World) (hn : Nam w) (hpn : PNam w) : Calls Tryz.prog 5 #[] w fun r w' => r = .returned (.bool true) ∧ Below w.heap.size w w' := by
  have HT : Hid (Nam w ∧ PNam w) := ⟨hn, hpn⟩
  clear hn hpn
  obtain ⟨P5, hP5⟩ : ∃ P5, P5 = (pkL pk5 fiC.toList (.slice none 0 0)).toArray := ⟨_, rfl⟩
  obtain ⟨P7, hP7⟩ : ∃ P7, P7 = (pkL pk7 txZL.toList (.slice none 0 0)).toArray := ⟨_, rfl⟩
  have HP5 : Hid (∀ W, Calls Tryz.prog 12 #[.agg pk5C] W fun e w' => e = .returned (.agg P5) ∧ Below W.heap.size W w') := by rw [hP5]; exact put_5
  have HP7 : Hid (∀ W, Calls Tryz.prog 12 #[.agg pk7C] W fun e w' => e = .returned (.agg P7) ∧ Below W.heap.size W w') := by rw [hP7]; exact put_7
  have HQ : Hid (P5 = (pkL pk5 fiC.toList (.slice none 0 0)).toArray ∧ P7 = (pkL pk7 txZL.toList (.slice none 0 0)).toArray) := ⟨hP5, hP7⟩
  clear hP5 hP7
  go_enter Tryz.func5, Tryz.ntmps5
  go_wp2_with fail
  go_at_call 11
  refine (new_no w).mono ?_
  rintro _ w1 ⟨p, hi, rfl, a1, hpw, b1⟩
  have lp1 := lt_of_block a1
  have H1 : Hid (LnS p w1.heap.size w1 1 hi (.func (.func 24) #[.pointer (some ⟨p, 0, none⟩)] #[]) (.iface 74 (zx 0 0)) (.slice none 0 0) [] [] false ∧ Below w.heap.size w w1) := ⟨⟨a1, World.ownsRow_nil _ _ _ _, FullE.nil _ _ _, lp1, Nat.le_refl _⟩, b1⟩
  have hs1 := b1.size
  clear a1 b1
  obtain ⟨B, hB⟩ : ∃ B, B = w1.heap.size := ⟨_, rfl⟩
  rw [← hB] at H1
  have hpB : p < B := by omega
  have hwB : w.heap.size ≤ B := by omega
  clear hB lp1 hs1
  go_wp2_with fail
  go_at_call 13
  refine (first_any w1).mono ?_
  rintro _ w2 ⟨rfl, b2⟩
  have H2 : Hid (Below w1.heap.size w1 w2) := b2
  clear b2
  go_wp2_with fail
  go_at_call 12
  refine (HP5.out w2).mono ?_
  rintro _ w3 ⟨rfl, b3⟩
  have H3b := H2.out.trans (b3.mono H2.out.size)
  have H3 : Hid (LnS p B w3 1 hi (.func (.func 24) #[.pointer (some ⟨p, 0, none⟩)] #[]) (.iface 74 (zx 0 0)) (.slice none 0 0) [] [] false ∧ Below w.heap.size w w3) := ⟨H1.out.1.later H3b, H1.out.2.trans (H3b.mono H1.out.2.size)⟩
  clear b3 H2 H3b H1
  go_wp2_with fail
  go_at_call 6
  rw [HQ.out.1]
  refine (take5 H3.out.1 (HT.out.1.below H3.out.2 HT.out.1.lt) (HT.out.2.below H3.out.2 HT.out.2.lt)).mono ?_
  rw [← HQ.out.1]
  rintro _ w4 ⟨rfl, ⟨v4, es4, h4⟩, k4⟩
  have H4 : Hid (LnS p B w4 1 (.slice none 0 0) (.func (.func 35) #[.pointer (some ⟨p, 0, none⟩)] #[]) (.iface 74 (zx 0 0)) v4 es4 [txF1] false ∧ Below w.heap.size w w4) := ⟨h4, H3.out.2.trans (k4.below H3.out.2.size (fun k e => by omega))⟩
  clear h4 k4 H3
  go_wp2_with fail
  go_at_call 13
  refine (first_any w4).mono ?_
  rintro _ w5 ⟨rfl, b5⟩
  have H5 : Hid (Below w4.heap.size w4 w5) := b5
  clear b5
  have hfd : ∀ w, (Instr.field 37 (.agg fiC) 0).run Tryz.prog w = .ok (zx 1 1) w := fun _ => by kernel_rfl
  go_wp2_with fail
  go_at_call 12
  refine (HP7.out w5).mono ?_
  rintro _ w6 ⟨rfl, b6⟩
  have H6b := H5.out.trans (b6.mono H5.out.size)
  have H6 : Hid (LnS p B w6 1 (.slice none 0 0) (.func (.func 35) #[.pointer (some ⟨p, 0, none⟩)] #[]) (.iface 74 (zx 0 0)) v4 es4 [txF1] false ∧ Below w.heap.size w w6) := ⟨H4.out.1.later H6b, H4.out.2.trans (H6b.mono H4.out.2.size)⟩
  clear b6 H5 H6b H4 hfd
  go_wp2_with fail
  go_at_call 6
  rw [HQ.out.2]
  refine (take7 H6.out.1 (HT.out.1.below H6.out.2 HT.out.1.lt) (HT.out.2.below H6.out.2 HT.out.2.lt)).mono ?_
  rw [← HQ.out.2]
  rintro _ w7 ⟨rfl, ⟨es7, h7⟩, k7⟩
  have H7 : Hid (LnS p B w7 1 (.slice none 0 0) (.func (.func 108) #[.pointer (some ⟨p, 0, none⟩)] #[]) (.iface 74 (zx 0 0)) v4 es7 [txF1] true ∧ Below w.heap.size w w7) := ⟨h7, H6.out.2.trans (k7.below H6.out.2.size (fun k e => by omega))⟩
  clear h7 k7 H6
  go_wp2_with fail
  go_at_call 7
  refine (brought_yes H7.out.1 (by decide) (fun t ht => by simp at ht; rw [ht]; decide +kernel)).mono ?_
  rintro _ w8 ⟨b8, v8, rfl, hs8⟩
  obtain ⟨bb, off, cap, xs, rfl, hxs, hc16, l0⟩ := txs_rowT hs8 0 (by decide)
  rw [show off + 0 * 16 = off by omega] at l0
  have b08 := H7.out.2.trans (b8.mono H7.out.2.size)
  obtain ⟨w9, hw9⟩ : ∃ w9, w9 = w8.alloc (.cells #[.int .u32 1, .bool false, .slice none 0 0, .int .u32 0, .int .u32 0, .slice (some ⟨bb, off, none⟩) 1 cap] 54) := ⟨_, rfl⟩
  have HE9 : Hid (w9 = w8.alloc (.cells #[.int .u32 1, .bool false, .slice none 0 0, .int .u32 0, .int .u32 0, .slice (some ⟨bb, off, none⟩) 1 cap] 54)) := hw9
  have b89 : Below w8.heap.size w8 w9 := by rw [hw9]; exact one_alloc _ _
  have r9 : w9.heap[w8.heap.size]? = some (.cells #[.int .u32 1, .bool false, .slice none 0 0, .int .u32 0, .int .u32 0, .slice (some ⟨bb, off, none⟩) 1 cap] 54 (0, 0)) := by rw [hw9]; exact heap_alloc_new _ _
  have HS : Hid (∀ W, Below w9.heap.size w9 W → W.cell? ⟨w8.heap.size, 5, none⟩ = some (.slice (some ⟨bb, off, none⟩) 1 cap) ∧ W.rangeAt bb off xs ∧ W.cell? ⟨w8.heap.size, 0, none⟩ = some (.int .u32 1)) := fun W hW =>
    ⟨cell_later (cell_of_row _ _ 5 _ _ _ r9) hW (Nat.le_refl _), fun j u hj => cell_later (cell_later (l0 j u hj) b89 (Nat.le_refl _)) hW (Nat.le_refl _), cell_later (cell_of_row _ _ 0 _ _ _ r9) hW (Nat.le_refl _)⟩
  have q16 : (Tryz.prog.info? 37).map (·.size) = some xs.length := by rw [hc16]; exact tx16
  have H9 : Hid (Below w.heap.size w w9 ∧ SeesTx w9 xs txF1) := ⟨b08.trans (b89.mono b08.size), hxs.below b89 (Nat.le_refl _)⟩
  clear hs8 hxs l0 b8 b08 hw9 b89 r9 H7 HP5 HP7 HQ HT
  go_upto_region 7 with fail
  rw [← HE9.out]
  clear HE9
  refine wp_region_held_drew (S := (fun W => W.cell? ⟨w8.heap.size, 5, none⟩ = some (.slice (some ⟨bb, off, none⟩) 1 cap) ∧ W.rangeAt bb off xs ∧ W.cell? ⟨w8.heap.size, 0, none⟩ = some (.int .u32 1))) (by kernel_rfl) ?_ (fun hHeld => ?_)
  · exact HS.out _ (below_drewN (Below.refl _ _) 1)
  refine wpAnyH_take (i := 0) (oi := { dst := some 42, op := Op.move (Operand.tmp 3), type := 4, pos := "law.go:47", after := #[], guard := none }) (v := ?_) rfl (by kernel_rfl) (by kernel_rfl) (by kernel_rfl) (fun _ _ _ h => h) (Or.inl ⟨by rfl, ?_⟩) (by assumption) ?_
  rotate_left
  · (intro w hSw; (try dsimp only at hSw); go_simp) <;> with_reducible rfl
  try simp only [Act.put, List.setIfInBounds_toArray, List.set_cons_zero, List.set_cons_succ]
  refine wpAnyH_take (i := 1) (oi := { dst := some 43, op := Op.unOp UnOp.not 4 (Operand.tmp 42), type := 4, pos := "law.go:47", after := #[{ on := 0, ground := Ground.data }], guard := none }) (v := ?_) rfl (by kernel_rfl) (by kernel_rfl) (by kernel_rfl) (fun _ _ _ h => h) (Or.inl ⟨by rfl, ?_⟩) (by assumption) ?_
  rotate_left
  · (intro w hSw; (try dsimp only at hSw); go_simp) <;> with_reducible rfl
  try simp only [Act.put, List.setIfInBounds_toArray, List.set_cons_zero, List.set_cons_succ]
  refine wpAnyH_take (i := 2) (oi := { dst := some 44, op := Op.move (Operand.tmp 43), type := 4, pos := "law.go:47", after := #[{ on := 1, ground := Ground.data }], guard := none }) (v := ?_) rfl (by kernel_rfl) (by kernel_rfl) (by kernel_rfl) (fun _ _ _ h => h) (Or.inl ⟨by rfl, ?_⟩) (by assumption) ?_
  rotate_left
  · (intro w hSw; (try dsimp only at hSw); go_simp) <;> with_reducible rfl
  try simp only [Act.put, List.setIfInBounds_toArray, List.set_cons_zero, List.set_cons_succ]
  refine wpAnyH_take (i := 3) (oi := { dst := some 45, op := Op.move (Operand.tmp 5), type := 4, pos := "law.go:47", after := #[{ on := 2, ground := Ground.guard }], guard := some (2, true) }) (v := ?_) rfl (by kernel_rfl) (by kernel_rfl) (by kernel_rfl) (fun _ _ _ h => h) (Or.inl ⟨by rfl, ?_⟩) (by assumption) ?_
  rotate_left
  · (intro w hSw; (try dsimp only at hSw); go_simp) <;> with_reducible rfl
  try simp only [Act.put, List.setIfInBounds_toArray, List.set_cons_zero, List.set_cons_succ]
  refine wpAnyH_take (i := 4) (oi := { dst := some 46, op := Op.pick (Operand.tmp 44) (Operand.tmp 45) (Operand.const (Value.bool false)), type := 4, pos := "law.go:47", after := #[{ on := 2, ground := Ground.data }, { on := 3, ground := Ground.data }], guard := none }) (v := ?_) rfl (by kernel_rfl) (by kernel_rfl) (by kernel_rfl) (fun _ _ _ h => h) (Or.inl ⟨by rfl, ?_⟩) (by assumption) ?_
  rotate_left
  · (intro w hSw; (try dsimp only at hSw); go_simp) <;> with_reducible rfl
  try simp only [Act.put, List.setIfInBounds_toArray, List.set_cons_zero, List.set_cons_succ]
  refine wpAnyH_take (i := 5) (oi := { dst := some 47, op := Op.move (Operand.tmp 46), type := 4, pos := "law.go:47", after := #[{ on := 4, ground := Ground.data }, { on := 2, ground := Ground.chain }], guard := none }) (v := ?_) rfl (by kernel_rfl) (by kernel_rfl) (by kernel_rfl) (fun _ _ _ h => h) (Or.inl ⟨by rfl, ?_⟩) (by assumption) ?_
  rotate_left
  · (intro w hSw; (try dsimp only at hSw); go_simp) <;> with_reducible rfl
  try simp only [Act.put, List.setIfInBounds_toArray, List.set_cons_zero, List.set_cons_succ]
  refine wpAnyH_take (i := 6) (oi := { dst := some 48, op := Op.move (Operand.tmp 4), type := 50, pos := "law.go:47", after := #[{ on := 5, ground := Ground.guard }], guard := some (5, true) }) (v := ?_) rfl (by kernel_rfl) (by kernel_rfl) (by kernel_rfl) (fun _ _ _ h => h) (Or.inl ⟨by rfl, ?_⟩) (by assumption) ?_
  rotate_left
  · (intro w hSw; (try dsimp only at hSw); go_simp) <;> with_reducible rfl
  try simp only [Act.put, List.setIfInBounds_toArray, List.set_cons_zero, List.set_cons_succ]
  refine wpAnyH_take (i := 7) (oi := { dst := some 49, op := Op.binOp BinOp.eql 50 (Operand.tmp 48) (Operand.const (Value.int IntKind.i64 0)) 50, type := 4, pos := "law.go:47", after := #[{ on := 6, ground := Ground.data }, { on := 5, ground := Ground.guard }], guard := some (5, true) }) (v := ?_) rfl (by kernel_rfl) (by kernel_rfl) (by kernel_rfl) (fun _ _ _ h => h) (Or.inl ⟨by rfl, ?_⟩) (by assumption) ?_
  rotate_left
  · (intro w hSw; (try dsimp only at hSw); go_simp) <;> with_reducible rfl
  try simp only [Act.put, List.setIfInBounds_toArray, List.set_cons_zero, List.set_cons_succ]
  refine wpAnyH_take (i := 8) (oi := { dst := some 50, op := Op.pick (Operand.tmp 47) (Operand.tmp 49) (Operand.const (Value.bool false)), type := 4, pos := "law.go:47", after := #[{ on := 5, ground := Ground.data }, { on := 7, ground := Ground.data }], guard := none }) (v := ?_) rfl (by kernel_rfl) (by kernel_rfl) (by kernel_rfl) (fun _ _ _ h => h) (Or.inl ⟨by rfl, ?_⟩) (by assumption) ?_
  rotate_left
  · (intro w hSw; (try dsimp only at hSw); go_simp) <;> with_reducible rfl
  try simp only [Act.put, List.setIfInBounds_toArray, List.set_cons_zero, List.set_cons_succ]
  refine wpAnyH_take (i := 9) (oi := { dst := some 51, op := Op.move (Operand.tmp 50), type := 4, pos := "law.go:47", after := #[{ on := 8, ground := Ground.data }, { on := 5, ground := Ground.chain }], guard := none }) (v := ?_) rfl (by kernel_rfl) (by kernel_rfl) (by kernel_rfl) (fun _ _ _ h => h) (Or.inl ⟨by rfl, ?_⟩) (by assumption) ?_
  rotate_left
  · (intro w hSw; (try dsimp only at hSw); go_simp) <;> with_reducible rfl
  try simp only [Act.put, List.setIfInBounds_toArray, List.set_cons_zero, List.set_cons_succ]
  refine wpAnyH_take (i := 10) (oi := { dst := some 52, op := Op.move (Operand.tmp 6), type := 50, pos := "law.go:47", after := #[{ on := 9, ground := Ground.guard }], guard := some (9, true) }) (v := ?_) rfl (by kernel_rfl) (by kernel_rfl) (by kernel_rfl) (fun _ _ _ h => h) (Or.inl ⟨by rfl, ?_⟩) (by assumption) ?_
  rotate_left
  · (intro w hSw; (try dsimp only at hSw); go_simp) <;> with_reducible rfl
  try simp only [Act.put, List.setIfInBounds_toArray, List.set_cons_zero, List.set_cons_succ]
  refine wpAnyH_take (i := 11) (oi := { dst := some 53, op := Op.binOp BinOp.eql 50 (Operand.tmp 52) (Operand.const (Value.int IntKind.i64 0)) 50, type := 4, pos := "law.go:47", after := #[{ on := 10, ground := Ground.data }, { on := 9, ground := Ground.guard }], guard := some (9, true) }) (v := ?_) rfl (by kernel_rfl) (by kernel_rfl) (by kernel_rfl) (fun _ _ _ h => h) (Or.inl ⟨by rfl, ?_⟩) (by assumption) ?_
  rotate_left
  · (intro w hSw; (try dsimp only at hSw); go_simp) <;> with_reducible rfl
  try simp only [Act.put, List.setIfInBounds_toArray, List.set_cons_zero, List.set_cons_succ]
  refine wpAnyH_take (i := 12) (oi := { dst := some 54, op := Op.pick (Operand.tmp 51) (Operand.tmp 53) (Operand.const (Value.bool false)), type := 4, pos := "law.go:47", after := #[{ on := 9, ground := Ground.data }, { on := 11, ground := Ground.data }], guard := none }) (v := ?_) rfl (by kernel_rfl) (by kernel_rfl) (by kernel_rfl) (fun _ _ _ h => h) (Or.inl ⟨by rfl, ?_⟩) (by assumption) ?_
  rotate_left
  · (intro w hSw; (try dsimp only at hSw); go_simp) <;> with_reducible rfl
  try simp only [Act.put, List.setIfInBounds_toArray, List.set_cons_zero, List.set_cons_succ]
  refine wpAnyH_take (i := 13) (oi := { dst := some 55, op := Op.move (Operand.tmp 54), type := 4, pos := "law.go:47", after := #[{ on := 12, ground := Ground.data }, { on := 9, ground := Ground.chain }], guard := none }) (v := ?_) rfl (by kernel_rfl) (by kernel_rfl) (by kernel_rfl) (fun _ _ _ h => h) (Or.inl ⟨by rfl, ?_⟩) (by assumption) ?_
  rotate_left
  · (intro w hSw; (try dsimp only at hSw); go_simp) <;> with_reducible rfl
  try simp only [Act.put, List.setIfInBounds_toArray, List.set_cons_zero, List.set_cons_succ]
  refine wpAnyH_take (i := 14) (oi := { dst := some 56, op := Op.move (Operand.tmp 8), type := 4, pos := "law.go:47", after := #[{ on := 13, ground := Ground.guard }], guard := some (13, true) }) (v := ?_) rfl (by kernel_rfl) (by kernel_rfl) (by kernel_rfl) (fun _ _ _ h => h) (Or.inl ⟨by rfl, ?_⟩) (by assumption) ?_
  rotate_left
  · (intro w hSw; (try dsimp only at hSw); go_simp) <;> with_reducible rfl
  try simp only [Act.put, List.setIfInBounds_toArray, List.set_cons_zero, List.set_cons_succ]
  refine wpAnyH_take (i := 15) (oi := { dst := some 57, op := Op.pick (Operand.tmp 55) (Operand.tmp 56) (Operand.const (Value.bool false)), type := 4, pos := "law.go:47", after := #[{ on := 13, ground := Ground.data }, { on := 14, ground := Ground.data }], guard := none }) (v := ?_) rfl (by kernel_rfl) (by kernel_rfl) (by kernel_rfl) (fun _ _ _ h => h) (Or.inl ⟨by rfl, ?_⟩) (by assumption) ?_
  rotate_left
  · (intro w hSw; (try dsimp only at hSw); go_simp) <;> with_reducible rfl
  try simp only [Act.put, List.setIfInBounds_toArray, List.set_cons_zero, List.set_cons_succ]
  refine wpAnyH_take (i := 16) (oi := { dst := some 58, op := Op.move (Operand.tmp 57), type := 4, pos := "law.go:47", after := #[{ on := 15, ground := Ground.data }, { on := 13, ground := Ground.chain }], guard := none }) (v := ?_) rfl (by kernel_rfl) (by kernel_rfl) (by kernel_rfl) (fun _ _ _ h => h) (Or.inl ⟨by rfl, ?_⟩) (by assumption) ?_
  rotate_left
  · (intro w hSw; (try dsimp only at hSw); go_simp) <;> with_reducible rfl
  try simp only [Act.put, List.setIfInBounds_toArray, List.set_cons_zero, List.set_cons_succ]
  refine wpAnyH_take (i := 17) (oi := { dst := some 59, op := Op.fieldAddr 54 (Operand.tmp 7) 4, type := 0, pos := "law.go:47", after := #[{ on := 16, ground := Ground.guard }], guard := some (16, true) }) (v := ?_) rfl (by kernel_rfl) (by kernel_rfl) (by kernel_rfl) (fun _ _ _ h => h) (Or.inl ⟨by rfl, ?_⟩) (by assumption) ?_
  rotate_left
  · (intro w hSw; (try dsimp only at hSw); go_simp) <;> with_reducible rfl
  try simp only [Act.put, List.setIfInBounds_toArray, List.set_cons_zero, List.set_cons_succ]
  refine wpAnyH_take (i := 18) (oi := { dst := some 60, op := Op.load 47 (Operand.tmp 59), type := 47, pos := "law.go:47", after := #[{ on := 17, ground := Ground.data }, { on := 16, ground := Ground.guard }], guard := some (16, true) }) (v := ?_) rfl (by kernel_rfl) (by kernel_rfl) (by kernel_rfl) (fun _ _ _ h => h) (Or.inl ⟨by rfl, ?_⟩) (by assumption) ?_
  rotate_left
  · (intro w hSw; (try dsimp only at hSw); go_simp) <;> with_reducible rfl
  try simp only [Act.put, List.setIfInBounds_toArray, List.set_cons_zero, List.set_cons_succ]
  refine wpAnyH_take (i := 19) (oi := { dst := some 61, op := Op.call { callee := Callee.builtin Builtin.len, args := #[Operand.tmp 60], argTypes := #[47] }, type := 3, pos := "law.go:47", after := #[{ on := 18, ground := Ground.data }, { on := 16, ground := Ground.guard }], guard := some (16, true) }) (v := ?_) rfl (by kernel_rfl) (by kernel_rfl) (by kernel_rfl) (fun _ _ _ h => h) (Or.inl ⟨by rfl, ?_⟩) (by assumption) ?_
  rotate_left
  · (intro w hSw; (try dsimp only at hSw); go_simp) <;> with_reducible rfl
  try simp only [Act.put, List.setIfInBounds_toArray, List.set_cons_zero, List.set_cons_succ]
  refine wpAnyH_take (i := 20) (oi := { dst := some 62, op := Op.binOp BinOp.eql 3 (Operand.tmp 61) (Operand.const (Value.int IntKind.i64 1)) 3, type := 4, pos := "law.go:47", after := #[{ on := 19, ground := Ground.data }, { on := 16, ground := Ground.guard }], guard := some (16, true) }) (v := ?_) rfl (by kernel_rfl) (by kernel_rfl) (by kernel_rfl) (fun _ _ _ h => h) (Or.inl ⟨by rfl, ?_⟩) (by assumption) ?_
  rotate_left
  · (intro w hSw; (try dsimp only at hSw); go_simp) <;> with_reducible rfl
  try simp only [Act.put, List.setIfInBounds_toArray, List.set_cons_zero, List.set_cons_succ]
  refine wpAnyH_take (i := 21) (oi := { dst := some 63, op := Op.pick (Operand.tmp 58) (Operand.tmp 62) (Operand.const (Value.bool false)), type := 4, pos := "law.go:47", after := #[{ on := 16, ground := Ground.data }, { on := 20, ground := Ground.data }], guard := none }) (v := ?_) rfl (by kernel_rfl) (by kernel_rfl) (by kernel_rfl) (fun _ _ _ h => h) (Or.inl ⟨by rfl, ?_⟩) (by assumption) ?_
  rotate_left
  · (intro w hSw; (try dsimp only at hSw); go_simp) <;> with_reducible rfl
  try simp only [Act.put, List.setIfInBounds_toArray, List.set_cons_zero, List.set_cons_succ]
  refine wpAnyH_take (i := 22) (oi := { dst := some 64, op := Op.move (Operand.tmp 63), type := 4, pos := "law.go:47", after := #[{ on := 21, ground := Ground.data }, { on := 16, ground := Ground.chain }], guard := none }) (v := ?_) rfl (by kernel_rfl) (by kernel_rfl) (by kernel_rfl) (fun _ _ _ h => h) (Or.inl ⟨by rfl, ?_⟩) (by assumption) ?_
  rotate_left
  · (intro w hSw; (try dsimp only at hSw); go_simp) <;> with_reducible rfl
  try simp only [Act.put, List.setIfInBounds_toArray, List.set_cons_zero, List.set_cons_succ]
  refine wpAnyH_take (i := 23) (oi := { dst := some 65, op := Op.fieldAddr 54 (Operand.tmp 7) 4, type := 0, pos := "law.go:47", after := #[{ on := 22, ground := Ground.guard }], guard := some (22, true) }) (v := ?_) rfl (by kernel_rfl) (by kernel_rfl) (by kernel_rfl) (fun _ _ _ h => h) (Or.inl ⟨by rfl, ?_⟩) (by assumption) ?_
  rotate_left
  · (intro w hSw; (try dsimp only at hSw); go_simp) <;> with_reducible rfl
  try simp only [Act.put, List.setIfInBounds_toArray, List.set_cons_zero, List.set_cons_succ]
  refine wpAnyH_take (i := 24) (oi := { dst := some 66, op := Op.load 47 (Operand.tmp 65), type := 47, pos := "law.go:47", after := #[{ on := 23, ground := Ground.data }, { on := 22, ground := Ground.guard }], guard := some (22, true) }) (v := ?_) rfl (by kernel_rfl) (by kernel_rfl) (by kernel_rfl) (fun _ _ _ h => h) (Or.inl ⟨by rfl, ?_⟩) (by assumption) ?_
  rotate_left
  · (intro w hSw; (try dsimp only at hSw); go_simp) <;> with_reducible rfl
  try simp only [Act.put, List.setIfInBounds_toArray, List.set_cons_zero, List.set_cons_succ]
  refine wpAnyH_take (i := 25) (oi := { dst := some 67, op := Op.indexAddr 47 (Operand.tmp 66) (Operand.const (Value.int IntKind.i64 0)), type := 0, pos := "law.go:47", after := #[{ on := 24, ground := Ground.data }, { on := 22, ground := Ground.guard }], guard := some (22, true) }) (v := ?_) rfl (by kernel_rfl) (by kernel_rfl) (by kernel_rfl) (fun _ _ _ h => h) (Or.inl ⟨by rfl, ?_⟩) (by assumption) ?_
  rotate_left
  · (intro w hSw; (try dsimp only at hSw); go_simp) <;> with_reducible rfl
  try simp only [Act.put, List.setIfInBounds_toArray, List.set_cons_zero, List.set_cons_succ]
  refine wpAnyH_take (i := 26) (oi := { dst := some 68, op := Op.load 37 (Operand.tmp 67), type := 37, pos := "law.go:47", after := #[{ on := 25, ground := Ground.data }, { on := 22, ground := Ground.guard }], guard := some (22, true) }) (v := .agg xs.toArray) rfl (by kernel_rfl) (by kernel_rfl) (by kernel_rfl) (fun _ _ _ h => h) (yieldsIf_load_mid (by kernel_rfl) 37 _ rfl bb off rfl xs _ (fun _ h => h.2.1) Tryz.underlying37 rfl q16) (by assumption) ?_
  try simp only [Act.put, List.setIfInBounds_toArray, List.set_cons_zero, List.set_cons_succ]
  refine wpAnyH_ready (rs := [27]) (by kernel_rfl) (by simp) ?_
  refine AllReadyH.cons (o := { dst := some 69, op := Op.call { callee := Callee.value (Operand.func 13), args := #[], argTypes := #[] }, type := 37, pos := "law.go:47", after := #[{ on := 22, ground := Ground.chain }, { on := 22, ground := Ground.guard }], guard := some (22, true) }) rfl (fun K hK => ?_) AllReadyH.nil
  go_simp
  refine (first_any _).mono ?_
  rintro _ wa ⟨rfl, ba⟩
  have HBa : Hid (Below w9.heap.size w9 wa) := (below_drewN (Below.refl w9.heap.size w9) 1).trans ba
  clear ba
  refine hK.out _ _ (HS.out _ HBa.out) (fun hHeld => ?_)
  clear hK K
  refine wpAnyH_ready (rs := [28]) (by kernel_rfl) (by simp) ?_
  refine AllReadyH.cons (o := { dst := some 70, op := Op.call { callee := Callee.value (Operand.func 14), args := #[Operand.tmp 68, Operand.tmp 69], argTypes := #[37, 37] }, type := 4, pos := "law.go:47", after := #[{ on := 26, ground := Ground.data }, { on := 27, ground := Ground.data }, { on := 27, ground := Ground.chain }, { on := 22, ground := Ground.guard }], guard := some (22, true) }) rfl (fun K hK => ?_) AllReadyH.nil
  go_simp
  refine (eqTxn_same xs fiC.toList txF1 wa (H9.out.2.below HBa.out (Nat.le_refl _)) (sees_f1 wa)).mono ?_
  rintro _ wb ⟨rfl, bb2⟩
  have HBb : Hid (Below w9.heap.size w9 wb) := HBa.out.trans (bb2.mono HBa.out.size)
  clear bb2
  refine hK.out _ _ (HS.out _ HBb.out) (fun hHeld => ?_)
  clear hK K
  refine wpAnyH_take (i := 29) (oi := { dst := some 71, op := Op.pick (Operand.tmp 64) (Operand.tmp 70) (Operand.const (Value.bool false)), type := 4, pos := "law.go:47", after := #[{ on := 22, ground := Ground.data }, { on := 28, ground := Ground.data }], guard := none }) (v := ?_) rfl (by kernel_rfl) (by kernel_rfl) (by kernel_rfl) (fun _ _ _ h => h) (Or.inl ⟨by rfl, ?_⟩) (by assumption) ?_
  rotate_left
  · (intro w hSw; (try dsimp only at hSw); go_simp) <;> with_reducible rfl
  try simp only [Act.put, List.setIfInBounds_toArray, List.set_cons_zero, List.set_cons_succ]
  refine wpAnyH_take (i := 30) (oi := { dst := some 72, op := Op.move (Operand.tmp 71), type := 4, pos := "law.go:47", after := #[{ on := 29, ground := Ground.data }, { on := 28, ground := Ground.chain }], guard := none }) (v := ?_) rfl (by kernel_rfl) (by kernel_rfl) (by kernel_rfl) (fun _ _ _ h => h) (Or.inl ⟨by rfl, ?_⟩) (by assumption) ?_
  rotate_left
  · (intro w hSw; (try dsimp only at hSw); go_simp) <;> with_reducible rfl
  try simp only [Act.put, List.setIfInBounds_toArray, List.set_cons_zero, List.set_cons_succ]
  refine wpAnyH_take (i := 31) (oi := { dst := some 73, op := Op.fieldAddr 54 (Operand.tmp 7) 0, type := 0, pos := "law.go:47", after := #[{ on := 30, ground := Ground.guard }], guard := some (30, true) }) (v := ?_) rfl (by kernel_rfl) (by kernel_rfl) (by kernel_rfl) (fun _ _ _ h => h) (Or.inl ⟨by rfl, ?_⟩) (by assumption) ?_
  rotate_left
  · (intro w hSw; (try dsimp only at hSw); go_simp) <;> with_reducible rfl
  try simp only [Act.put, List.setIfInBounds_toArray, List.set_cons_zero, List.set_cons_succ]
  refine wpAnyH_take (i := 32) (oi := { dst := some 74, op := Op.load 23 (Operand.tmp 73), type := 23, pos := "law.go:47", after := #[{ on := 31, ground := Ground.data }, { on := 30, ground := Ground.guard }], guard := some (30, true) }) (v := ?_) rfl (by kernel_rfl) (by kernel_rfl) (by kernel_rfl) (fun _ _ _ h => h) (Or.inl ⟨by rfl, ?_⟩) (by assumption) ?_
  rotate_left
  · (intro w hSw; (try dsimp only at hSw); go_simp) <;> with_reducible rfl
  try simp only [Act.put, List.setIfInBounds_toArray, List.set_cons_zero, List.set_cons_succ]
  refine wpAnyH_take (i := 33) (oi := { dst := some 75, op := Op.binOp BinOp.eql 23 (Operand.tmp 74) (Operand.const (Value.int IntKind.u32 1)) 23, type := 4, pos := "law.go:47", after := #[{ on := 32, ground := Ground.data }, { on := 30, ground := Ground.guard }], guard := some (30, true) }) (v := ?_) rfl (by kernel_rfl) (by kernel_rfl) (by kernel_rfl) (fun _ _ _ h => h) (Or.inl ⟨by rfl, ?_⟩) (by assumption) ?_
  rotate_left
  · (intro w hSw; (try dsimp only at hSw); go_simp) <;> with_reducible rfl
  try simp only [Act.put, List.setIfInBounds_toArray, List.set_cons_zero, List.set_cons_succ]
  refine wpAnyH_take (i := 34) (oi := { dst := some 76, op := Op.pick (Operand.tmp 72) (Operand.tmp 75) (Operand.const (Value.bool false)), type := 4, pos := "law.go:47", after := #[{ on := 30, ground := Ground.data }, { on := 33, ground := Ground.data }], guard := none }) (v := ?_) rfl (by kernel_rfl) (by kernel_rfl) (by kernel_rfl) (fun _ _ _ h => h) (Or.inl ⟨by rfl, ?_⟩) (by assumption) ?_
  rotate_left
  · (intro w hSw; (try dsimp only at hSw); go_simp) <;> with_reducible rfl
  try simp only [Act.put, List.setIfInBounds_toArray, List.set_cons_zero, List.set_cons_succ]
  refine wpAnyH_take (i := 35) (oi := { dst := some 0, op := Op.assign (Operand.tmp 76), type := 4, pos := "law.go:47", after := #[{ on := 34, ground := Ground.data }, { on := 30, ground := Ground.chain }, { on := 0, ground := Ground.phase }, { on := 1, ground := Ground.phase }, { on := 2, ground := Ground.phase }, { on := 3, ground := Ground.phase }, { on := 4, ground := Ground.phase }, { on := 5, ground := Ground.phase }, { on := 6, ground := Ground.phase }, { on := 7, ground := Ground.phase }, { on := 8, ground := Ground.phase }, { on := 9, ground := Ground.phase }, { on := 10, ground := Ground.phase }, { on := 11, ground := Ground.phase }, { on := 12, ground := Ground.phase }, { on := 13, ground := Ground.phase }, { on := 14, ground := Ground.phase }, { on := 15, ground := Ground.phase }, { on := 16, ground := Ground.phase }, { on := 17, ground := Ground.phase }, { on := 18, ground := Ground.phase }, { on := 19, ground := Ground.phase }, { on := 20, ground := Ground.phase }, { on := 21, ground := Ground.phase }, { on := 22, ground := Ground.phase }, { on := 23, ground := Ground.phase }, { on := 24, ground := Ground.phase }, { on := 25, ground := Ground.phase }, { on := 26, ground := Ground.phase }, { on := 27, ground := Ground.phase }, { on := 28, ground := Ground.phase }, { on := 29, ground := Ground.phase }, { on := 30, ground := Ground.phase }, { on := 31, ground := Ground.phase }, { on := 32, ground := Ground.phase }, { on := 33, ground := Ground.phase }, { on := 34, ground := Ground.phase }], guard := none }) (v := ?_) rfl (by kernel_rfl) (by kernel_rfl) (by kernel_rfl) (fun _ _ _ h => h) (Or.inl ⟨by rfl, ?_⟩) (by assumption) ?_
  rotate_left
  · (intro w hSw; (try dsimp only at hSw); go_simp) <;> with_reducible rfl
  try simp only [Act.put, List.setIfInBounds_toArray, List.set_cons_zero, List.set_cons_succ]
  refine wpAnyH_done (by kernel_rfl) ?_ _
  clear hHeld HS HBa
  have HZ : Hid (Below w.heap.size w wb) := H9.out.1.trans (HBb.out.mono H9.out.1.size)
  clear HBb H9
  go_wp2
  go_ret
  exact ⟨rfl, HZ.out⟩
end Go.Proofs.YtgjjcmhlmdfccaaGreatDoor
