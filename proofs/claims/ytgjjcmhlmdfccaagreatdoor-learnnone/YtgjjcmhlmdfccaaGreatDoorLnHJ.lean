/- What Take of a Learner answers, where the packet fits. -/
import Derived.Test.YtgjjcmhlmdfccaaGreatDoorLnGJ
import Derived.Test.YtgjjcmhlmdfccaaGreatDoorPkJJ
namespace Go.Proofs.YtgjjcmhlmdfccaaGreatDoor
open Go.RowKit
set_option maxRecDepth 8000
set_option linter.unusedSimpArgs false
set_option linter.unusedVariables false

set_option maxHeartbeats 4000000 in
theorem take_yes {p B : Nat} {w : World} {ep : Int} {hi v : Value} {F : Nat} {e n : Int} {es : List (List Value)} {l : List TxD} {dn : Bool} (h : LnS p B w ep hi (.func (.func F) #[.pointer (some ⟨p, 0, none⟩)] #[]) (.iface 74 (zx e n)) v es l dn)
    (hen : ∀ args w, (callFunc F args).run Tryz.prog w = .ok (.enter F args) w) (q : PkD) (tc : List Value) (bv : Value) (hs : SeesPk w tc bv q) (hg : q.good) (hn : Nam w) (hpn : PNam w) (tz : Bool) (hz : tz = true ↔ q.tx = txN) (hck : chkP q tz = true) (R : World → Prop) (dn' : Bool)
    (hnx : ∀ W, Below w.heap.size w W → Calls Tryz.prog F #[.pointer (some ⟨p, 0, none⟩), .agg (pkL q tc bv).toArray] W fun r w' => r = .returned (.bool true) ∧ R w' ∧ w'.cell? ⟨p, 5, none⟩ = some (.bool dn') ∧ Kept W w' (fun k => v.ownBlock = some k ∨ k = p)) :
    Calls Tryz.prog 6 #[.pointer (some ⟨p, 0, none⟩), .agg (pkL q tc bv).toArray] w fun r w' => r = .returned (.tuple #[.bool dn', .int .i64 0]) ∧ R w' ∧ Kept w w' (fun k => v.ownBlock = some k ∨ k = p) := by
  have hc16 := hs.tx.len
  have hbW := h.bW
  obtain ⟨V, hV⟩ : ∃ V, V = w.alloc (.cells (pkL q tc bv).toArray 39) := ⟨_, rfl⟩
  have hbV : Below w.heap.size w V := by rw [hV]; exact one_alloc _ _
  have rV : PkAt V w.heap.size q tc bv := by rw [hV]; exact heap_alloc_new _ _
  obtain ⟨bx, hbx⟩ : ∃ bx, bx = w.heap.size := ⟨_, rfl⟩
  rw [← hbx] at rV
  have hlp := lt_of_block h.at_
  have hbxp : bx ≠ p := by omega
  have hvbx : ∀ k, v.ownBlock = some k → k ≠ bx := fun k e => by have := (h.own.lt k e).2; omega
  have lbx := lt_of_block rV
  have HEV : Hid (V = w.alloc (.cells (pkL q tc bv).toArray 39)) := hV
  have HV : Hid (Below w.heap.size w V ∧ PkAt V bx q tc bv ∧ LnS p B V ep hi (.func (.func F) #[.pointer (some ⟨p, 0, none⟩)] #[]) (.iface 74 (zx e n)) v es l dn) := ⟨hbV, rV, h.later hbV⟩
  have hbd : Below w.heap.size w V.drew := below_drewN hbV 1
  have hck9 := checkP_any q tc bv tz hz V.drew hg (hs.below hbd (Nat.le_refl _)) (hn.below hbd hn.lt) (hpn.below hbd hpn.lt)
  rw [hck] at hck9
  have HCk : Hid _ := hck9
  have HNo : Hid _ := noneL_yes HV.out.2.2.at_
  have HNX : Hid _ := hnx
  obtain ⟨cs, hcs⟩ : ∃ cs, cs = pkL q tc bv := ⟨_, rfl⟩
  have q32 : (Tryz.prog.info? 39).map (·.size) = some cs.length := by
    have : cs.length = 32 := by rw [hcs]; simp [pkL, hc16]
    rw [this]; exact pkSz9
  have g1 : V.drew.rangeAt bx 0 cs := fun j u hj => by
    have : V.cell? ⟨bx, 0 + j, none⟩ = some u := by rw [Nat.zero_add, cell_of_row _ _ _ _ _ _ rV, List.getElem?_toArray, ← hcs]; exact hj
    exact this
  rw [← hcs] at HCk HNX HEV ⊢
  clear hV hbV rV h hs hcs hbd hck9 hnx hg hn hpn hz hck
  go_enter Tryz.func6, Tryz.ntmps6
  go_upto_region 1 with fail
  rw [← HEV.out, ← hbx]
  clear HEV hbx
  go_wp2_with fail
  go_at_call 15
  refine Calls.mono HNo.out ?_
  rintro _ w9 ⟨rfl, hw9⟩
  rw [hw9]
  clear HNo hw9
  go_upto_region 3 with fail
  refine wp_region_held_drew (S := (fun W => W.rangeAt bx 0 cs)) (by kernel_rfl) ?_ (fun hHeld => ?_)
  · exact g1
  refine wpAnyH_take (i := 0) (oi := { dst := some 8, op := Op.load 39 (Operand.tmp 3), type := 39, pos := "learn.go:36", after := #[], guard := none }) (v := .agg cs.toArray) rfl (by kernel_rfl) (by kernel_rfl) (by kernel_rfl) (fun _ _ _ h => h) (yieldsIf_load_mid rfl 39 _ rfl bx 0 rfl cs _ (fun _ h => h) Tryz.underlying39 rfl q32) (by assumption) ?_
  try simp only [Act.put, List.setIfInBounds_toArray, List.set_cons_zero, List.set_cons_succ]
  refine wpAnyH_ready (rs := [1]) (by kernel_rfl) (by simp) ?_
  refine AllReadyH.cons (o := { dst := some 9, op := Op.call { callee := Callee.value (Operand.func 16), args := #[Operand.tmp 8], argTypes := #[39] }, type := 50, pos := "learn.go:36", after := #[{ on := 0, ground := Ground.data }], guard := none }) rfl (fun K hK => ?_) AllReadyH.nil
  go_simp
  refine Calls.mono HCk.out ?_
  rintro _ w2 ⟨rfl, b2⟩
  have HB2 : Hid (Below V.heap.size V w2) := (below_drewN (Below.refl V.heap.size V) 1).trans b2
  have g2 : w2.rangeAt bx 0 cs := fun j u hj => cell_later (g1 j u hj) b2 (Nat.le_refl _)
  have k2 : w2.cell? ⟨p, 2, none⟩ = some (.func (.func F) #[.pointer (some ⟨p, 0, none⟩)] #[]) := (HV.out.2.2.later HB2.out).cells.2.2.1
  clear b2
  refine hK.out _ _ g2 (fun hHeld => ?_)
  clear hK K
  refine wpAnyH_take (i := 2) (oi := { dst := some 10, op := Op.binOp BinOp.neq 50 (Operand.tmp 9) (Operand.const (Value.int IntKind.i64 0)) 50, type := 4, pos := "learn.go:36", after := #[{ on := 1, ground := Ground.data }], guard := none }) (v := ?_) rfl (by kernel_rfl) (by kernel_rfl) (by kernel_rfl) (fun _ _ _ h => h) (Or.inl ⟨by rfl, ?_⟩) (by assumption) ?_
  rotate_left
  · (intro w hSw; (try dsimp only at hSw); go_simp) <;> with_reducible rfl
  try simp only [Act.put, List.setIfInBounds_toArray, List.set_cons_zero, List.set_cons_succ]
  refine wpAnyH_take (i := 3) (oi := { dst := some 11, op := Op.move (Operand.tmp 10), type := 4, pos := "learn.go:36", after := #[{ on := 2, ground := Ground.data }, { on := 1, ground := Ground.chain }], guard := none }) (v := ?_) rfl (by kernel_rfl) (by kernel_rfl) (by kernel_rfl) (fun _ _ _ h => h) (Or.inl ⟨by rfl, ?_⟩) (by assumption) ?_
  rotate_left
  · (intro w hSw; (try dsimp only at hSw); go_simp) <;> with_reducible rfl
  try simp only [Act.put, List.setIfInBounds_toArray, List.set_cons_zero, List.set_cons_succ]
  refine wpAnyH_take (i := 4) (oi := { dst := some 12, op := Op.move (Operand.tmp 0), type := 42, pos := "learn.go:36", after := #[{ on := 3, ground := Ground.guard }], guard := some (3, false) }) (v := ?_) rfl (by kernel_rfl) (by kernel_rfl) (by kernel_rfl) (fun _ _ _ h => h) (Or.inl ⟨by rfl, ?_⟩) (by assumption) ?_
  rotate_left
  · (intro w hSw; (try dsimp only at hSw); go_simp) <;> with_reducible rfl
  try simp only [Act.put, List.setIfInBounds_toArray, List.set_cons_zero, List.set_cons_succ]
  refine wpAnyH_take (i := 5) (oi := { dst := some 13, op := Op.nilCheck (Operand.tmp 12), type := 0, pos := "learn.go:36", after := #[{ on := 4, ground := Ground.data }, { on := 3, ground := Ground.guard }], guard := some (3, false) }) (v := ?_) rfl (by kernel_rfl) (by kernel_rfl) (by kernel_rfl) (fun _ _ _ h => h) (Or.inl ⟨by rfl, ?_⟩) (by assumption) ?_
  rotate_left
  · (intro w hSw; (try dsimp only at hSw); go_simp) <;> with_reducible rfl
  try simp only [Act.put, List.setIfInBounds_toArray, List.set_cons_zero, List.set_cons_succ]
  refine wpAnyH_take (i := 6) (oi := { dst := some 14, op := Op.fieldAddr 49 (Operand.tmp 13) 2, type := 0, pos := "learn.go:36", after := #[{ on := 5, ground := Ground.data }, { on := 3, ground := Ground.guard }], guard := some (3, false) }) (v := ?_) rfl (by kernel_rfl) (by kernel_rfl) (by kernel_rfl) (fun _ _ _ h => h) (Or.inl ⟨by rfl, ?_⟩) (by assumption) ?_
  rotate_left
  · (intro w hSw; (try dsimp only at hSw); go_simp) <;> with_reducible rfl
  try simp only [Act.put, List.setIfInBounds_toArray, List.set_cons_zero, List.set_cons_succ]
  refine wpAnyH_take (i := 8) (oi := { dst := some 16, op := Op.load 39 (Operand.tmp 3), type := 39, pos := "learn.go:36", after := #[{ on := 3, ground := Ground.guard }], guard := some (3, false) }) (v := .agg cs.toArray) rfl (by kernel_rfl) (by kernel_rfl) (by kernel_rfl) (fun _ _ _ h => h) (yieldsIf_load_mid (by kernel_rfl) 39 _ rfl bx 0 rfl cs _ (fun _ h => h) Tryz.underlying39 rfl q32) (by assumption) ?_
  try simp only [Act.put, List.setIfInBounds_toArray, List.set_cons_zero, List.set_cons_succ]
  refine wpAnyH_ready (rs := [7]) (by kernel_rfl) (by simp) ?_
  refine AllReadyH.cons (o := { dst := some 15, op := Op.load 44 (Operand.tmp 14), type := 44, pos := "learn.go:36", after := #[{ on := 6, ground := Ground.data }, { on := 3, ground := Ground.guard }], guard := some (3, false) }) rfl (fun K hK => ?_) AllReadyH.nil
  go_simp
  refine hK.out _ _ g2 (fun hHeld => ?_)
  clear hK K
  refine wpAnyH_ready (rs := [9]) (by kernel_rfl) (by simp) ?_
  refine AllReadyH.cons (o := { dst := some 17, op := Op.call { callee := Callee.value (Operand.tmp 15), args := #[Operand.tmp 16], argTypes := #[39] }, type := 4, pos := "learn.go:36", after := #[{ on := 7, ground := Ground.data }, { on := 8, ground := Ground.data }, { on := 3, ground := Ground.chain }, { on := 3, ground := Ground.guard }], guard := some (3, false) }) rfl (fun K hK => ?_) AllReadyH.nil
  go_simp
  refine (HNX.out w2 (HV.out.1.trans (HB2.out.mono HV.out.1.size))).mono ?_
  rintro _ w3 ⟨rfl, hr3, k5, hk3⟩
  have g3 : w3.rangeAt bx 0 cs := fun j u hj => (World.cell?_of_block (hk3.block bx (Nat.lt_of_lt_of_le lbx HB2.out.size) (fun e => e.elim (fun e => hvbx bx e rfl) hbxp))).trans (g2 j u hj)
  have H3 : Hid (R w3 ∧ Kept w w3 (fun k => v.ownBlock = some k ∨ k = p)) := ⟨hr3, ((Below.kept (HV.out.1.trans (HB2.out.mono HV.out.1.size))).mono (fun k h1 h2 => by omega)).trans hk3 (fun k _ e => e)⟩
  clear hr3 hk3
  refine hK.out _ _ g3 (fun hHeld => ?_)
  clear hK K
  refine wpAnyH_take (i := 10) (oi := { dst := some 18, op := Op.unOp UnOp.not 4 (Operand.tmp 17), type := 4, pos := "learn.go:36", after := #[{ on := 9, ground := Ground.data }, { on := 3, ground := Ground.guard }], guard := some (3, false) }) (v := ?_) rfl (by kernel_rfl) (by kernel_rfl) (by kernel_rfl) (fun _ _ _ h => h) (Or.inl ⟨by rfl, ?_⟩) (by assumption) ?_
  rotate_left
  · (intro w hSw; (try dsimp only at hSw); go_simp) <;> with_reducible rfl
  try simp only [Act.put, List.setIfInBounds_toArray, List.set_cons_zero, List.set_cons_succ]
  refine wpAnyH_take (i := 11) (oi := { dst := some 19, op := Op.pick (Operand.tmp 11) (Operand.const (Value.bool true)) (Operand.tmp 18), type := 4, pos := "learn.go:36", after := #[{ on := 3, ground := Ground.data }, { on := 10, ground := Ground.data }], guard := none }) (v := ?_) rfl (by kernel_rfl) (by kernel_rfl) (by kernel_rfl) (fun _ _ _ h => h) (Or.inl ⟨by rfl, ?_⟩) (by assumption) ?_
  rotate_left
  · (intro w hSw; (try dsimp only at hSw); go_simp) <;> with_reducible rfl
  try simp only [Act.put, List.setIfInBounds_toArray, List.set_cons_zero, List.set_cons_succ]
  refine wpAnyH_done (by kernel_rfl) ?_ _
  clear hHeld g1 g2 g3 k2 HV HB2 HCk HNX hen
  have lp3 : p < w3.heap.size := World.block_lt_of_cell? w3 _ k5
  go_wp2
  go_ret2
  exact ⟨rfl, H3.out⟩
end Go.Proofs.YtgjjcmhlmdfccaaGreatDoor
