/- What add and finish of a Learner answer, where the packet fits. -/
import Derived.Test.YtgjjcmhlmdfccaaGreatDoorRgIJ
import Derived.Test.YtgjjcmhlmdfccaaGreatDoorClDJ
import Derived.Test.YtgjjcmhlmdfccaaGreatDoorPkAJ
namespace Go.Proofs.YtgjjcmhlmdfccaaGreatDoor
open Go.RowKit
set_option maxRecDepth 8000
set_option linter.unusedSimpArgs false

theorem neqZxL (e n : Int) (w : World) : (binOp .neq 27 (.agg #[.int .u32 e, .int .u32 n]) (.agg #[.int .u32 e, .int .u32 n])).run Tryz.prog w = .ok (.bool false) w := by
  have hu : Tryz.prog.underlying 27 = some (.struct (Tryz.prog.fieldsOf 27)) := by kernel_rfl
  have hp : Tryz.prog.stoodInHeld 27 = false := by kernel_rfl
  have u3 := Tryz.underlying23
  have a3 := Tryz.isAgg23
  have z3 := Tryz.sizeOf23
  rw [run_neq_struct, show (10000 : Nat) = 9999 + 1 from rfl, run_equalIn_agg w 9999 _ _ _ hu hp]
  simp only [Program.fieldsOf, Tryz.underlying27]
  go_simp

set_option maxHeartbeats 4000000 in
theorem add_yes {p B : Nat} {w : World} {ep : Int} {hi v : Value} {f : Nat} {a b : Array Value} {e n : Int} {es : List (List Value)} {l : List TxD} {dn : Bool} (h : LnS p B w ep hi (.func (.func f) a b) (.iface 74 (zx e n)) v es l dn)
    (q : PkD) (tc : List Value) (bv : Value) (hs : SeesPk w tc bv q) (hpt : q.tx.rq.parts ≤ 20000) (hl6 : l.length ≤ 1000000) (hpe : q.pe = lnE e l) (hpn : q.pn = lnN n l) (hep : q.tx.ep ≤ ep) :
    Calls Tryz.prog 51 #[.pointer (some ⟨p, 0, none⟩), .agg (pkL q tc bv).toArray] w fun r w' => r = .returned (.bool true) ∧ ∃ v' ds, LnS p B w' ep (.slice none 0 0) (.func (.func 35) #[.pointer (some ⟨p, 0, none⟩)] #[]) (.iface 74 (zx e n)) v' (es ++ [txHead q.tx ++ ds]) (l ++ [q.tx]) dn ∧ Kept w w' (fun k => v.ownBlock = some k ∨ k = p) := by
  have hc16 := hs.tx.len
  have hbW := h.bW
  obtain ⟨t, ht⟩ : ∃ t, t = q.tx := ⟨_, rfl⟩
  obtain ⟨V, hV⟩ : ∃ V, V = w.alloc (.cells (pkL q tc bv).toArray 39) := ⟨_, rfl⟩
  have hbV : Below w.heap.size w V := by rw [hV]; exact one_alloc _ _
  have rV : PkAt V w.heap.size q tc bv := by rw [hV]; exact heap_alloc_new _ _
  obtain ⟨bx, hbx⟩ : ∃ bx, bx = w.heap.size := ⟨_, rfl⟩
  rw [← hbx] at rV
  have hlp := lt_of_block h.at_
  have hbxp : bx ≠ p := by omega
  have hvbx : ∀ k, v.ownBlock = some k → k ≠ bx := fun k e => by have := (h.own.lt k e).2; omega
  have lbx := lt_of_block rV
  have HEV : Hid (V = w.alloc (.cells (pkL q tc bv).toArray 39)) := hV
  have HV : Hid (Below w.heap.size w V ∧ PkAt V bx q tc bv ∧ LnS p B V ep hi (.func (.func f) a b) (.iface 74 (zx e n)) v es l dn ∧ SeesTx V tc t ∧ t.rq.parts ≤ 20000) := ⟨hbV, rV, h.later hbV, by rw [ht]; exact hs.tx.below hbV (Nat.le_refl _), by rw [ht]; exact hpt⟩
  obtain ⟨pe, hpe2⟩ : ∃ pe, pe = q.pe := ⟨_, rfl⟩
  obtain ⟨pn, hpn2⟩ : ∃ pn, pn = q.pn := ⟨_, rfl⟩
  obtain ⟨te, hte2⟩ : ∃ te, te = t.ep := ⟨_, rfl⟩
  have HS : Hid (∀ W, Below V.heap.size V W → W.cell? ⟨bx, 10, none⟩ = some (.int .u32 pe) ∧ W.cell? ⟨bx, 11, none⟩ = some (.int .u32 pn) ∧ W.cell? ⟨bx, 14, none⟩ = some (.int .u32 te) ∧ W.cell? ⟨p, 0, none⟩ = some (.int .u32 ep)) := fun W hW => by
    refine ⟨cell_later (pk_at rV ?_) hW (Nat.le_refl _), cell_later (pk_at rV ?_) hW (Nat.le_refl _), cell_later ((PkAt.tail rV hc16).1 0 _ ?_) hW (Nat.le_refl _), cell_later (HV.out.2.2.1.cells.1) hW (Nat.le_refl _)⟩
    · rw [hpe2]; rfl
    · rw [hpn2]; rfl
    · rw [hte2, ht]; obtain ⟨rc, rfl, _⟩ := hs.tx; rfl
  have HE : Hid (pe = lnE e l ∧ pn = lnN n l) := ⟨by rw [hpe2]; exact hpe, by rw [hpn2]; exact hpn⟩
  have hgt : ¬ (ep < te) := by rw [hte2, ht]; omega
  have q16 : (Tryz.prog.info? 37).map (·.size) = some tc.length := by rw [hc16]; exact tx16
  have hg : Tryz.prog.eqGuardType Tryz.prog.depth 27 = false := by kernel_rfl
  have hnq := neqZxL pe pn
  have hmf : ∀ (fn : Fn) (first cap : Array Value) (w : World), (Instr.makeFunc fn first cap).run Tryz.prog w = .ok (.func fn first cap) w := fun _ _ _ _ => rfl
  rw [← ht]
  clear hV hbV rV h hs hpt hpe hpn hep hpe2 hpn2 hte2 ht
  go_enter Tryz.func51, Tryz.ntmps51
  go_upto_region 1 with fail
  rw [← HEV.out, ← hbx]
  clear HEV hbx
  refine wp_region_held_drew (S := (fun W => W.cell? ⟨bx, 10, none⟩ = some (.int .u32 pe) ∧ W.cell? ⟨bx, 11, none⟩ = some (.int .u32 pn) ∧ W.cell? ⟨bx, 14, none⟩ = some (.int .u32 te) ∧ W.cell? ⟨p, 0, none⟩ = some (.int .u32 ep))) (by kernel_rfl) ?_ (fun hHeld => ?_)
  · exact HS.out _ (below_drewN (Below.refl _ _) 1)
  refine wpAnyH_take (i := 0) (oi := { dst := some 5, op := Op.fieldAddr 39 (Operand.tmp 3) 7, type := 0, pos := "places.go:70", after := #[], guard := none }) (v := ?_) rfl (by kernel_rfl) (by kernel_rfl) (by kernel_rfl) (fun _ _ _ h => h) (Or.inl ⟨by rfl, ?_⟩) (by assumption) ?_
  rotate_left
  · (intro w hSw; (try dsimp only at hSw); go_simp) <;> with_reducible rfl
  try simp only [Act.put, List.setIfInBounds_toArray, List.set_cons_zero, List.set_cons_succ]
  refine wpAnyH_take (i := 1) (oi := { dst := some 6, op := Op.load 27 (Operand.tmp 5), type := 27, pos := "places.go:70", after := #[{ on := 0, ground := Ground.data }], guard := none }) (v := ?_) rfl (by kernel_rfl) (by kernel_rfl) (by kernel_rfl) (fun _ _ _ h => h) (Or.inl ⟨by rfl, ?_⟩) (by assumption) ?_
  rotate_left
  · (intro w hSw; (try dsimp only at hSw); go_simp) <;> with_reducible rfl
  try simp only [Act.put, List.setIfInBounds_toArray, List.set_cons_zero, List.set_cons_succ]
  refine wpAnyH_take (i := 2) (oi := { dst := some 7, op := Op.move (Operand.tmp 0), type := 42, pos := "places.go:70", after := #[], guard := none }) (v := ?_) rfl (by kernel_rfl) (by kernel_rfl) (by kernel_rfl) (fun _ _ _ h => h) (Or.inl ⟨by rfl, ?_⟩) (by assumption) ?_
  rotate_left
  · (intro w hSw; (try dsimp only at hSw); go_simp) <;> with_reducible rfl
  try simp only [Act.put, List.setIfInBounds_toArray, List.set_cons_zero, List.set_cons_succ]
  refine wpAnyH_ready (rs := [3]) (by kernel_rfl) (by simp) ?_
  refine AllReadyH.cons (o := { dst := some 8, op := Op.call { callee := Callee.value (Operand.func 9), args := #[Operand.tmp 7], argTypes := #[42] }, type := 27, pos := "places.go:70", after := #[{ on := 2, ground := Ground.data }], guard := none }) rfl (fun K hK => ?_) AllReadyH.nil
  go_simp
  refine (lastL_any (HV.out.2.2.1.later (below_drewN (Below.refl _ _) 1))).mono ?_
  rintro _ w2 ⟨rfl, b2⟩
  rw [← HE.out.1, ← HE.out.2]
  have HB2 : Hid (Below V.heap.size V w2) := (below_drewN (Below.refl V.heap.size V) 1).trans b2
  clear b2
  refine hK.out _ _ (HS.out _ HB2.out) (fun hHeld => ?_)
  clear hK K
  refine wpAnyH_take (i := 4) (oi := { dst := some 9, op := Op.binOp BinOp.neq 27 (Operand.tmp 6) (Operand.tmp 8) 27, type := 4, pos := "places.go:70", after := #[{ on := 1, ground := Ground.data }, { on := 3, ground := Ground.data }], guard := none }) (v := .bool false) rfl (by kernel_rfl) (by kernel_rfl) (by kernel_rfl) (fun _ _ _ h => h) (Or.inl ⟨by rfl, fun w' hSw => by go_simp⟩) (by assumption) ?_
  try simp only [Act.put, List.setIfInBounds_toArray, List.set_cons_zero, List.set_cons_succ]
  refine wpAnyH_take (i := 5) (oi := { dst := some 10, op := Op.move (Operand.tmp 9), type := 4, pos := "places.go:70", after := #[{ on := 4, ground := Ground.data }, { on := 3, ground := Ground.chain }], guard := none }) (v := ?_) rfl (by kernel_rfl) (by kernel_rfl) (by kernel_rfl) (fun _ _ _ h => h) (Or.inl ⟨by rfl, ?_⟩) (by assumption) ?_
  rotate_left
  · (intro w hSw; (try dsimp only at hSw); go_simp) <;> with_reducible rfl
  try simp only [Act.put, List.setIfInBounds_toArray, List.set_cons_zero, List.set_cons_succ]
  refine wpAnyH_take (i := 6) (oi := { dst := some 11, op := Op.fieldAddr 39 (Operand.tmp 3) 10, type := 0, pos := "places.go:70", after := #[{ on := 5, ground := Ground.guard }], guard := some (5, false) }) (v := ?_) rfl (by kernel_rfl) (by kernel_rfl) (by kernel_rfl) (fun _ _ _ h => h) (Or.inl ⟨by rfl, ?_⟩) (by assumption) ?_
  rotate_left
  · (intro w hSw; (try dsimp only at hSw); go_simp) <;> with_reducible rfl
  try simp only [Act.put, List.setIfInBounds_toArray, List.set_cons_zero, List.set_cons_succ]
  refine wpAnyH_take (i := 7) (oi := { dst := some 12, op := Op.fieldAddr 37 (Operand.tmp 11) 0, type := 0, pos := "places.go:70", after := #[{ on := 6, ground := Ground.data }, { on := 5, ground := Ground.guard }], guard := some (5, false) }) (v := ?_) rfl (by kernel_rfl) (by kernel_rfl) (by kernel_rfl) (fun _ _ _ h => h) (Or.inl ⟨by rfl, ?_⟩) (by assumption) ?_
  rotate_left
  · (intro w hSw; (try dsimp only at hSw); go_simp) <;> with_reducible rfl
  try simp only [Act.put, List.setIfInBounds_toArray, List.set_cons_zero, List.set_cons_succ]
  refine wpAnyH_take (i := 8) (oi := { dst := some 13, op := Op.fieldAddr 27 (Operand.tmp 12) 0, type := 0, pos := "places.go:70", after := #[{ on := 7, ground := Ground.data }, { on := 5, ground := Ground.guard }], guard := some (5, false) }) (v := ?_) rfl (by kernel_rfl) (by kernel_rfl) (by kernel_rfl) (fun _ _ _ h => h) (Or.inl ⟨by rfl, ?_⟩) (by assumption) ?_
  rotate_left
  · (intro w hSw; (try dsimp only at hSw); go_simp) <;> with_reducible rfl
  try simp only [Act.put, List.setIfInBounds_toArray, List.set_cons_zero, List.set_cons_succ]
  refine wpAnyH_take (i := 9) (oi := { dst := some 14, op := Op.load 23 (Operand.tmp 13), type := 23, pos := "places.go:70", after := #[{ on := 8, ground := Ground.data }, { on := 5, ground := Ground.guard }], guard := some (5, false) }) (v := ?_) rfl (by kernel_rfl) (by kernel_rfl) (by kernel_rfl) (fun _ _ _ h => h) (Or.inl ⟨by rfl, ?_⟩) (by assumption) ?_
  rotate_left
  · (intro w hSw; (try dsimp only at hSw); go_simp) <;> with_reducible rfl
  try simp only [Act.put, List.setIfInBounds_toArray, List.set_cons_zero, List.set_cons_succ]
  refine wpAnyH_take (i := 10) (oi := { dst := some 15, op := Op.move (Operand.tmp 0), type := 42, pos := "places.go:70", after := #[{ on := 5, ground := Ground.guard }], guard := some (5, false) }) (v := ?_) rfl (by kernel_rfl) (by kernel_rfl) (by kernel_rfl) (fun _ _ _ h => h) (Or.inl ⟨by rfl, ?_⟩) (by assumption) ?_
  rotate_left
  · (intro w hSw; (try dsimp only at hSw); go_simp) <;> with_reducible rfl
  try simp only [Act.put, List.setIfInBounds_toArray, List.set_cons_zero, List.set_cons_succ]
  refine wpAnyH_take (i := 11) (oi := { dst := some 16, op := Op.nilCheck (Operand.tmp 15), type := 0, pos := "places.go:70", after := #[{ on := 10, ground := Ground.data }, { on := 5, ground := Ground.guard }], guard := some (5, false) }) (v := ?_) rfl (by kernel_rfl) (by kernel_rfl) (by kernel_rfl) (fun _ _ _ h => h) (Or.inl ⟨by rfl, ?_⟩) (by assumption) ?_
  rotate_left
  · (intro w hSw; (try dsimp only at hSw); go_simp) <;> with_reducible rfl
  try simp only [Act.put, List.setIfInBounds_toArray, List.set_cons_zero, List.set_cons_succ]
  refine wpAnyH_take (i := 12) (oi := { dst := some 17, op := Op.fieldAddr 49 (Operand.tmp 16) 0, type := 0, pos := "places.go:70", after := #[{ on := 11, ground := Ground.data }, { on := 5, ground := Ground.guard }], guard := some (5, false) }) (v := ?_) rfl (by kernel_rfl) (by kernel_rfl) (by kernel_rfl) (fun _ _ _ h => h) (Or.inl ⟨by rfl, ?_⟩) (by assumption) ?_
  rotate_left
  · (intro w hSw; (try dsimp only at hSw); go_simp) <;> with_reducible rfl
  try simp only [Act.put, List.setIfInBounds_toArray, List.set_cons_zero, List.set_cons_succ]
  refine wpAnyH_take (i := 13) (oi := { dst := some 18, op := Op.load 23 (Operand.tmp 17), type := 23, pos := "places.go:70", after := #[{ on := 12, ground := Ground.data }, { on := 5, ground := Ground.guard }], guard := some (5, false) }) (v := ?_) rfl (by kernel_rfl) (by kernel_rfl) (by kernel_rfl) (fun _ _ _ h => h) (Or.inl ⟨by rfl, ?_⟩) (by assumption) ?_
  rotate_left
  · (intro w hSw; (try dsimp only at hSw); go_simp) <;> with_reducible rfl
  try simp only [Act.put, List.setIfInBounds_toArray, List.set_cons_zero, List.set_cons_succ]
  refine wpAnyH_take (i := 14) (oi := { dst := some 19, op := Op.binOp BinOp.gtr 23 (Operand.tmp 14) (Operand.tmp 18) 23, type := 4, pos := "places.go:70", after := #[{ on := 9, ground := Ground.data }, { on := 13, ground := Ground.data }, { on := 5, ground := Ground.guard }], guard := some (5, false) }) (v := .bool false) rfl (by kernel_rfl) (by kernel_rfl) (by kernel_rfl) (fun _ _ _ h => h) (Or.inl ⟨by rfl, fun w' hSw => by go_simp⟩) (by assumption) ?_
  try simp only [Act.put, List.setIfInBounds_toArray, List.set_cons_zero, List.set_cons_succ]
  refine wpAnyH_take (i := 15) (oi := { dst := some 20, op := Op.pick (Operand.tmp 10) (Operand.const (Value.bool true)) (Operand.tmp 19), type := 4, pos := "places.go:70", after := #[{ on := 5, ground := Ground.data }, { on := 14, ground := Ground.data }], guard := none }) (v := ?_) rfl (by kernel_rfl) (by kernel_rfl) (by kernel_rfl) (fun _ _ _ h => h) (Or.inl ⟨by rfl, ?_⟩) (by assumption) ?_
  rotate_left
  · (intro w hSw; (try dsimp only at hSw); go_simp) <;> with_reducible rfl
  try simp only [Act.put, List.setIfInBounds_toArray, List.set_cons_zero, List.set_cons_succ]
  refine wpAnyH_done (by kernel_rfl) ?_ _
  obtain ⟨x10, x11, x14, x0⟩ := hHeld
  clear x10 x11 x14 x0 hg
  go_upto_region 3 with fail
  have hb2 : Below w.heap.size w w2 := HV.out.1.trans (HB2.out.mono HV.out.1.size)
  have HV2 : Hid (LnS p B w2.drew ep hi (.func (.func f) a b) (.iface 74 (zx e n)) v es l dn ∧ Kept w w2.drew (fun k => v.ownBlock = some k ∨ k = p) ∧ SeesTx w2.drew tc t ∧ t.rq.parts ≤ 20000) := ⟨(HV.out.2.2.1.later HB2.out).later (below_drewN (Below.refl _ _) 1), (Below.kept (below_drewN hb2 1)).mono (fun k h1 h2 => by omega), (HV.out.2.2.2.1.below HB2.out (Nat.le_refl _)).below (below_drewN (Below.refl _ _) 1) (Nat.le_refl _), HV.out.2.2.2.2⟩
  have rb2 := (HB2.out.block _ (lt_of_block HV.out.2.1)).trans HV.out.2.1
  have lb5 : bx < w2.drew.heap.size := lt_of_block rb2
  have g5 : w2.drew.rangeAt bx 14 tc := (PkAt.tail (W := w2.drew) rb2 hc16).1
  have k5 : w2.drew.cell? ⟨p, 4, none⟩ = some v := HV2.out.1.cells.2.2.2.2.1
  have hvb : ∀ k, v.ownBlock = some k → k ≠ bx := hvbx
  clear rb2 hb2 HB2 HV HS
  refine wp_region_held_drew (S := (fun W => W.rangeAt bx 14 tc)) (by kernel_rfl) ?_ (fun hHeld => ?_)
  · exact g5
  refine wpAnyH_take (i := 0) (oi := { dst := some 21, op := Op.move (Operand.tmp 0), type := 42, pos := "places.go:73", after := #[], guard := none }) (v := ?_) rfl (by kernel_rfl) (by kernel_rfl) (by kernel_rfl) (fun _ _ _ h => h) (Or.inl ⟨by rfl, ?_⟩) (by assumption) ?_
  rotate_left
  · (intro w hSw; (try dsimp only at hSw); go_simp) <;> with_reducible rfl
  try simp only [Act.put, List.setIfInBounds_toArray, List.set_cons_zero, List.set_cons_succ]
  refine wpAnyH_take (i := 1) (oi := { dst := some 22, op := Op.move (Operand.tmp 0), type := 42, pos := "places.go:73", after := #[], guard := none }) (v := ?_) rfl (by kernel_rfl) (by kernel_rfl) (by kernel_rfl) (fun _ _ _ h => h) (Or.inl ⟨by rfl, ?_⟩) (by assumption) ?_
  rotate_left
  · (intro w hSw; (try dsimp only at hSw); go_simp) <;> with_reducible rfl
  try simp only [Act.put, List.setIfInBounds_toArray, List.set_cons_zero, List.set_cons_succ]
  refine wpAnyH_take (i := 2) (oi := { dst := some 23, op := Op.nilCheck (Operand.tmp 22), type := 0, pos := "places.go:73", after := #[{ on := 1, ground := Ground.data }], guard := none }) (v := ?_) rfl (by kernel_rfl) (by kernel_rfl) (by kernel_rfl) (fun _ _ _ h => h) (Or.inl ⟨by rfl, ?_⟩) (by assumption) ?_
  rotate_left
  · (intro w hSw; (try dsimp only at hSw); go_simp) <;> with_reducible rfl
  try simp only [Act.put, List.setIfInBounds_toArray, List.set_cons_zero, List.set_cons_succ]
  refine wpAnyH_take (i := 3) (oi := { dst := some 24, op := Op.fieldAddr 49 (Operand.tmp 23) 4, type := 0, pos := "places.go:73", after := #[{ on := 2, ground := Ground.data }], guard := none }) (v := ?_) rfl (by kernel_rfl) (by kernel_rfl) (by kernel_rfl) (fun _ _ _ h => h) (Or.inl ⟨by rfl, ?_⟩) (by assumption) ?_
  rotate_left
  · (intro w hSw; (try dsimp only at hSw); go_simp) <;> with_reducible rfl
  try simp only [Act.put, List.setIfInBounds_toArray, List.set_cons_zero, List.set_cons_succ]
  refine wpAnyH_take (i := 5) (oi := { dst := some 26, op := Op.fieldAddr 39 (Operand.tmp 3) 10, type := 0, pos := "places.go:73", after := #[], guard := none }) (v := ?_) rfl (by kernel_rfl) (by kernel_rfl) (by kernel_rfl) (fun _ _ _ h => h) (Or.inl ⟨by rfl, ?_⟩) (by assumption) ?_
  rotate_left
  · (intro w hSw; (try dsimp only at hSw); go_simp) <;> with_reducible rfl
  try simp only [Act.put, List.setIfInBounds_toArray, List.set_cons_zero, List.set_cons_succ]
  refine wpAnyH_take (i := 6) (oi := { dst := some 27, op := Op.load 37 (Operand.tmp 26), type := 37, pos := "places.go:73", after := #[{ on := 5, ground := Ground.data }], guard := none }) (v := .agg tc.toArray) rfl (by kernel_rfl) (by kernel_rfl) (by kernel_rfl) (fun _ _ _ h => h) (yieldsIf_load_mid rfl 37 _ rfl bx 14 rfl tc _ (fun _ h => h) Tryz.underlying37 rfl q16) (by assumption) ?_
  try simp only [Act.put, List.setIfInBounds_toArray, List.set_cons_zero, List.set_cons_succ]
  refine wpAnyH_ready (rs := [4, 7]) (by kernel_rfl) (by simp) ?_
  refine AllReadyH.cons (o := { dst := some 25, op := Op.load 47 (Operand.tmp 24), type := 47, pos := "places.go:73", after := #[{ on := 3, ground := Ground.data }], guard := none }) rfl (fun K hK => ?_) (AllReadyH.cons (o := { dst := some 28, op := Op.call { callee := Callee.value (Operand.func 18), args := #[Operand.tmp 27], argTypes := #[37] }, type := 37, pos := "places.go:73", after := #[{ on := 6, ground := Ground.data }], guard := none }) rfl (fun K hK => ?_) AllReadyH.nil)
  · go_simp
    refine hK.out _ _ (by first | (with_reducible exact g7) | (with_reducible exact g6) | (with_reducible exact g5)) (fun hHeld => ?_)
    clear hK K
    refine wpAnyH_ready (rs := [7]) (by kernel_rfl) (by simp) ?_
    refine AllReadyH.cons (o := { dst := some 28, op := Op.call { callee := Callee.value (Operand.func 18), args := #[Operand.tmp 27], argTypes := #[37] }, type := 37, pos := "places.go:73", after := #[{ on := 6, ground := Ground.data }], guard := none }) rfl (fun K hK => ?_) AllReadyH.nil
    go_simp
    refine (txClone_any tc t _ (HV2.out.2.2.1) HV2.out.2.2.2).mono ?_
    rintro _ w6 ⟨ds, rfl, hr6, b6⟩
    obtain ⟨v', w7, hrun, hc7, hf7, hG7, hkk, hk7, ⟨vb, vc, hv'⟩, hvo⟩ := LnS.grow HV2.out.1 t ds b6 hr6 hl6
    have g6 : w6.rangeAt bx 14 tc := fun j u hj => cell_later (g5 j u hj) b6 (Nat.le_refl _)
    have k6 : w6.cell? ⟨p, 4, none⟩ = some v := cell_later k5 b6 (Nat.le_refl _)
    have hbs := bsl16 (tx_form hr6.sees) w6
    have g7 : (w6.alloc (.cells (txHead t ++ ds).toArray 37)).rangeAt bx 14 tc := fun j u hj => cell_later (g6 j u hj) (one_alloc w6 (.cells (txHead t ++ ds).toArray 37 (0, 0))) (Nat.le_refl _)
    have k7 : (w6.alloc (.cells (txHead t ++ ds).toArray 37)).cell? ⟨p, 4, none⟩ = some v := cell_later k6 (one_alloc w6 (.cells (txHead t ++ ds).toArray 37 (0, 0))) (Nat.le_refl _)
    have nbx : v.ownBlock ≠ some bx := fun e => hvb bx e rfl
    have g8 : w7.rangeAt bx 14 tc := fun j u hj => (World.cell?_of_block (hkk.block bx lb5 nbx)).trans (g5 j u hj)
    have g9 : (w7.setCell ⟨p, 4, none⟩ v').rangeAt bx 14 tc := fun j u hj => (World.cell?_of_block (Below.heap_setCell _ _ _ _ hbxp)).trans (g8 j u hj)
    have H7 : Hid (LnS p B (w7.setCell ⟨p, 4, none⟩ v') ep hi (.func (.func f) a b) (.iface 74 (zx e n)) v' (es ++ [txHead t ++ ds]) (l ++ [t]) dn ∧ Kept w2.drew (w7.setCell ⟨p, 4, none⟩ v') (fun k => v.ownBlock = some k ∨ k = p)) := ⟨hG7, hk7⟩
    subst hv'
    clear hr6 b6 hG7 hk7 hkk hvo
    refine hK.out _ _ g6 (fun hHeld => ?_)
    clear hK K
    refine wpAnyH_ready (rs := [8]) (by kernel_rfl) (by simp) ?_
    refine AllReadyH.cons (o := { dst := some 29, op := Op.buildSlice 47 1 #[(0, Operand.tmp 28)], type := 47, pos := "places.go:73", after := #[{ on := 7, ground := Ground.data }], guard := none }) rfl (fun K hK => ?_) AllReadyH.nil
    refine (if_pos (by kernel_rfl)).mpr ?_
    refine wp_bsl1 47 _ rfl (.agg (txHead t ++ ds).toArray) _ _ rfl hbs ?_
    refine hK.out _ _ g7 (fun hHeld => ?_)
    clear hK K
    refine wpAnyH_ready (rs := [9]) (by kernel_rfl) (by simp) ?_
    refine AllReadyH.cons (o := { dst := some 30, op := Op.call { callee := Callee.builtin Builtin.append, args := #[Operand.tmp 25, Operand.tmp 29], argTypes := #[47, 47] }, type := 47, pos := "places.go:73", after := #[{ on := 4, ground := Ground.data }, { on := 8, ground := Ground.data }, { on := 7, ground := Ground.chain }], guard := none }) rfl (fun K hK => ?_) AllReadyH.nil
    refine (if_pos (by kernel_rfl)).mpr ?_
    refine wp_appR _ _ 47 rfl v _ _ w7 rfl rfl hrun ?_
    refine hK.out _ _ g8 (fun hHeld => ?_)
    clear hK K
    refine wpAnyH_take (i := 10) (oi := { dst := some 31, op := Op.nilCheck (Operand.tmp 21), type := 0, pos := "places.go:73", after := #[{ on := 0, ground := Ground.data }, { on := 0, ground := Ground.phase }, { on := 1, ground := Ground.phase }, { on := 2, ground := Ground.phase }, { on := 3, ground := Ground.phase }, { on := 4, ground := Ground.phase }, { on := 5, ground := Ground.phase }, { on := 6, ground := Ground.phase }, { on := 7, ground := Ground.phase }, { on := 8, ground := Ground.phase }, { on := 9, ground := Ground.phase }], guard := none }) (v := ?_) rfl (by kernel_rfl) (by kernel_rfl) (by kernel_rfl) (fun _ _ _ h => h) (Or.inl ⟨by rfl, ?_⟩) (by assumption) ?_
    rotate_left
    · (intro w hSw; (try dsimp only at hSw); go_simp) <;> with_reducible rfl
    try simp only [Act.put, List.setIfInBounds_toArray, List.set_cons_zero, List.set_cons_succ]
    refine wpAnyH_take (i := 11) (oi := { dst := some 32, op := Op.fieldAddr 49 (Operand.tmp 31) 4, type := 0, pos := "places.go:73", after := #[{ on := 10, ground := Ground.data }, { on := 0, ground := Ground.phase }, { on := 1, ground := Ground.phase }, { on := 2, ground := Ground.phase }, { on := 3, ground := Ground.phase }, { on := 4, ground := Ground.phase }, { on := 5, ground := Ground.phase }, { on := 6, ground := Ground.phase }, { on := 7, ground := Ground.phase }, { on := 8, ground := Ground.phase }, { on := 9, ground := Ground.phase }], guard := none }) (v := ?_) rfl (by kernel_rfl) (by kernel_rfl) (by kernel_rfl) (fun _ _ _ h => h) (Or.inl ⟨by rfl, ?_⟩) (by assumption) ?_
    rotate_left
    · (intro w hSw; (try dsimp only at hSw); go_simp) <;> with_reducible rfl
    try simp only [Act.put, List.setIfInBounds_toArray, List.set_cons_zero, List.set_cons_succ]
    refine wpAnyH_ready (rs := [12]) (by kernel_rfl) (by simp) ?_
    refine AllReadyH.cons (o := { dst := none, op := Op.store 47 (Operand.tmp 32) (Operand.tmp 30), type := 0, pos := "places.go:73", after := #[{ on := 11, ground := Ground.data }, { on := 9, ground := Ground.data }, { on := 9, ground := Ground.chain }, { on := 0, ground := Ground.phase }, { on := 1, ground := Ground.phase }, { on := 2, ground := Ground.phase }, { on := 3, ground := Ground.phase }, { on := 4, ground := Ground.phase }, { on := 5, ground := Ground.phase }, { on := 6, ground := Ground.phase }, { on := 7, ground := Ground.phase }, { on := 8, ground := Ground.phase }, { on := 9, ground := Ground.phase }], guard := none }) rfl (fun K hK => ?_) AllReadyH.nil
    go_simp
    refine hK.out _ _ g9 (fun hHeld => ?_)
    clear hK K
    refine wpAnyH_done (by kernel_rfl) ?_ _
    clear hHeld g5 g6 g7 g8 g9 k5 k6 k7 hc7 hf7 hbs hrun
    generalize w7.setCell ⟨p, 4, none⟩ (.slice vb (l.length + 1) vc) = w8 at *
    go_wp2_with fail
    go_at_call 46
    refine (goOn_any H7.out.1 35 #[.pointer (some ⟨p, 0, none⟩)] #[]).mono ?_
    rintro _ w9 ⟨rfl, h9, k9⟩
    have H9 : Hid (∃ v' ds, LnS p B w9 ep (.slice none 0 0) (.func (.func 35) #[.pointer (some ⟨p, 0, none⟩)] #[]) (.iface 74 (zx e n)) v' (es ++ [txHead t ++ ds]) (l ++ [t]) dn ∧ Kept w w9 (fun k => v.ownBlock = some k ∨ k = p)) := ⟨_, _, h9, (HV2.out.2.1.trans H7.out.2 (fun k _ e => e)).trans k9 (fun k _ e => .inr e)⟩
    clear h9 k9 H7 HV2
    go_wp2
    go_ret
    exact ⟨rfl, H9.out⟩
  · go_simp
    refine (txClone_any tc t _ (HV2.out.2.2.1) HV2.out.2.2.2).mono ?_
    rintro _ w6 ⟨ds, rfl, hr6, b6⟩
    obtain ⟨v', w7, hrun, hc7, hf7, hG7, hkk, hk7, ⟨vb, vc, hv'⟩, hvo⟩ := LnS.grow HV2.out.1 t ds b6 hr6 hl6
    have g6 : w6.rangeAt bx 14 tc := fun j u hj => cell_later (g5 j u hj) b6 (Nat.le_refl _)
    have k6 : w6.cell? ⟨p, 4, none⟩ = some v := cell_later k5 b6 (Nat.le_refl _)
    have hbs := bsl16 (tx_form hr6.sees) w6
    have g7 : (w6.alloc (.cells (txHead t ++ ds).toArray 37)).rangeAt bx 14 tc := fun j u hj => cell_later (g6 j u hj) (one_alloc w6 (.cells (txHead t ++ ds).toArray 37 (0, 0))) (Nat.le_refl _)
    have k7 : (w6.alloc (.cells (txHead t ++ ds).toArray 37)).cell? ⟨p, 4, none⟩ = some v := cell_later k6 (one_alloc w6 (.cells (txHead t ++ ds).toArray 37 (0, 0))) (Nat.le_refl _)
    have nbx : v.ownBlock ≠ some bx := fun e => hvb bx e rfl
    have g8 : w7.rangeAt bx 14 tc := fun j u hj => (World.cell?_of_block (hkk.block bx lb5 nbx)).trans (g5 j u hj)
    have g9 : (w7.setCell ⟨p, 4, none⟩ v').rangeAt bx 14 tc := fun j u hj => (World.cell?_of_block (Below.heap_setCell _ _ _ _ hbxp)).trans (g8 j u hj)
    have H7 : Hid (LnS p B (w7.setCell ⟨p, 4, none⟩ v') ep hi (.func (.func f) a b) (.iface 74 (zx e n)) v' (es ++ [txHead t ++ ds]) (l ++ [t]) dn ∧ Kept w2.drew (w7.setCell ⟨p, 4, none⟩ v') (fun k => v.ownBlock = some k ∨ k = p)) := ⟨hG7, hk7⟩
    subst hv'
    clear hr6 b6 hG7 hk7 hkk hvo
    refine hK.out _ _ g6 (fun hHeld => ?_)
    clear hK K
    refine wpAnyH_ready (rs := [4, 8]) (by kernel_rfl) (by simp) ?_
    refine AllReadyH.cons (o := { dst := some 25, op := Op.load 47 (Operand.tmp 24), type := 47, pos := "places.go:73", after := #[{ on := 3, ground := Ground.data }], guard := none }) rfl (fun K hK => ?_) (AllReadyH.cons (o := { dst := some 29, op := Op.buildSlice 47 1 #[(0, Operand.tmp 28)], type := 47, pos := "places.go:73", after := #[{ on := 7, ground := Ground.data }], guard := none }) rfl (fun K hK => ?_) AllReadyH.nil)
    · go_simp
      refine hK.out _ _ (by first | (with_reducible exact g7) | (with_reducible exact g6) | (with_reducible exact g5)) (fun hHeld => ?_)
      clear hK K
      refine wpAnyH_ready (rs := [8]) (by kernel_rfl) (by simp) ?_
      refine AllReadyH.cons (o := { dst := some 29, op := Op.buildSlice 47 1 #[(0, Operand.tmp 28)], type := 47, pos := "places.go:73", after := #[{ on := 7, ground := Ground.data }], guard := none }) rfl (fun K hK => ?_) AllReadyH.nil
      refine (if_pos (by kernel_rfl)).mpr ?_
      refine wp_bsl1 47 _ rfl (.agg (txHead t ++ ds).toArray) _ _ rfl hbs ?_
      refine hK.out _ _ g7 (fun hHeld => ?_)
      clear hK K
      refine wpAnyH_ready (rs := [9]) (by kernel_rfl) (by simp) ?_
      refine AllReadyH.cons (o := { dst := some 30, op := Op.call { callee := Callee.builtin Builtin.append, args := #[Operand.tmp 25, Operand.tmp 29], argTypes := #[47, 47] }, type := 47, pos := "places.go:73", after := #[{ on := 4, ground := Ground.data }, { on := 8, ground := Ground.data }, { on := 7, ground := Ground.chain }], guard := none }) rfl (fun K hK => ?_) AllReadyH.nil
      refine (if_pos (by kernel_rfl)).mpr ?_
      refine wp_appR _ _ 47 rfl v _ _ w7 rfl rfl hrun ?_
      refine hK.out _ _ g8 (fun hHeld => ?_)
      clear hK K
      refine wpAnyH_take (i := 10) (oi := { dst := some 31, op := Op.nilCheck (Operand.tmp 21), type := 0, pos := "places.go:73", after := #[{ on := 0, ground := Ground.data }, { on := 0, ground := Ground.phase }, { on := 1, ground := Ground.phase }, { on := 2, ground := Ground.phase }, { on := 3, ground := Ground.phase }, { on := 4, ground := Ground.phase }, { on := 5, ground := Ground.phase }, { on := 6, ground := Ground.phase }, { on := 7, ground := Ground.phase }, { on := 8, ground := Ground.phase }, { on := 9, ground := Ground.phase }], guard := none }) (v := ?_) rfl (by kernel_rfl) (by kernel_rfl) (by kernel_rfl) (fun _ _ _ h => h) (Or.inl ⟨by rfl, ?_⟩) (by assumption) ?_
      rotate_left
      · (intro w hSw; (try dsimp only at hSw); go_simp) <;> with_reducible rfl
      try simp only [Act.put, List.setIfInBounds_toArray, List.set_cons_zero, List.set_cons_succ]
      refine wpAnyH_take (i := 11) (oi := { dst := some 32, op := Op.fieldAddr 49 (Operand.tmp 31) 4, type := 0, pos := "places.go:73", after := #[{ on := 10, ground := Ground.data }, { on := 0, ground := Ground.phase }, { on := 1, ground := Ground.phase }, { on := 2, ground := Ground.phase }, { on := 3, ground := Ground.phase }, { on := 4, ground := Ground.phase }, { on := 5, ground := Ground.phase }, { on := 6, ground := Ground.phase }, { on := 7, ground := Ground.phase }, { on := 8, ground := Ground.phase }, { on := 9, ground := Ground.phase }], guard := none }) (v := ?_) rfl (by kernel_rfl) (by kernel_rfl) (by kernel_rfl) (fun _ _ _ h => h) (Or.inl ⟨by rfl, ?_⟩) (by assumption) ?_
      rotate_left
      · (intro w hSw; (try dsimp only at hSw); go_simp) <;> with_reducible rfl
      try simp only [Act.put, List.setIfInBounds_toArray, List.set_cons_zero, List.set_cons_succ]
      refine wpAnyH_ready (rs := [12]) (by kernel_rfl) (by simp) ?_
      refine AllReadyH.cons (o := { dst := none, op := Op.store 47 (Operand.tmp 32) (Operand.tmp 30), type := 0, pos := "places.go:73", after := #[{ on := 11, ground := Ground.data }, { on := 9, ground := Ground.data }, { on := 9, ground := Ground.chain }, { on := 0, ground := Ground.phase }, { on := 1, ground := Ground.phase }, { on := 2, ground := Ground.phase }, { on := 3, ground := Ground.phase }, { on := 4, ground := Ground.phase }, { on := 5, ground := Ground.phase }, { on := 6, ground := Ground.phase }, { on := 7, ground := Ground.phase }, { on := 8, ground := Ground.phase }, { on := 9, ground := Ground.phase }], guard := none }) rfl (fun K hK => ?_) AllReadyH.nil
      go_simp
      refine hK.out _ _ g9 (fun hHeld => ?_)
      clear hK K
      refine wpAnyH_done (by kernel_rfl) ?_ _
      clear hHeld g5 g6 g7 g8 g9 k5 k6 k7 hc7 hf7 hbs hrun
      generalize w7.setCell ⟨p, 4, none⟩ (.slice vb (l.length + 1) vc) = w8 at *
      go_wp2_with fail
      go_at_call 46
      refine (goOn_any H7.out.1 35 #[.pointer (some ⟨p, 0, none⟩)] #[]).mono ?_
      rintro _ w9 ⟨rfl, h9, k9⟩
      have H9 : Hid (∃ v' ds, LnS p B w9 ep (.slice none 0 0) (.func (.func 35) #[.pointer (some ⟨p, 0, none⟩)] #[]) (.iface 74 (zx e n)) v' (es ++ [txHead t ++ ds]) (l ++ [t]) dn ∧ Kept w w9 (fun k => v.ownBlock = some k ∨ k = p)) := ⟨_, _, h9, (HV2.out.2.1.trans H7.out.2 (fun k _ e => e)).trans k9 (fun k _ e => .inr e)⟩
      clear h9 k9 H7 HV2
      go_wp2
      go_ret
      exact ⟨rfl, H9.out⟩
    · refine (if_pos (by kernel_rfl)).mpr ?_
      refine wp_bsl1 47 _ rfl (.agg (txHead t ++ ds).toArray) _ _ rfl hbs ?_
      refine hK.out _ _ g7 (fun hHeld => ?_)
      clear hK K
      refine wpAnyH_ready (rs := [4]) (by kernel_rfl) (by simp) ?_
      refine AllReadyH.cons (o := { dst := some 25, op := Op.load 47 (Operand.tmp 24), type := 47, pos := "places.go:73", after := #[{ on := 3, ground := Ground.data }], guard := none }) rfl (fun K hK => ?_) AllReadyH.nil
      go_simp
      refine hK.out _ _ (by first | (with_reducible exact g7) | (with_reducible exact g6) | (with_reducible exact g5)) (fun hHeld => ?_)
      clear hK K
      refine wpAnyH_ready (rs := [9]) (by kernel_rfl) (by simp) ?_
      refine AllReadyH.cons (o := { dst := some 30, op := Op.call { callee := Callee.builtin Builtin.append, args := #[Operand.tmp 25, Operand.tmp 29], argTypes := #[47, 47] }, type := 47, pos := "places.go:73", after := #[{ on := 4, ground := Ground.data }, { on := 8, ground := Ground.data }, { on := 7, ground := Ground.chain }], guard := none }) rfl (fun K hK => ?_) AllReadyH.nil
      refine (if_pos (by kernel_rfl)).mpr ?_
      refine wp_appR _ _ 47 rfl v _ _ w7 rfl rfl hrun ?_
      refine hK.out _ _ g8 (fun hHeld => ?_)
      clear hK K
      refine wpAnyH_take (i := 10) (oi := { dst := some 31, op := Op.nilCheck (Operand.tmp 21), type := 0, pos := "places.go:73", after := #[{ on := 0, ground := Ground.data }, { on := 0, ground := Ground.phase }, { on := 1, ground := Ground.phase }, { on := 2, ground := Ground.phase }, { on := 3, ground := Ground.phase }, { on := 4, ground := Ground.phase }, { on := 5, ground := Ground.phase }, { on := 6, ground := Ground.phase }, { on := 7, ground := Ground.phase }, { on := 8, ground := Ground.phase }, { on := 9, ground := Ground.phase }], guard := none }) (v := ?_) rfl (by kernel_rfl) (by kernel_rfl) (by kernel_rfl) (fun _ _ _ h => h) (Or.inl ⟨by rfl, ?_⟩) (by assumption) ?_
      rotate_left
      · (intro w hSw; (try dsimp only at hSw); go_simp) <;> with_reducible rfl
      try simp only [Act.put, List.setIfInBounds_toArray, List.set_cons_zero, List.set_cons_succ]
      refine wpAnyH_take (i := 11) (oi := { dst := some 32, op := Op.fieldAddr 49 (Operand.tmp 31) 4, type := 0, pos := "places.go:73", after := #[{ on := 10, ground := Ground.data }, { on := 0, ground := Ground.phase }, { on := 1, ground := Ground.phase }, { on := 2, ground := Ground.phase }, { on := 3, ground := Ground.phase }, { on := 4, ground := Ground.phase }, { on := 5, ground := Ground.phase }, { on := 6, ground := Ground.phase }, { on := 7, ground := Ground.phase }, { on := 8, ground := Ground.phase }, { on := 9, ground := Ground.phase }], guard := none }) (v := ?_) rfl (by kernel_rfl) (by kernel_rfl) (by kernel_rfl) (fun _ _ _ h => h) (Or.inl ⟨by rfl, ?_⟩) (by assumption) ?_
      rotate_left
      · (intro w hSw; (try dsimp only at hSw); go_simp) <;> with_reducible rfl
      try simp only [Act.put, List.setIfInBounds_toArray, List.set_cons_zero, List.set_cons_succ]
      refine wpAnyH_ready (rs := [12]) (by kernel_rfl) (by simp) ?_
      refine AllReadyH.cons (o := { dst := none, op := Op.store 47 (Operand.tmp 32) (Operand.tmp 30), type := 0, pos := "places.go:73", after := #[{ on := 11, ground := Ground.data }, { on := 9, ground := Ground.data }, { on := 9, ground := Ground.chain }, { on := 0, ground := Ground.phase }, { on := 1, ground := Ground.phase }, { on := 2, ground := Ground.phase }, { on := 3, ground := Ground.phase }, { on := 4, ground := Ground.phase }, { on := 5, ground := Ground.phase }, { on := 6, ground := Ground.phase }, { on := 7, ground := Ground.phase }, { on := 8, ground := Ground.phase }, { on := 9, ground := Ground.phase }], guard := none }) rfl (fun K hK => ?_) AllReadyH.nil
      go_simp
      refine hK.out _ _ g9 (fun hHeld => ?_)
      clear hK K
      refine wpAnyH_done (by kernel_rfl) ?_ _
      clear hHeld g5 g6 g7 g8 g9 k5 k6 k7 hc7 hf7 hbs hrun
      generalize w7.setCell ⟨p, 4, none⟩ (.slice vb (l.length + 1) vc) = w8 at *
      go_wp2_with fail
      go_at_call 46
      refine (goOn_any H7.out.1 35 #[.pointer (some ⟨p, 0, none⟩)] #[]).mono ?_
      rintro _ w9 ⟨rfl, h9, k9⟩
      have H9 : Hid (∃ v' ds, LnS p B w9 ep (.slice none 0 0) (.func (.func 35) #[.pointer (some ⟨p, 0, none⟩)] #[]) (.iface 74 (zx e n)) v' (es ++ [txHead t ++ ds]) (l ++ [t]) dn ∧ Kept w w9 (fun k => v.ownBlock = some k ∨ k = p)) := ⟨_, _, h9, (HV2.out.2.1.trans H7.out.2 (fun k _ e => e)).trans k9 (fun k _ e => .inr e)⟩
      clear h9 k9 H7 HV2
      go_wp2
      go_ret
      exact ⟨rfl, H9.out⟩
end Go.Proofs.YtgjjcmhlmdfccaaGreatDoor
