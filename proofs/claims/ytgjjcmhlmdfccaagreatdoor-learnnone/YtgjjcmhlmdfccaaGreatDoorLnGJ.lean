/- What finish of a Learner answers, where the packet fits; behind and atFirst. -/
import Derived.Test.YtgjjcmhlmdfccaaGreatDoorLnFJ
namespace Go.Proofs.YtgjjcmhlmdfccaaGreatDoor
open Go.RowKit
set_option maxRecDepth 8000
set_option linter.unusedSimpArgs false
set_option linter.unusedVariables false

set_option maxHeartbeats 4000000 in
theorem finish_yes {p B : Nat} {w : World} {ep : Int} {hi v : Value} {f : Nat} {a b : Array Value} {e n : Int} {es : List (List Value)} {l : List TxD} {dn : Bool} (h : LnS p B w ep hi (.func (.func f) a b) (.iface 74 (zx e n)) v es l dn)
    (q : PkD) (tc : List Value) (bv : Value) (hs : SeesPk w tc bv q) (hpe : q.ze = lnE e l) (hpn : q.zn = lnN n l) (hep : q.ep = ep) :
    Calls Tryz.prog 52 #[.pointer (some ⟨p, 0, none⟩), .agg (pkL q tc bv).toArray] w fun r w' => r = .returned (.bool true) ∧ LnS p B w' ep (.slice none 0 0) (.func (.func 108) #[.pointer (some ⟨p, 0, none⟩)] #[]) (.iface 74 (zx e n)) v es l true ∧ Kept w w' (fun k => v.ownBlock = some k ∨ k = p) := by
  have hbW := h.bW
  obtain ⟨V, hV⟩ : ∃ V, V = w.alloc (.cells (pkL q tc bv).toArray 39) := ⟨_, rfl⟩
  have hbV : Below w.heap.size w V := by rw [hV]; exact one_alloc _ _
  have rV : PkAt V w.heap.size q tc bv := by rw [hV]; exact heap_alloc_new _ _
  obtain ⟨bx, hbx⟩ : ∃ bx, bx = w.heap.size := ⟨_, rfl⟩
  rw [← hbx] at rV
  have hlp := lt_of_block h.at_
  have lbx := lt_of_block rV
  have HEV : Hid (V = w.alloc (.cells (pkL q tc bv).toArray 39)) := hV
  have HV : Hid (Below w.heap.size w V ∧ PkAt V bx q tc bv ∧ LnS p B V ep hi (.func (.func f) a b) (.iface 74 (zx e n)) v es l dn) := ⟨hbV, rV, h.later hbV⟩
  obtain ⟨pe, hpe2⟩ : ∃ pe, pe = q.ze := ⟨_, rfl⟩
  obtain ⟨pn, hpn2⟩ : ∃ pn, pn = q.zn := ⟨_, rfl⟩
  have HS : Hid (∀ W, Below V.heap.size V W → W.cell? ⟨bx, 6, none⟩ = some (.int .u32 ep) ∧ W.cell? ⟨bx, 8, none⟩ = some (.int .u32 pe) ∧ W.cell? ⟨bx, 9, none⟩ = some (.int .u32 pn) ∧ W.cell? ⟨p, 0, none⟩ = some (.int .u32 ep)) := fun W hW => by
    refine ⟨cell_later (pk_at rV ?_) hW (Nat.le_refl _), cell_later (pk_at rV ?_) hW (Nat.le_refl _), cell_later (pk_at rV ?_) hW (Nat.le_refl _), cell_later (HV.out.2.2.cells.1) hW (Nat.le_refl _)⟩
    · rw [← hep]; rfl
    · rw [hpe2]; rfl
    · rw [hpn2]; rfl
  have HE : Hid (pe = lnE e l ∧ pn = lnN n l) := ⟨by rw [hpe2]; exact hpe, by rw [hpn2]; exact hpn⟩
  have hg : Tryz.prog.eqGuardType Tryz.prog.depth 27 = false := by kernel_rfl
  have hnq := neqZxL pe pn
  have hmf : ∀ (fn : Fn) (first cap : Array Value) (w : World), (Instr.makeFunc fn first cap).run Tryz.prog w = .ok (.func fn first cap) w := fun _ _ _ _ => rfl
  clear hV hbV rV h hs hpe hpn hep hpe2 hpn2
  go_enter Tryz.func52, Tryz.ntmps52
  go_upto_region 1 with fail
  rw [← HEV.out, ← hbx]
  clear HEV hbx
  refine wp_region_held_drew (S := (fun W => W.cell? ⟨bx, 6, none⟩ = some (.int .u32 ep) ∧ W.cell? ⟨bx, 8, none⟩ = some (.int .u32 pe) ∧ W.cell? ⟨bx, 9, none⟩ = some (.int .u32 pn) ∧ W.cell? ⟨p, 0, none⟩ = some (.int .u32 ep))) (by kernel_rfl) ?_ (fun hHeld => ?_)
  · exact HS.out _ (below_drewN (Below.refl _ _) 1)
  refine wpAnyH_take (i := 0) (oi := { dst := some 5, op := Op.fieldAddr 39 (Operand.tmp 3) 4, type := 0, pos := "places.go:79", after := #[], guard := none }) (v := ?_) rfl (by kernel_rfl) (by kernel_rfl) (by kernel_rfl) (fun _ _ _ h => h) (Or.inl ⟨by rfl, ?_⟩) (by assumption) ?_
  rotate_left
  · (intro w hSw; (try dsimp only at hSw); go_simp) <;> with_reducible rfl
  try simp only [Act.put, List.setIfInBounds_toArray, List.set_cons_zero, List.set_cons_succ]
  refine wpAnyH_take (i := 1) (oi := { dst := some 6, op := Op.load 23 (Operand.tmp 5), type := 23, pos := "places.go:79", after := #[{ on := 0, ground := Ground.data }], guard := none }) (v := ?_) rfl (by kernel_rfl) (by kernel_rfl) (by kernel_rfl) (fun _ _ _ h => h) (Or.inl ⟨by rfl, ?_⟩) (by assumption) ?_
  rotate_left
  · (intro w hSw; (try dsimp only at hSw); go_simp) <;> with_reducible rfl
  try simp only [Act.put, List.setIfInBounds_toArray, List.set_cons_zero, List.set_cons_succ]
  refine wpAnyH_take (i := 2) (oi := { dst := some 7, op := Op.move (Operand.tmp 0), type := 42, pos := "places.go:79", after := #[], guard := none }) (v := ?_) rfl (by kernel_rfl) (by kernel_rfl) (by kernel_rfl) (fun _ _ _ h => h) (Or.inl ⟨by rfl, ?_⟩) (by assumption) ?_
  rotate_left
  · (intro w hSw; (try dsimp only at hSw); go_simp) <;> with_reducible rfl
  try simp only [Act.put, List.setIfInBounds_toArray, List.set_cons_zero, List.set_cons_succ]
  refine wpAnyH_take (i := 3) (oi := { dst := some 8, op := Op.nilCheck (Operand.tmp 7), type := 0, pos := "places.go:79", after := #[{ on := 2, ground := Ground.data }], guard := none }) (v := ?_) rfl (by kernel_rfl) (by kernel_rfl) (by kernel_rfl) (fun _ _ _ h => h) (Or.inl ⟨by rfl, ?_⟩) (by assumption) ?_
  rotate_left
  · (intro w hSw; (try dsimp only at hSw); go_simp) <;> with_reducible rfl
  try simp only [Act.put, List.setIfInBounds_toArray, List.set_cons_zero, List.set_cons_succ]
  refine wpAnyH_take (i := 4) (oi := { dst := some 9, op := Op.fieldAddr 49 (Operand.tmp 8) 0, type := 0, pos := "places.go:79", after := #[{ on := 3, ground := Ground.data }], guard := none }) (v := ?_) rfl (by kernel_rfl) (by kernel_rfl) (by kernel_rfl) (fun _ _ _ h => h) (Or.inl ⟨by rfl, ?_⟩) (by assumption) ?_
  rotate_left
  · (intro w hSw; (try dsimp only at hSw); go_simp) <;> with_reducible rfl
  try simp only [Act.put, List.setIfInBounds_toArray, List.set_cons_zero, List.set_cons_succ]
  refine wpAnyH_take (i := 5) (oi := { dst := some 10, op := Op.load 23 (Operand.tmp 9), type := 23, pos := "places.go:79", after := #[{ on := 4, ground := Ground.data }], guard := none }) (v := ?_) rfl (by kernel_rfl) (by kernel_rfl) (by kernel_rfl) (fun _ _ _ h => h) (Or.inl ⟨by rfl, ?_⟩) (by assumption) ?_
  rotate_left
  · (intro w hSw; (try dsimp only at hSw); go_simp) <;> with_reducible rfl
  try simp only [Act.put, List.setIfInBounds_toArray, List.set_cons_zero, List.set_cons_succ]
  refine wpAnyH_take (i := 6) (oi := { dst := some 11, op := Op.binOp BinOp.neq 23 (Operand.tmp 6) (Operand.tmp 10) 23, type := 4, pos := "places.go:79", after := #[{ on := 1, ground := Ground.data }, { on := 5, ground := Ground.data }], guard := none }) (v := .bool false) rfl (by kernel_rfl) (by kernel_rfl) (by kernel_rfl) (fun _ _ _ h => h) (Or.inl ⟨by rfl, fun w' hSw => by go_simp⟩) (by assumption) ?_
  try simp only [Act.put, List.setIfInBounds_toArray, List.set_cons_zero, List.set_cons_succ]
  refine wpAnyH_take (i := 7) (oi := { dst := some 12, op := Op.move (Operand.tmp 11), type := 4, pos := "places.go:79", after := #[{ on := 6, ground := Ground.data }], guard := none }) (v := ?_) rfl (by kernel_rfl) (by kernel_rfl) (by kernel_rfl) (fun _ _ _ h => h) (Or.inl ⟨by rfl, ?_⟩) (by assumption) ?_
  rotate_left
  · (intro w hSw; (try dsimp only at hSw); go_simp) <;> with_reducible rfl
  try simp only [Act.put, List.setIfInBounds_toArray, List.set_cons_zero, List.set_cons_succ]
  refine wpAnyH_take (i := 8) (oi := { dst := some 13, op := Op.fieldAddr 39 (Operand.tmp 3) 6, type := 0, pos := "places.go:79", after := #[{ on := 7, ground := Ground.guard }], guard := some (7, false) }) (v := ?_) rfl (by kernel_rfl) (by kernel_rfl) (by kernel_rfl) (fun _ _ _ h => h) (Or.inl ⟨by rfl, ?_⟩) (by assumption) ?_
  rotate_left
  · (intro w hSw; (try dsimp only at hSw); go_simp) <;> with_reducible rfl
  try simp only [Act.put, List.setIfInBounds_toArray, List.set_cons_zero, List.set_cons_succ]
  refine wpAnyH_take (i := 9) (oi := { dst := some 14, op := Op.load 27 (Operand.tmp 13), type := 27, pos := "places.go:79", after := #[{ on := 8, ground := Ground.data }, { on := 7, ground := Ground.guard }], guard := some (7, false) }) (v := ?_) rfl (by kernel_rfl) (by kernel_rfl) (by kernel_rfl) (fun _ _ _ h => h) (Or.inl ⟨by rfl, ?_⟩) (by assumption) ?_
  rotate_left
  · (intro w hSw; (try dsimp only at hSw); go_simp) <;> with_reducible rfl
  try simp only [Act.put, List.setIfInBounds_toArray, List.set_cons_zero, List.set_cons_succ]
  refine wpAnyH_take (i := 10) (oi := { dst := some 15, op := Op.move (Operand.tmp 0), type := 42, pos := "places.go:79", after := #[{ on := 7, ground := Ground.guard }], guard := some (7, false) }) (v := ?_) rfl (by kernel_rfl) (by kernel_rfl) (by kernel_rfl) (fun _ _ _ h => h) (Or.inl ⟨by rfl, ?_⟩) (by assumption) ?_
  rotate_left
  · (intro w hSw; (try dsimp only at hSw); go_simp) <;> with_reducible rfl
  try simp only [Act.put, List.setIfInBounds_toArray, List.set_cons_zero, List.set_cons_succ]
  refine wpAnyH_ready (rs := [11]) (by kernel_rfl) (by simp) ?_
  refine AllReadyH.cons (o := { dst := some 16, op := Op.call { callee := Callee.value (Operand.func 9), args := #[Operand.tmp 15], argTypes := #[42] }, type := 27, pos := "places.go:79", after := #[{ on := 10, ground := Ground.data }, { on := 7, ground := Ground.chain }, { on := 7, ground := Ground.guard }], guard := some (7, false) }) rfl (fun K hK => ?_) AllReadyH.nil
  go_simp
  refine (lastL_any (HV.out.2.2.later (below_drewN (Below.refl _ _) 1))).mono ?_
  rintro _ w2 ⟨rfl, b2⟩
  rw [← HE.out.1, ← HE.out.2]
  have HB2 : Hid (Below V.heap.size V w2) := (below_drewN (Below.refl V.heap.size V) 1).trans b2
  clear b2
  refine hK.out _ _ (HS.out _ HB2.out) (fun hHeld => ?_)
  clear hK K
  refine wpAnyH_take (i := 12) (oi := { dst := some 17, op := Op.binOp BinOp.neq 27 (Operand.tmp 14) (Operand.tmp 16) 27, type := 4, pos := "places.go:79", after := #[{ on := 9, ground := Ground.data }, { on := 11, ground := Ground.data }, { on := 7, ground := Ground.guard }], guard := some (7, false) }) (v := .bool false) rfl (by kernel_rfl) (by kernel_rfl) (by kernel_rfl) (fun _ _ _ h => h) (Or.inl ⟨by rfl, fun w' hSw => by go_simp⟩) (by assumption) ?_
  try simp only [Act.put, List.setIfInBounds_toArray, List.set_cons_zero, List.set_cons_succ]
  refine wpAnyH_take (i := 13) (oi := { dst := some 18, op := Op.pick (Operand.tmp 12) (Operand.const (Value.bool true)) (Operand.tmp 17), type := 4, pos := "places.go:79", after := #[{ on := 7, ground := Ground.data }, { on := 12, ground := Ground.data }], guard := none }) (v := ?_) rfl (by kernel_rfl) (by kernel_rfl) (by kernel_rfl) (fun _ _ _ h => h) (Or.inl ⟨by rfl, ?_⟩) (by assumption) ?_
  rotate_left
  · (intro w hSw; (try dsimp only at hSw); go_simp) <;> with_reducible rfl
  try simp only [Act.put, List.setIfInBounds_toArray, List.set_cons_zero, List.set_cons_succ]
  refine wpAnyH_done (by kernel_rfl) ?_ _
  obtain ⟨x6, x8, x9, x0⟩ := hHeld
  clear x6 x8 x9 x0 hg
  have h2 := HV.out.2.2.later HB2.out
  have hb2 : Below w.heap.size w w2 := HV.out.1.trans (HB2.out.mono HV.out.1.size)
  have k5 : w2.cell? ⟨p, 5, none⟩ = some (.bool dn) := h2.cells.2.2.2.2.2
  have f5 := frozen_of_row _ _ 5 _ _ h2.at_
  have ks : Kept w2 (w2.setCell ⟨p, 5, none⟩ (.bool true)) (· = p) := (Kept.refl _ _).setCell _ _ (fun _ => rfl)
  have H3 : Hid (LnS p B (w2.setCell ⟨p, 5, none⟩ (.bool true)) ep hi (.func (.func f) a b) (.iface 74 (zx e n)) v es l true ∧ Kept w (w2.setCell ⟨p, 5, none⟩ (.bool true)) (fun k => v.ownBlock = some k ∨ k = p)) := ⟨h2.set ks (by unfold LnAt; rw [heap_setR _ h2.at_]; rfl), ((Below.kept hb2).mono (fun k h1 h2 => by omega)).trans ks (fun k _ e => .inr e)⟩
  have l2 := lt_of_block h2.at_
  clear h2 hb2 ks HV HS HB2 HE
  go_wp2_with fail
  go_at_call 46
  refine (goOn_any H3.out.1 108 #[.pointer (some ⟨p, 0, none⟩)] #[]).mono ?_
  rintro _ w9 ⟨rfl, h9, k9⟩
  have H9 : Hid (LnS p B w9 ep (.slice none 0 0) (.func (.func 108) #[.pointer (some ⟨p, 0, none⟩)] #[]) (.iface 74 (zx e n)) v es l true ∧ Kept w w9 (fun k => v.ownBlock = some k ∨ k = p)) := ⟨h9, H3.out.2.trans k9 (fun k _ e => .inr e)⟩
  clear h9 k9 H3 k5 f5
  go_wp2
  go_ret
  exact ⟨rfl, H9.out⟩

set_option maxHeartbeats 1000000 in
theorem behind_add {p B : Nat} {w : World} {ep : Int} {hi v : Value} {f : Nat} {a b : Array Value} {e n : Int} {es : List (List Value)} {l : List TxD} {dn : Bool} (h : LnS p B w ep hi (.func (.func f) a b) (.iface 74 (zx e n)) v es l dn)
    (q : PkD) (tc : List Value) (bv : Value) (hs : SeesPk w tc bv q) (hk : q.kind = 5) (hpt : q.tx.rq.parts ≤ 20000) (hl6 : l.length ≤ 1000000) (hpe : q.pe = lnE e l) (hpn : q.pn = lnN n l) (hep : q.tx.ep ≤ ep) :
    Calls Tryz.prog 35 #[.pointer (some ⟨p, 0, none⟩), .agg (pkL q tc bv).toArray] w fun r w' => r = .returned (.bool true) ∧ ∃ v' ds, LnS p B w' ep (.slice none 0 0) (.func (.func 35) #[.pointer (some ⟨p, 0, none⟩)] #[]) (.iface 74 (zx e n)) v' (es ++ [txHead q.tx ++ ds]) (l ++ [q.tx]) dn ∧ Kept w w' (fun k => v.ownBlock = some k ∨ k = p) := by
  have hc16 := hs.tx.len
  have hbW := h.bW
  obtain ⟨V, hV⟩ : ∃ V, V = w.alloc (.cells (pkL q tc bv).toArray 39) := ⟨_, rfl⟩
  have hbV : Below w.heap.size w V := by rw [hV]; exact one_alloc _ _
  have rV : PkAt V w.heap.size q tc bv := by rw [hV]; exact heap_alloc_new _ _
  have c0 : V.cell? ⟨w.heap.size, 0, none⟩ = some (.int .i8 5) := by rw [← hk]; exact pk_at rV rfl
  have HEV : Hid (V = w.alloc (.cells (pkL q tc bv).toArray 39)) := hV
  have HC : Hid _ := add_yes (h.later hbV) q tc bv (hs.below hbV (Nat.le_refl _)) hpt hl6 hpe hpn hep
  have q32 : (Tryz.prog.info? 39).map (·.size) = some (pkL q tc bv).toArray.size := by
    have : (pkL q tc bv).toArray.size = 32 := by simp [pkL, hc16]
    rw [this]; exact pkSz9
  have rV' : V.heap[w.heap.size]? = some (.cells (pkL q tc bv).toArray 39 (0, 0)) := rV
  have HB : Hid (Below w.heap.size w V) := hbV
  obtain ⟨cs, hcs⟩ : ∃ cs, cs = (pkL q tc bv).toArray := ⟨_, rfl⟩
  rw [← hcs] at q32 rV' HC HEV ⊢
  clear hV hbV rV h hs hcs
  go_enter Tryz.func35, Tryz.ntmps35
  go_upto_region 1 with fail
  rw [← HEV.out]
  clear HEV
  go_wp2_with (refine wpList_load_row rfl 39 _ rfl w.heap.size rfl 39 _ (0, 0) _ rV' Tryz.underlying39 rfl q32 ?_)
  go_at_call 51
  refine Calls.mono HC.out ?_
  rintro _ w2 ⟨rfl, hp2⟩
  have H2 : Hid _ := hp2
  clear hp2 HC c0 rV'
  go_wp2
  go_ret
  obtain ⟨v', ds, h9, k9⟩ := H2.out
  exact ⟨rfl, v', ds, h9, ((Below.kept HB.out).mono (fun k h1 h2 => by omega)).trans k9 (fun k _ e => e)⟩

set_option maxHeartbeats 1000000 in
theorem behind_fin {p B : Nat} {w : World} {ep : Int} {hi v : Value} {f : Nat} {a b : Array Value} {e n : Int} {es : List (List Value)} {l : List TxD} {dn : Bool} (h : LnS p B w ep hi (.func (.func f) a b) (.iface 74 (zx e n)) v es l dn)
    (q : PkD) (tc : List Value) (bv : Value) (hs : SeesPk w tc bv q) (hk : q.kind = 7) (hpe : q.ze = lnE e l) (hpn : q.zn = lnN n l) (hep : q.ep = ep) :
    Calls Tryz.prog 35 #[.pointer (some ⟨p, 0, none⟩), .agg (pkL q tc bv).toArray] w fun r w' => r = .returned (.bool true) ∧ LnS p B w' ep (.slice none 0 0) (.func (.func 108) #[.pointer (some ⟨p, 0, none⟩)] #[]) (.iface 74 (zx e n)) v es l true ∧ Kept w w' (fun k => v.ownBlock = some k ∨ k = p) := by
  have hc16 := hs.tx.len
  have hbW := h.bW
  obtain ⟨V, hV⟩ : ∃ V, V = w.alloc (.cells (pkL q tc bv).toArray 39) := ⟨_, rfl⟩
  have hbV : Below w.heap.size w V := by rw [hV]; exact one_alloc _ _
  have rV : PkAt V w.heap.size q tc bv := by rw [hV]; exact heap_alloc_new _ _
  have c0 : V.cell? ⟨w.heap.size, 0, none⟩ = some (.int .i8 7) := by rw [← hk]; exact pk_at rV rfl
  have HEV : Hid (V = w.alloc (.cells (pkL q tc bv).toArray 39)) := hV
  have HC : Hid _ := finish_yes (h.later hbV) q tc bv (hs.below hbV (Nat.le_refl _)) hpe hpn hep
  have q32 : (Tryz.prog.info? 39).map (·.size) = some (pkL q tc bv).toArray.size := by
    have : (pkL q tc bv).toArray.size = 32 := by simp [pkL, hc16]
    rw [this]; exact pkSz9
  have rV' : V.heap[w.heap.size]? = some (.cells (pkL q tc bv).toArray 39 (0, 0)) := rV
  have HB : Hid (Below w.heap.size w V) := hbV
  obtain ⟨cs, hcs⟩ : ∃ cs, cs = (pkL q tc bv).toArray := ⟨_, rfl⟩
  rw [← hcs] at q32 rV' HC HEV ⊢
  clear hV hbV rV h hs hcs
  go_enter Tryz.func35, Tryz.ntmps35
  go_upto_region 1 with fail
  rw [← HEV.out]
  clear HEV
  go_wp2_with (refine wpList_load_row rfl 39 _ rfl w.heap.size rfl 39 _ (0, 0) _ rV' Tryz.underlying39 rfl q32 ?_)
  go_at_call 52
  refine Calls.mono HC.out ?_
  rintro _ w2 ⟨rfl, hp2⟩
  have H2 : Hid _ := hp2
  clear hp2 HC c0 rV'
  go_wp2
  go_ret
  exact ⟨rfl, H2.out.1, ((Below.kept HB.out).mono (fun k h1 h2 => by omega)).trans H2.out.2 (fun k _ e => e)⟩

set_option maxHeartbeats 1000000 in
theorem atFirst_add {p B : Nat} {w : World} {ep : Int} {hi v : Value} {f : Nat} {a b : Array Value} {e n : Int} {es : List (List Value)} {l : List TxD} {dn : Bool} (h : LnS p B w ep hi (.func (.func f) a b) (.iface 74 (zx e n)) v es l dn)
    (q : PkD) (tc : List Value) (bv : Value) (hs : SeesPk w tc bv q) (hk : q.kind = 5) (hpt : q.tx.rq.parts ≤ 20000) (hl6 : l.length ≤ 1000000) (hpe : q.pe = lnE e l) (hpn : q.pn = lnN n l) (hep : q.tx.ep ≤ ep) :
    Calls Tryz.prog 24 #[.pointer (some ⟨p, 0, none⟩), .agg (pkL q tc bv).toArray] w fun r w' => r = .returned (.bool true) ∧ ∃ v' ds, LnS p B w' ep (.slice none 0 0) (.func (.func 35) #[.pointer (some ⟨p, 0, none⟩)] #[]) (.iface 74 (zx e n)) v' (es ++ [txHead q.tx ++ ds]) (l ++ [q.tx]) dn ∧ Kept w w' (fun k => v.ownBlock = some k ∨ k = p) := by
  have hc16 := hs.tx.len
  have hbW := h.bW
  obtain ⟨V, hV⟩ : ∃ V, V = w.alloc (.cells (pkL q tc bv).toArray 39) := ⟨_, rfl⟩
  have hbV : Below w.heap.size w V := by rw [hV]; exact one_alloc _ _
  have rV : PkAt V w.heap.size q tc bv := by rw [hV]; exact heap_alloc_new _ _
  have c0 : V.cell? ⟨w.heap.size, 0, none⟩ = some (.int .i8 5) := by rw [← hk]; exact pk_at rV rfl
  have HEV : Hid (V = w.alloc (.cells (pkL q tc bv).toArray 39)) := hV
  have HC : Hid _ := behind_add (h.later hbV) q tc bv (hs.below hbV (Nat.le_refl _)) hk hpt hl6 hpe hpn hep
  have q32 : (Tryz.prog.info? 39).map (·.size) = some (pkL q tc bv).toArray.size := by
    have : (pkL q tc bv).toArray.size = 32 := by simp [pkL, hc16]
    rw [this]; exact pkSz9
  have rV' : V.heap[w.heap.size]? = some (.cells (pkL q tc bv).toArray 39 (0, 0)) := rV
  have HB : Hid (Below w.heap.size w V) := hbV
  obtain ⟨cs, hcs⟩ : ∃ cs, cs = (pkL q tc bv).toArray := ⟨_, rfl⟩
  rw [← hcs] at q32 rV' HC HEV ⊢
  clear hV hbV rV h hs hcs
  go_enter Tryz.func24, Tryz.ntmps24
  go_upto_region 1 with fail
  rw [← HEV.out]
  clear HEV
  go_wp2_with (refine wpList_load_row rfl 39 _ rfl w.heap.size rfl 39 _ (0, 0) _ rV' Tryz.underlying39 rfl q32 ?_)
  go_at_call 35
  refine Calls.mono HC.out ?_
  rintro _ w2 ⟨rfl, hp2⟩
  have H2 : Hid _ := hp2
  clear hp2 HC c0 rV'
  go_wp2
  go_ret
  obtain ⟨v', ds, h9, k9⟩ := H2.out
  exact ⟨rfl, v', ds, h9, ((Below.kept HB.out).mono (fun k h1 h2 => by omega)).trans k9 (fun k _ e => e)⟩
end Go.Proofs.YtgjjcmhlmdfccaaGreatDoor
