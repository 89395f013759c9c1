/- What a board's Add answers for a watch that is not there. -/
import Derived.Test.YtkcapiblicfboaaGreatDoorWaIJ
import Derived.Test.YtkcapiblicfboaaGreatDoorRgIJ
import Derived.Deep.CutRange
namespace Go.Proofs.YtkcapiblicfboaaGreatDoor
open Go.RowKit Go.Shelf
set_option maxRecDepth 8000
set_option linter.unusedSimpArgs false

set_option maxHeartbeats 1000000 in
theorem add_full {w : World} {b m : Nat} {v : Value} {l : List WaT} (x : WaT) (h : Bo w b m v l l) (hl : x.2.2.size ≤ 4294967296) (hx : waOk x = true) (hm : x ∉ l) (h64 : 64 ≤ l.length) :
    Calls Tryz.prog 17 #[.pointer (some ⟨b, 0, none⟩), .agg (waCs x)] w fun e w' => e = .returned (.int .i64 180) ∧ Below w.heap.size w w' := by
  have hB : Below w.heap.size w (w.alloc (.cells (waCs x) 57)) := (Below.refl _ w).alloc (Nat.le_refl _) _
  have HN : Hid _ := isNone_no (h.below hB)
  have HW : Hid (Calls Tryz.prog 49 #[.agg (waCs x)] (w.alloc (.cells (waCs x) 57)) fun e w' => e = .returned (.tuple #[wishV x, .bool true]) ∧ w'.heap[w.heap.size]? = some (.cells (waCs x) 57 (0, 0)) ∧ Hid (Below w.heap.size w w')) := by
    refine (wishOf_any x _ hl).mono (fun e w' hh => ⟨?_, box_later (heap_alloc_new w _) hh.2, hB.trans (hh.2.mono hB.size)⟩)
    have := hh.1
    rw [hx] at this
    exact this
  have HH : Hid (Bo w b m v l l) := h
  clear hB h hx
  go_enter Tryz.func17, Tryz.ntmps17
  go_wp2_with fail
  refine Calls.mono HN.out ?_
  rintro e w1 ⟨rfl, rfl⟩
  clear HN
  go_wp2_with fail
  go_at_call 49
  refine Calls.mono HW.out ?_
  rintro e w2 ⟨rfl, hbx, HB⟩
  clear HW
  have h2 := HH.out.below HB.out
  have hlk : ∀ n, (Instr.lookup 78 (.map (some m)) (.agg #[.int .i64 x.1, .int .i8 x.2.1, .string x.2.2]) true).run Tryz.prog (w2.drewN n) = .ok (.tuple #[.nilIface, .bool false]) (w2.drewN n) := fun n => look_none (w := w2.drewN n) h2.hm hm true
  have c1 := h2.c1
  have c0 := h2.c0
  obtain ⟨vo, vc, rfl⟩ := rowS h2.ho
  have hz := lt_of_block h2.hb
  have hz2 := lt_of_block hbx
  have d0 := cell_of_row w2 w.heap.size 0 _ _ _ hbx
  have d1 := cell_of_row w2 w.heap.size 1 _ _ _ hbx
  have d2 := cell_of_row w2 w.heap.size 2 _ _ _ hbx
  have dl : decide (64 ≤ (l.length : Int)) = true := by simp; omega
  clear h2 hbx hm h64
  go_wp2_with fail
  go_quiet (fail)
  go_wp2
  all_goals (go_ret; exact ⟨rfl, below_drewN HB.out _⟩)

set_option maxHeartbeats 2000000 in
theorem add_new {w : World} {b m : Nat} {v : Value} {l : List WaT} (x : WaT) (h : Bo w b m v l l) (hl : x.2.2.size ≤ 4294967296) (hx : waOk x = true) (hm : x ∉ l) (h64 : l.length < 64) :
    Calls Tryz.prog 17 #[.pointer (some ⟨b, 0, none⟩), .agg (waCs x)] w fun e w' => e = .returned (.int .i64 0) ∧ ∃ v', Bo w' b m v' (l ++ [x]) (l ++ [x]) ∧ Kept w w' (Ft b m v) ∧ NewRow w v v' := by
  have hB : Below w.heap.size w (w.alloc (.cells (waCs x) 57)) := (Below.refl _ w).alloc (Nat.le_refl _) _
  have HN : Hid _ := isNone_no (h.below hB)
  have HW : Hid (Calls Tryz.prog 49 #[.agg (waCs x)] (w.alloc (.cells (waCs x) 57)) fun e w' => e = .returned (.tuple #[wishV x, .bool true]) ∧ w'.heap[w.heap.size]? = some (.cells (waCs x) 57 (0, 0)) ∧ Hid (Below w.heap.size w w')) := by
    refine (wishOf_any x _ hl).mono (fun e w' hh => ⟨?_, box_later (heap_alloc_new w _) hh.2, hB.trans (hh.2.mono hB.size)⟩)
    have := hh.1
    rw [hx] at this
    exact this
  have HH : Hid (Bo w b m v l l) := h
  clear hB h hx
  go_enter Tryz.func17, Tryz.ntmps17
  go_wp2_with fail
  refine Calls.mono HN.out ?_
  rintro e w1 ⟨rfl, rfl⟩
  clear HN
  go_wp2_with fail
  go_at_call 49
  refine Calls.mono HW.out ?_
  rintro e w2 ⟨rfl, hbx, HB⟩
  clear HW
  have h2 := HH.out.below HB.out
  have hlk : ∀ n, (Instr.lookup 78 (.map (some m)) (.agg #[.int .i64 x.1, .int .i8 x.2.1, .string x.2.2]) true).run Tryz.prog (w2.drewN n) = .ok (.tuple #[.nilIface, .bool false]) (w2.drewN n) := fun n => look_none (w := w2.drewN n) h2.hm hm true
  have c1 := h2.c1
  have c0 := h2.c0
  obtain ⟨vo, vc, rfl⟩ := rowS h2.ho
  have hz := lt_of_block h2.hb
  have hz2 := lt_of_block hbx
  have d0 := cell_of_row w2 w.heap.size 0 _ _ _ hbx
  have d1 := cell_of_row w2 w.heap.size 1 _ _ _ hbx
  have d2 := cell_of_row w2 w.heap.size 2 _ _ _ hbx
  have dl : decide (64 ≤ (l.length : Int)) = false := by simp; omega
  have HX : Hid (w2.heap[w.heap.size]? = some (.cells (waCs x) 57 (0, 0)) ∧ w.heap.size ≠ m) := ⟨hbx, fun e => by have := HH.out.hm.lt; omega⟩
  clear h2 hbx
  go_wp2_with fail
  go_quiet (fail)
  go_upto_region 11 with fail
  have HV : Hid (Bo (w2.drewN nq) b m (.slice vo l.length vc) l l ∧ Below w.heap.size w (w2.drewN nq) ∧ (w2.drewN nq).heap[w.heap.size]? = some (.cells (waCs x) 57 (0, 0))) := ⟨(HH.out.below HB.out).drewN nq, below_drewN HB.out nq, HX.out.1⟩
  replace HX : Hid (True ∧ w.heap.size ≠ m) := ⟨trivial, HX.out.2⟩
  have hbw : b ≠ w.heap.size := fun e => by have := lt_of_block HH.out.hb; omega
  have HNB : Hid (∀ k, Ft b m (.slice vo l.length vc) k → k < w.heap.size) := fun k hk => HH.out.lt hk
  clear hlk c1 c0 hz hz2 d0 d1 d2 HB HH dl
  generalize w2.drewN nq = V at *
  clear nq w2
  obtain ⟨bx, hbx⟩ : ∃ bx, bx = w.heap.size := ⟨_, rfl⟩
  rw [← hbx] at HV HX hbw ⊢
  have HWS : Hid (bx = w.heap.size) := hbx
  clear hbx
  have h5 : Bo V.drew b m (.slice vo l.length vc) l l := HV.out.1.drewN 1
  have b5 : V.drew.heap[bx]? = some (.cells (waCs x) 57 (0, 0)) := HV.out.2.2
  have ka : Kept V.drew (V.drew.alloc (.cells (waCs x) 57)) (fun _ => False) := (Kept.refl _ _).alloc _
  obtain ⟨v', W1, hr, ho1, hk1, hnr⟩ := app_wa (x := x) (h5.kept ka (fun _ _ h => h)).ho (heap_alloc_new V.drew _) (by omega) (Nat.zero_le _)
  have hk51 : Kept V.drew W1 (fun k => (Value.slice vo l.length vc).ownBlock = some k) := (ka.mono (fun _ _ h => h.elim)).trans hk1 (fun _ _ h => h)
  have hne := h5.ne
  have hb1 := hk51.heap h5.hb hne.2.1
  have hm1 := h5.hm.kept hk51 hne.2.2
  have nbx : (Value.slice vo l.length vc).ownBlock ≠ some bx := fun e => by have := HNB.out bx (.inr (.inr e)); have := HWS.out; omega
  have bx1 := hk51.heap b5 nbx
  obtain ⟨hS1, hk2⟩ := Bo.set hb1 hm1 ho1
  have bx2 := hk2.heap bx1 (Ne.symm hbw)
  obtain ⟨vo', ln, vc', rfl⟩ : ∃ a n c, v' = .slice a n c := by
    obtain ⟨a, c, e⟩ := rowS ho1
    exact ⟨a, _, c, e⟩
  have q0 : V.drew.cell? ⟨b, 0, none⟩ = some (.slice vo l.length vc) := h5.c0
  have q1 : (V.drew.alloc (.cells (waCs x) 57)).cell? ⟨b, 0, none⟩ = some (.slice vo l.length vc) := (h5.kept ka (fun _ _ h => h)).c0
  have q2 : W1.cell? ⟨b, 0, none⟩ = some (.slice vo l.length vc) := by rw [cell_of_row W1 b 0 _ _ _ hb1]; rfl
  have f2 := frozen_of_row W1 b 0 _ _ hb1
  have g0 : V.drew.cell? ⟨bx, 0, none⟩ = some (.int .i64 x.1) ∧ V.drew.cell? ⟨bx, 1, none⟩ = some (.int .i8 x.2.1) ∧ V.drew.cell? ⟨bx, 2, none⟩ = some (.string x.2.2) := ⟨by rw [cell_of_row _ bx 0 _ _ _ b5]; rfl, by rw [cell_of_row _ bx 1 _ _ _ b5]; rfl, by rw [cell_of_row _ bx 2 _ _ _ b5]; rfl⟩
  have g1 : (V.drew.alloc (.cells (waCs x) 57)).cell? ⟨bx, 0, none⟩ = some (.int .i64 x.1) ∧ (V.drew.alloc (.cells (waCs x) 57)).cell? ⟨bx, 1, none⟩ = some (.int .i8 x.2.1) ∧ (V.drew.alloc (.cells (waCs x) 57)).cell? ⟨bx, 2, none⟩ = some (.string x.2.2) := ⟨ka.cell g0.1 (fun h => h), ka.cell g0.2.1 (fun h => h), ka.cell g0.2.2 (fun h => h)⟩
  have g2 : W1.cell? ⟨bx, 0, none⟩ = some (.int .i64 x.1) ∧ W1.cell? ⟨bx, 1, none⟩ = some (.int .i8 x.2.1) ∧ W1.cell? ⟨bx, 2, none⟩ = some (.string x.2.2) := ⟨by rw [cell_of_row _ bx 0 _ _ _ bx1]; rfl, by rw [cell_of_row _ bx 1 _ _ _ bx1]; rfl, by rw [cell_of_row _ bx 2 _ _ _ bx1]; rfl⟩
  have g3 : (W1.setCell ⟨b, 0, none⟩ (.slice vo' ln vc')).cell? ⟨bx, 0, none⟩ = some (.int .i64 x.1) ∧ (W1.setCell ⟨b, 0, none⟩ (.slice vo' ln vc')).cell? ⟨bx, 1, none⟩ = some (.int .i8 x.2.1) ∧ (W1.setCell ⟨b, 0, none⟩ (.slice vo' ln vc')).cell? ⟨bx, 2, none⟩ = some (.string x.2.2) := ⟨by rw [cell_of_row _ bx 0 _ _ _ bx2]; rfl, by rw [cell_of_row _ bx 1 _ _ _ bx2]; rfl, by rw [cell_of_row _ bx 2 _ _ _ bx2]; rfl⟩
  have HR : Hid (Bo (W1.setCell ⟨b, 0, none⟩ (.slice vo' ln vc')) b m (.slice vo' ln vc') (l ++ [x]) l ∧ Kept w (W1.setCell ⟨b, 0, none⟩ (.slice vo' ln vc')) (Ft b m (.slice vo l.length vc)) ∧ NewRow w (.slice vo l.length vc) (.slice vo' ln vc') ∧ (W1.setCell ⟨b, 0, none⟩ (.slice vo' ln vc')).cell? ⟨bx, 0, none⟩ = some (.int .i64 x.1) ∧ (W1.setCell ⟨b, 0, none⟩ (.slice vo' ln vc')).cell? ⟨bx, 1, none⟩ = some (.int .i8 x.2.1) ∧ (W1.setCell ⟨b, 0, none⟩ (.slice vo' ln vc')).cell? ⟨bx, 2, none⟩ = some (.string x.2.2)) := by
    refine ⟨hS1, ?_, ?_, g3⟩
    · have k0 : Kept w V.drew (Ft b m (.slice vo l.length vc)) := (Below.kept (below_drewN HV.out.2.1 1)).mono (fun k h1 h2 => by have := HWS.out; omega)
      exact (k0.trans hk51 (fun _ _ h => .inr (.inr h))).trans hk2 (fun _ _ h => .inl h)
    · rcases hnr with h | ⟨k, h1, h2⟩
      · exact .inl h
      · refine .inr ⟨k, h1, ?_⟩
        have := HV.out.2.1.size
        have h3 : V.drew.heap.size = V.heap.size := rfl
        simp at h2
        omega
  have qb : b < V.drew.heap.size := lt_of_block h5.hb
  have qx : bx < V.drew.heap.size := lt_of_block b5
  clear h5 b5 ka ho1 hk1 hnr hk51 hne hb1 hm1 nbx bx1 hS1 hk2 bx2 hbw HNB HWS HV h64
  refine wp_region_held_drew (S := (fun W => W.cell? ⟨bx, 0, none⟩ = some (.int .i64 x.1) ∧ W.cell? ⟨bx, 1, none⟩ = some (.int .i8 x.2.1) ∧ W.cell? ⟨bx, 2, none⟩ = some (.string x.2.2))) (by kernel_rfl) ?_ (fun hHeld => ?_)
  · exact g0
  generalize V.drew = U at *
  refine wpAnyH_take (i := 0) (oi := { dst := some 34, op := Op.move (Operand.tmp 0), type := 25, pos := "watch.go:35", after := #[], guard := none }) (v := ?_) rfl (by kernel_rfl) (by kernel_rfl) (by kernel_rfl) (fun _ _ _ h => h) (Or.inl ⟨by rfl, ?_⟩) (by assumption) ?_
  rotate_left
  · (intro w hSw; (try dsimp only at hSw); go_simp) <;> with_reducible rfl
  try simp only [Act.put, List.setIfInBounds_toArray, List.set_cons_zero, List.set_cons_succ]
  refine wpAnyH_take (i := 1) (oi := { dst := some 35, op := Op.move (Operand.tmp 0), type := 25, pos := "watch.go:35", after := #[], guard := none }) (v := ?_) rfl (by kernel_rfl) (by kernel_rfl) (by kernel_rfl) (fun _ _ _ h => h) (Or.inl ⟨by rfl, ?_⟩) (by assumption) ?_
  rotate_left
  · (intro w hSw; (try dsimp only at hSw); go_simp) <;> with_reducible rfl
  try simp only [Act.put, List.setIfInBounds_toArray, List.set_cons_zero, List.set_cons_succ]
  refine wpAnyH_take (i := 2) (oi := { dst := some 36, op := Op.nilCheck (Operand.tmp 35), type := 0, pos := "watch.go:35", after := #[{ on := 1, ground := Ground.data }], guard := none }) (v := ?_) rfl (by kernel_rfl) (by kernel_rfl) (by kernel_rfl) (fun _ _ _ h => h) (Or.inl ⟨by rfl, ?_⟩) (by assumption) ?_
  rotate_left
  · (intro w hSw; (try dsimp only at hSw); go_simp) <;> with_reducible rfl
  try simp only [Act.put, List.setIfInBounds_toArray, List.set_cons_zero, List.set_cons_succ]
  refine wpAnyH_take (i := 3) (oi := { dst := some 37, op := Op.fieldAddr 80 (Operand.tmp 36) 0, type := 0, pos := "watch.go:35", after := #[{ on := 2, ground := Ground.data }], guard := none }) (v := ?_) rfl (by kernel_rfl) (by kernel_rfl) (by kernel_rfl) (fun _ _ _ h => h) (Or.inl ⟨by rfl, ?_⟩) (by assumption) ?_
  rotate_left
  · (intro w hSw; (try dsimp only at hSw); go_simp) <;> with_reducible rfl
  try simp only [Act.put, List.setIfInBounds_toArray, List.set_cons_zero, List.set_cons_succ]
  refine wpAnyH_take (i := 5) (oi := { dst := some 39, op := Op.load 57 (Operand.tmp 3), type := 57, pos := "watch.go:35", after := #[], guard := none }) (v := ?_) rfl (by kernel_rfl) (by kernel_rfl) (by kernel_rfl) (fun _ _ _ h => h) (Or.inl ⟨by rfl, ?_⟩) (by assumption) ?_
  rotate_left
  · (intro w hSw; (try dsimp only at hSw); go_simp) <;> with_reducible rfl
  try simp only [Act.put, List.setIfInBounds_toArray, List.set_cons_zero, List.set_cons_succ]
  refine wpAnyH_ready (rs := [4, 6]) (by kernel_rfl) (by simp) ?_
  refine AllReadyH.cons (o := { dst := some 38, op := Op.load 64 (Operand.tmp 37), type := 64, pos := "watch.go:35", after := #[{ on := 3, ground := Ground.data }], guard := none }) rfl (fun K hK => ?_) (AllReadyH.cons (o := { dst := some 40, op := Op.buildSlice 64 1 #[(0, Operand.tmp 39)], type := 64, pos := "watch.go:35", after := #[{ on := 5, ground := Ground.data }], guard := none }) rfl (fun K hK => ?_) AllReadyH.nil)
  · go_simp
    refine hK.out _ _ (by first | (with_reducible exact g0) | (with_reducible exact g1)) (fun hHeld => ?_)
    clear hK K
    refine wpAnyH_ready (rs := [6]) (by kernel_rfl) (by simp) ?_
    refine AllReadyH.cons (o := { dst := some 40, op := Op.buildSlice 64 1 #[(0, Operand.tmp 39)], type := 64, pos := "watch.go:35", after := #[{ on := 5, ground := Ground.data }], guard := none }) rfl (fun K hK => ?_) AllReadyH.nil
    go_simp
    refine hK.out _ _ g1 (fun hHeld => ?_)
    clear hK K
    refine wpAnyH_ready (rs := [7]) (by kernel_rfl) (by simp) ?_
    refine AllReadyH.cons (o := { dst := some 41, op := Op.call { callee := Callee.builtin Builtin.append, args := #[Operand.tmp 38, Operand.tmp 40], argTypes := #[64, 64] }, type := 64, pos := "watch.go:35", after := #[{ on := 4, ground := Ground.data }, { on := 6, ground := Ground.data }], guard := none }) rfl (fun K hK => ?_) AllReadyH.nil
    refine (if_pos (by kernel_rfl)).mpr ?_
    refine wp_appR _ _ 64 rfl (.slice vo l.length vc) _ _ W1 rfl rfl (hr _) ?_
    refine hK.out _ _ g2 (fun hHeld => ?_)
    clear hK K
    refine wpAnyH_take (i := 8) (oi := { dst := some 42, op := Op.nilCheck (Operand.tmp 34), type := 0, pos := "watch.go:35", after := #[{ on := 0, ground := Ground.data }, { on := 0, ground := Ground.phase }, { on := 1, ground := Ground.phase }, { on := 2, ground := Ground.phase }, { on := 3, ground := Ground.phase }, { on := 4, ground := Ground.phase }, { on := 5, ground := Ground.phase }, { on := 6, ground := Ground.phase }, { on := 7, ground := Ground.phase }], guard := none }) (v := ?_) rfl (by kernel_rfl) (by kernel_rfl) (by kernel_rfl) (fun _ _ _ h => h) (Or.inl ⟨by rfl, ?_⟩) (by assumption) ?_
    rotate_left
    · (intro w hSw; (try dsimp only at hSw); go_simp) <;> with_reducible rfl
    try simp only [Act.put, List.setIfInBounds_toArray, List.set_cons_zero, List.set_cons_succ]
    refine wpAnyH_take (i := 9) (oi := { dst := some 43, op := Op.fieldAddr 80 (Operand.tmp 42) 0, type := 0, pos := "watch.go:35", after := #[{ on := 8, ground := Ground.data }, { on := 0, ground := Ground.phase }, { on := 1, ground := Ground.phase }, { on := 2, ground := Ground.phase }, { on := 3, ground := Ground.phase }, { on := 4, ground := Ground.phase }, { on := 5, ground := Ground.phase }, { on := 6, ground := Ground.phase }, { on := 7, ground := Ground.phase }], guard := none }) (v := ?_) rfl (by kernel_rfl) (by kernel_rfl) (by kernel_rfl) (fun _ _ _ h => h) (Or.inl ⟨by rfl, ?_⟩) (by assumption) ?_
    rotate_left
    · (intro w hSw; (try dsimp only at hSw); go_simp) <;> with_reducible rfl
    try simp only [Act.put, List.setIfInBounds_toArray, List.set_cons_zero, List.set_cons_succ]
    refine wpAnyH_ready (rs := [10]) (by kernel_rfl) (by simp) ?_
    refine AllReadyH.cons (o := { dst := none, op := Op.store 64 (Operand.tmp 43) (Operand.tmp 41), type := 0, pos := "watch.go:35", after := #[{ on := 9, ground := Ground.data }, { on := 7, ground := Ground.data }, { on := 7, ground := Ground.chain }, { on := 0, ground := Ground.phase }, { on := 1, ground := Ground.phase }, { on := 2, ground := Ground.phase }, { on := 3, ground := Ground.phase }, { on := 4, ground := Ground.phase }, { on := 5, ground := Ground.phase }, { on := 6, ground := Ground.phase }, { on := 7, ground := Ground.phase }], guard := none }) rfl (fun K hK => ?_) AllReadyH.nil
    go_simp
    refine hK.out _ _ g3 (fun hHeld => ?_)
    clear hK K
    refine wpAnyH_done (by kernel_rfl) ?_ _
    clear hHeld g0 g1 g2 g3 q0 q1 q2 f2 hr
    generalize W1.setCell ⟨b, 0, none⟩ (.slice vo' ln vc') = W2 at *
    go_upto_region 12 with fail
    obtain ⟨W3, hst, hW3, hk3'⟩ := store_none (w := W2.drew) HR.out.1.hm hm
    have hk3 : Kept W2 W3 (fun k => k = m) := ⟨hk3'.os, hk3'.tape, hk3'.output, hk3'.size, hk3'.block⟩
    clear hk3'
    have k1 : W2.drew.cell? ⟨b, 1, none⟩ = some (.map (some m)) ∧ W2.drew.cell? ⟨bx, 0, none⟩ = some (.int .i64 x.1) ∧ W2.drew.cell? ⟨bx, 1, none⟩ = some (.int .i8 x.2.1) ∧ W2.drew.cell? ⟨bx, 2, none⟩ = some (.string x.2.2) := ⟨HR.out.1.c1, HR.out.2.2.2.1, HR.out.2.2.2.2.1, HR.out.2.2.2.2.2⟩
    have nbm : b ≠ m := HR.out.1.ne.1
    have nxm : bx ≠ m := HX.out.2
    have k2 : W3.cell? ⟨b, 1, none⟩ = some (.map (some m)) ∧ W3.cell? ⟨bx, 0, none⟩ = some (.int .i64 x.1) ∧ W3.cell? ⟨bx, 1, none⟩ = some (.int .i8 x.2.1) ∧ W3.cell? ⟨bx, 2, none⟩ = some (.string x.2.2) := ⟨hk3.cell k1.1 nbm, hk3.cell k1.2.1 nxm, hk3.cell k1.2.2.1 nxm, hk3.cell k1.2.2.2 nxm⟩
    have HE : Hid (Bo W3 b m (.slice vo' ln vc') (l ++ [x]) (l ++ [x]) ∧ Kept w W3 (Ft b m (.slice vo l.length vc)) ∧ NewRow w (.slice vo l.length vc) (.slice vo' ln vc')) :=
      ⟨⟨hk3.heap HR.out.1.hb nbm, hW3, rowK HR.out.1.ho hk3 (fun g hg e => HR.out.1.ne.2.2 (by rw [hg, e]))⟩, HR.out.2.1.trans hk3 (fun k _ e => .inr (.inl e)), HR.out.2.2.1⟩
    clear hW3 hk3 nbm nxm HR HX hm
    refine wp_region_held_drew (S := (fun W => W.cell? ⟨b, 1, none⟩ = some (.map (some m)) ∧ W.cell? ⟨bx, 0, none⟩ = some (.int .i64 x.1) ∧ W.cell? ⟨bx, 1, none⟩ = some (.int .i8 x.2.1) ∧ W.cell? ⟨bx, 2, none⟩ = some (.string x.2.2))) (by kernel_rfl) ?_ (fun hHeld => ?_)
    · exact k1
    refine wpAnyH_take (i := 0) (oi := { dst := some 44, op := Op.move (Operand.tmp 0), type := 25, pos := "watch.go:36", after := #[], guard := none }) (v := ?_) rfl (by kernel_rfl) (by kernel_rfl) (by kernel_rfl) (fun _ _ _ h => h) (Or.inl ⟨by rfl, ?_⟩) (by assumption) ?_
    rotate_left
    · (intro w hSw; (try dsimp only at hSw); go_simp) <;> with_reducible rfl
    try simp only [Act.put, List.setIfInBounds_toArray, List.set_cons_zero, List.set_cons_succ]
    refine wpAnyH_take (i := 1) (oi := { dst := some 45, op := Op.nilCheck (Operand.tmp 44), type := 0, pos := "watch.go:36", after := #[{ on := 0, ground := Ground.data }], guard := none }) (v := ?_) rfl (by kernel_rfl) (by kernel_rfl) (by kernel_rfl) (fun _ _ _ h => h) (Or.inl ⟨by rfl, ?_⟩) (by assumption) ?_
    rotate_left
    · (intro w hSw; (try dsimp only at hSw); go_simp) <;> with_reducible rfl
    try simp only [Act.put, List.setIfInBounds_toArray, List.set_cons_zero, List.set_cons_succ]
    refine wpAnyH_take (i := 2) (oi := { dst := some 46, op := Op.fieldAddr 80 (Operand.tmp 45) 1, type := 0, pos := "watch.go:36", after := #[{ on := 1, ground := Ground.data }], guard := none }) (v := ?_) rfl (by kernel_rfl) (by kernel_rfl) (by kernel_rfl) (fun _ _ _ h => h) (Or.inl ⟨by rfl, ?_⟩) (by assumption) ?_
    rotate_left
    · (intro w hSw; (try dsimp only at hSw); go_simp) <;> with_reducible rfl
    try simp only [Act.put, List.setIfInBounds_toArray, List.set_cons_zero, List.set_cons_succ]
    refine wpAnyH_take (i := 3) (oi := { dst := some 47, op := Op.load 78 (Operand.tmp 46), type := 78, pos := "watch.go:36", after := #[{ on := 2, ground := Ground.data }], guard := none }) (v := ?_) rfl (by kernel_rfl) (by kernel_rfl) (by kernel_rfl) (fun _ _ _ h => h) (Or.inl ⟨by rfl, ?_⟩) (by assumption) ?_
    rotate_left
    · (intro w hSw; (try dsimp only at hSw); go_simp) <;> with_reducible rfl
    try simp only [Act.put, List.setIfInBounds_toArray, List.set_cons_zero, List.set_cons_succ]
    refine wpAnyH_take (i := 4) (oi := { dst := some 48, op := Op.load 57 (Operand.tmp 3), type := 57, pos := "watch.go:36", after := #[], guard := none }) (v := ?_) rfl (by kernel_rfl) (by kernel_rfl) (by kernel_rfl) (fun _ _ _ h => h) (Or.inl ⟨by rfl, ?_⟩) (by assumption) ?_
    rotate_left
    · (intro w hSw; (try dsimp only at hSw); go_simp) <;> with_reducible rfl
    try simp only [Act.put, List.setIfInBounds_toArray, List.set_cons_zero, List.set_cons_succ]
    refine wpAnyH_take (i := 5) (oi := { dst := some 49, op := Op.move (Operand.tmp 5), type := 108, pos := "watch.go:36", after := #[], guard := none }) (v := ?_) rfl (by kernel_rfl) (by kernel_rfl) (by kernel_rfl) (fun _ _ _ h => h) (Or.inl ⟨by rfl, ?_⟩) (by assumption) ?_
    rotate_left
    · (intro w hSw; (try dsimp only at hSw); go_simp) <;> with_reducible rfl
    try simp only [Act.put, List.setIfInBounds_toArray, List.set_cons_zero, List.set_cons_succ]
    refine wpAnyH_ready (rs := [6]) (by kernel_rfl) (by simp) ?_
    refine AllReadyH.cons (o := { dst := none, op := Op.mapUpdate 78 (Operand.tmp 47) (Operand.tmp 48) (Operand.tmp 49), type := 0, pos := "watch.go:36", after := #[{ on := 3, ground := Ground.data }, { on := 4, ground := Ground.data }, { on := 5, ground := Ground.data }, { on := 0, ground := Ground.phase }, { on := 1, ground := Ground.phase }, { on := 2, ground := Ground.phase }, { on := 3, ground := Ground.phase }, { on := 4, ground := Ground.phase }, { on := 5, ground := Ground.phase }], guard := none }) rfl (fun K hK => ?_) AllReadyH.nil
    go_simp
    refine hK.out _ _ k2 (fun hHeld => ?_)
    clear hK K
    refine wpAnyH_done (by kernel_rfl) ?_ _
    clear hHeld
    go_wp2
    go_ret
    exact ⟨rfl, _, HE.out⟩
  · go_simp
    refine hK.out _ _ g1 (fun hHeld => ?_)
    clear hK K
    refine wpAnyH_ready (rs := [4]) (by kernel_rfl) (by simp) ?_
    refine AllReadyH.cons (o := { dst := some 38, op := Op.load 64 (Operand.tmp 37), type := 64, pos := "watch.go:35", after := #[{ on := 3, ground := Ground.data }], guard := none }) rfl (fun K hK => ?_) AllReadyH.nil
    go_simp
    refine hK.out _ _ (by first | (with_reducible exact g0) | (with_reducible exact g1)) (fun hHeld => ?_)
    clear hK K
    refine wpAnyH_ready (rs := [7]) (by kernel_rfl) (by simp) ?_
    refine AllReadyH.cons (o := { dst := some 41, op := Op.call { callee := Callee.builtin Builtin.append, args := #[Operand.tmp 38, Operand.tmp 40], argTypes := #[64, 64] }, type := 64, pos := "watch.go:35", after := #[{ on := 4, ground := Ground.data }, { on := 6, ground := Ground.data }], guard := none }) rfl (fun K hK => ?_) AllReadyH.nil
    refine (if_pos (by kernel_rfl)).mpr ?_
    refine wp_appR _ _ 64 rfl (.slice vo l.length vc) _ _ W1 rfl rfl (hr _) ?_
    refine hK.out _ _ g2 (fun hHeld => ?_)
    clear hK K
    refine wpAnyH_take (i := 8) (oi := { dst := some 42, op := Op.nilCheck (Operand.tmp 34), type := 0, pos := "watch.go:35", after := #[{ on := 0, ground := Ground.data }, { on := 0, ground := Ground.phase }, { on := 1, ground := Ground.phase }, { on := 2, ground := Ground.phase }, { on := 3, ground := Ground.phase }, { on := 4, ground := Ground.phase }, { on := 5, ground := Ground.phase }, { on := 6, ground := Ground.phase }, { on := 7, ground := Ground.phase }], guard := none }) (v := ?_) rfl (by kernel_rfl) (by kernel_rfl) (by kernel_rfl) (fun _ _ _ h => h) (Or.inl ⟨by rfl, ?_⟩) (by assumption) ?_
    rotate_left
    · (intro w hSw; (try dsimp only at hSw); go_simp) <;> with_reducible rfl
    try simp only [Act.put, List.setIfInBounds_toArray, List.set_cons_zero, List.set_cons_succ]
    refine wpAnyH_take (i := 9) (oi := { dst := some 43, op := Op.fieldAddr 80 (Operand.tmp 42) 0, type := 0, pos := "watch.go:35", after := #[{ on := 8, ground := Ground.data }, { on := 0, ground := Ground.phase }, { on := 1, ground := Ground.phase }, { on := 2, ground := Ground.phase }, { on := 3, ground := Ground.phase }, { on := 4, ground := Ground.phase }, { on := 5, ground := Ground.phase }, { on := 6, ground := Ground.phase }, { on := 7, ground := Ground.phase }], guard := none }) (v := ?_) rfl (by kernel_rfl) (by kernel_rfl) (by kernel_rfl) (fun _ _ _ h => h) (Or.inl ⟨by rfl, ?_⟩) (by assumption) ?_
    rotate_left
    · (intro w hSw; (try dsimp only at hSw); go_simp) <;> with_reducible rfl
    try simp only [Act.put, List.setIfInBounds_toArray, List.set_cons_zero, List.set_cons_succ]
    refine wpAnyH_ready (rs := [10]) (by kernel_rfl) (by simp) ?_
    refine AllReadyH.cons (o := { dst := none, op := Op.store 64 (Operand.tmp 43) (Operand.tmp 41), type := 0, pos := "watch.go:35", after := #[{ on := 9, ground := Ground.data }, { on := 7, ground := Ground.data }, { on := 7, ground := Ground.chain }, { on := 0, ground := Ground.phase }, { on := 1, ground := Ground.phase }, { on := 2, ground := Ground.phase }, { on := 3, ground := Ground.phase }, { on := 4, ground := Ground.phase }, { on := 5, ground := Ground.phase }, { on := 6, ground := Ground.phase }, { on := 7, ground := Ground.phase }], guard := none }) rfl (fun K hK => ?_) AllReadyH.nil
    go_simp
    refine hK.out _ _ g3 (fun hHeld => ?_)
    clear hK K
    refine wpAnyH_done (by kernel_rfl) ?_ _
    clear hHeld g0 g1 g2 g3 q0 q1 q2 f2 hr
    generalize W1.setCell ⟨b, 0, none⟩ (.slice vo' ln vc') = W2 at *
    go_upto_region 12 with fail
    obtain ⟨W3, hst, hW3, hk3'⟩ := store_none (w := W2.drew) HR.out.1.hm hm
    have hk3 : Kept W2 W3 (fun k => k = m) := ⟨hk3'.os, hk3'.tape, hk3'.output, hk3'.size, hk3'.block⟩
    clear hk3'
    have k1 : W2.drew.cell? ⟨b, 1, none⟩ = some (.map (some m)) ∧ W2.drew.cell? ⟨bx, 0, none⟩ = some (.int .i64 x.1) ∧ W2.drew.cell? ⟨bx, 1, none⟩ = some (.int .i8 x.2.1) ∧ W2.drew.cell? ⟨bx, 2, none⟩ = some (.string x.2.2) := ⟨HR.out.1.c1, HR.out.2.2.2.1, HR.out.2.2.2.2.1, HR.out.2.2.2.2.2⟩
    have nbm : b ≠ m := HR.out.1.ne.1
    have nxm : bx ≠ m := HX.out.2
    have k2 : W3.cell? ⟨b, 1, none⟩ = some (.map (some m)) ∧ W3.cell? ⟨bx, 0, none⟩ = some (.int .i64 x.1) ∧ W3.cell? ⟨bx, 1, none⟩ = some (.int .i8 x.2.1) ∧ W3.cell? ⟨bx, 2, none⟩ = some (.string x.2.2) := ⟨hk3.cell k1.1 nbm, hk3.cell k1.2.1 nxm, hk3.cell k1.2.2.1 nxm, hk3.cell k1.2.2.2 nxm⟩
    have HE : Hid (Bo W3 b m (.slice vo' ln vc') (l ++ [x]) (l ++ [x]) ∧ Kept w W3 (Ft b m (.slice vo l.length vc)) ∧ NewRow w (.slice vo l.length vc) (.slice vo' ln vc')) :=
      ⟨⟨hk3.heap HR.out.1.hb nbm, hW3, rowK HR.out.1.ho hk3 (fun g hg e => HR.out.1.ne.2.2 (by rw [hg, e]))⟩, HR.out.2.1.trans hk3 (fun k _ e => .inr (.inl e)), HR.out.2.2.1⟩
    clear hW3 hk3 nbm nxm HR HX hm
    refine wp_region_held_drew (S := (fun W => W.cell? ⟨b, 1, none⟩ = some (.map (some m)) ∧ W.cell? ⟨bx, 0, none⟩ = some (.int .i64 x.1) ∧ W.cell? ⟨bx, 1, none⟩ = some (.int .i8 x.2.1) ∧ W.cell? ⟨bx, 2, none⟩ = some (.string x.2.2))) (by kernel_rfl) ?_ (fun hHeld => ?_)
    · exact k1
    refine wpAnyH_take (i := 0) (oi := { dst := some 44, op := Op.move (Operand.tmp 0), type := 25, pos := "watch.go:36", after := #[], guard := none }) (v := ?_) rfl (by kernel_rfl) (by kernel_rfl) (by kernel_rfl) (fun _ _ _ h => h) (Or.inl ⟨by rfl, ?_⟩) (by assumption) ?_
    rotate_left
    · (intro w hSw; (try dsimp only at hSw); go_simp) <;> with_reducible rfl
    try simp only [Act.put, List.setIfInBounds_toArray, List.set_cons_zero, List.set_cons_succ]
    refine wpAnyH_take (i := 1) (oi := { dst := some 45, op := Op.nilCheck (Operand.tmp 44), type := 0, pos := "watch.go:36", after := #[{ on := 0, ground := Ground.data }], guard := none }) (v := ?_) rfl (by kernel_rfl) (by kernel_rfl) (by kernel_rfl) (fun _ _ _ h => h) (Or.inl ⟨by rfl, ?_⟩) (by assumption) ?_
    rotate_left
    · (intro w hSw; (try dsimp only at hSw); go_simp) <;> with_reducible rfl
    try simp only [Act.put, List.setIfInBounds_toArray, List.set_cons_zero, List.set_cons_succ]
    refine wpAnyH_take (i := 2) (oi := { dst := some 46, op := Op.fieldAddr 80 (Operand.tmp 45) 1, type := 0, pos := "watch.go:36", after := #[{ on := 1, ground := Ground.data }], guard := none }) (v := ?_) rfl (by kernel_rfl) (by kernel_rfl) (by kernel_rfl) (fun _ _ _ h => h) (Or.inl ⟨by rfl, ?_⟩) (by assumption) ?_
    rotate_left
    · (intro w hSw; (try dsimp only at hSw); go_simp) <;> with_reducible rfl
    try simp only [Act.put, List.setIfInBounds_toArray, List.set_cons_zero, List.set_cons_succ]
    refine wpAnyH_take (i := 3) (oi := { dst := some 47, op := Op.load 78 (Operand.tmp 46), type := 78, pos := "watch.go:36", after := #[{ on := 2, ground := Ground.data }], guard := none }) (v := ?_) rfl (by kernel_rfl) (by kernel_rfl) (by kernel_rfl) (fun _ _ _ h => h) (Or.inl ⟨by rfl, ?_⟩) (by assumption) ?_
    rotate_left
    · (intro w hSw; (try dsimp only at hSw); go_simp) <;> with_reducible rfl
    try simp only [Act.put, List.setIfInBounds_toArray, List.set_cons_zero, List.set_cons_succ]
    refine wpAnyH_take (i := 4) (oi := { dst := some 48, op := Op.load 57 (Operand.tmp 3), type := 57, pos := "watch.go:36", after := #[], guard := none }) (v := ?_) rfl (by kernel_rfl) (by kernel_rfl) (by kernel_rfl) (fun _ _ _ h => h) (Or.inl ⟨by rfl, ?_⟩) (by assumption) ?_
    rotate_left
    · (intro w hSw; (try dsimp only at hSw); go_simp) <;> with_reducible rfl
    try simp only [Act.put, List.setIfInBounds_toArray, List.set_cons_zero, List.set_cons_succ]
    refine wpAnyH_take (i := 5) (oi := { dst := some 49, op := Op.move (Operand.tmp 5), type := 108, pos := "watch.go:36", after := #[], guard := none }) (v := ?_) rfl (by kernel_rfl) (by kernel_rfl) (by kernel_rfl) (fun _ _ _ h => h) (Or.inl ⟨by rfl, ?_⟩) (by assumption) ?_
    rotate_left
    · (intro w hSw; (try dsimp only at hSw); go_simp) <;> with_reducible rfl
    try simp only [Act.put, List.setIfInBounds_toArray, List.set_cons_zero, List.set_cons_succ]
    refine wpAnyH_ready (rs := [6]) (by kernel_rfl) (by simp) ?_
    refine AllReadyH.cons (o := { dst := none, op := Op.mapUpdate 78 (Operand.tmp 47) (Operand.tmp 48) (Operand.tmp 49), type := 0, pos := "watch.go:36", after := #[{ on := 3, ground := Ground.data }, { on := 4, ground := Ground.data }, { on := 5, ground := Ground.data }, { on := 0, ground := Ground.phase }, { on := 1, ground := Ground.phase }, { on := 2, ground := Ground.phase }, { on := 3, ground := Ground.phase }, { on := 4, ground := Ground.phase }, { on := 5, ground := Ground.phase }], guard := none }) rfl (fun K hK => ?_) AllReadyH.nil
    go_simp
    refine hK.out _ _ k2 (fun hHeld => ?_)
    clear hK K
    refine wpAnyH_done (by kernel_rfl) ?_ _
    clear hHeld
    go_wp2
    go_ret
    exact ⟨rfl, _, HE.out⟩

end Go.Proofs.YtkcapiblicfboaaGreatDoor
