/- The document's board: Add, Fire. -/
import Derived.Test.YtkcapiblicfboaaGreatDoorWbAJ
import Derived.Test.YtkcapiblicfboaaGreatDoorRgIJ
namespace Go.Proofs.YtkcapiblicfboaaGreatDoor
open Go.RowKit Go.Shelf
set_option maxRecDepth 8000
set_option linter.unusedSimpArgs false

/-- What Add answers; the list behind it. -/
def addE (x : WaT) (l : List WaT) : Int := if waOk x then (if keepB l x then 0 else if 64 ≤ l.length then 180 else 0) else 1
def addL (x : WaT) (l : List WaT) : List WaT := if waOk x then (if keepB l x then l else if 64 ≤ l.length then l else l ++ [x]) else l

set_option maxHeartbeats 4000000 in
theorem rAdd_any {w : World} {b : Nat} {v : Value} {l : List WaT} (x : WaT) (h : Rb w b v l) (hl : l.length ≤ 1000) (hs : x.2.2.size ≤ 4294967295) :
    Calls Tryz.prog 21 #[.pointer (some ⟨b, 0, none⟩), .agg (waCs x)] w fun e w' => e = .returned (.int .i64 (addE x l)) ∧ ∃ v', Rb w' b v' (addL x l) ∧ Kept w w' (FtR b v) ∧ NewRow w v v' := by
  have hB : Below w.heap.size w (w.alloc (.cells (waCs x) 57)) := (Below.refl _ w).alloc (Nat.le_refl _) _
  have hbx : (w.alloc (.cells (waCs x) 57)).heap[w.heap.size]? = some (.cells (waCs x) 57 (0, 0)) := heap_alloc_new w _
  have HI : Hid (Calls Tryz.prog 53 #[.agg (waCs x)] (w.alloc (.cells (waCs x) 57)) fun e w' => e = .returned (.bool (waOk x)) ∧ Hid (Below w.heap.size w w' ∧ w'.heap[w.heap.size]? = some (.cells (waCs x) 57 (0, 0)))) := (refIs18 x _ hs).mono (fun e w' hh => ⟨hh.1, hB.trans (hh.2.mono hB.size), box_later hbx hh.2⟩)
  have HH : Hid (Rb w b v l) := h
  obtain ⟨vo, vc, rfl⟩ := rowS h.ho
  clear hB hbx h
  cases hok : waOk x
  · have e1 : addE x l = 1 := by unfold addE; rw [hok]; rfl
    have e2 : addL x l = l := by unfold addL; rw [hok]; rfl
    rw [e1, e2]
    rw [hok] at HI
    clear e1 e2 hok
    go_enter Tryz.func21, Tryz.ntmps21
    go_wp2_with fail
    refine Calls.mono HI.out ?_
    rintro e w1 ⟨rfl, HB1⟩
    clear HI
    go_wp2
    all_goals (go_ret; exact ⟨rfl, _, HH.out.below HB1.out.1, (Below.kept HB1.out.1).mono (fun k h1 h2 => by omega), .inl rfl⟩)
  · rw [hok] at HI
    go_enter Tryz.func21, Tryz.ntmps21
    go_wp2_with fail
    refine Calls.mono HI.out ?_
    rintro e w1 ⟨rfl, HB1⟩
    clear HI
    obtain ⟨bx, hbx⟩ : ∃ bx, bx = w.heap.size := ⟨_, rfl⟩
    have HBS : Hid (bx = w.heap.size) := hbx
    rw [← hbx] at HB1 ⊢
    clear hbx
    go_wp2
    go_loopw [5] (fun vi wr => ∃ i : Nat, i ≤ l.length ∧ vi = .int .i64 (i : Int) ∧ Hid (x ∉ l.take i ∧ Below w.heap.size w wr ∧ wr.heap[bx]? = some (.cells (waCs x) 57 (0, 0)))) (fun vi _ => l.length - (intOf vi).toNat)
    case atStart => exact ⟨0, by omega, rfl, by simp, by have := HB1.out.1; rw [HBS.out] at this; exact this, HB1.out.2⟩
    case round =>
      obtain ⟨i, hi, rfl, HD⟩ := hrel
      clear HB1
      have hR := HH.out.below HD.out.2.1
      have c0 := hR.c0
      have hz := lt_of_block hR.hb
      by_cases hlt : i < l.length
      · have hd : decide ((i : Int) < (l.length : Int)) = true := by simp; omega
        obtain ⟨y, hy⟩ : ∃ y, l[i]? = some y := ⟨_, List.getElem?_eq_getElem hlt⟩
        obtain ⟨ao, cap, he, hcap, hc⟩ := SW_owns hR.ho
        simp only [Value.slice.injEq, true_and] at he
        obtain ⟨rfl, rfl⟩ := he
        obtain ⟨b0, off, hao, hcx⟩ := hc (fun e => by rw [e] at hlt; simp at hlt)
        obtain ⟨k0, k1, k2⟩ := hcx i y hy
        subst hao
        have hz0 : b0 < wr.heap.size := World.block_lt_of_cell? wr _ k0
        have d0 := cell_of_row _ bx 0 _ _ _ HD.out.2.2
        have d1 := cell_of_row _ bx 1 _ _ _ HD.out.2.2
        have d2 := cell_of_row _ bx 2 _ _ _ HD.out.2.2
        have hz1 := lt_of_block HD.out.2.2
        obtain ⟨bb, hbb⟩ : ∃ bb, bb = waEq y x := ⟨_, rfl⟩
        have heq : ∀ W, (binOp .eql 57 (.agg #[.int .i64 y.1, .int .i8 y.2.1, .string y.2.2]) (.agg #[.int .i64 x.1, .int .i8 x.2.1, .string x.2.2])).run Tryz.prog W = .ok (.bool bb) W := fun W => by rw [hbb]; exact eqWaV y x W
        have HY : Hid (l[i]? = some y ∧ bb = waEq y x) := ⟨hy, hbb⟩
        have HRW : Hid (Rb wr b (.slice (some ⟨b0, off, none⟩) l.length vc) l) := hR
        clear hcx hc hy hbb hR
        go_upto_region 6 with fail
        go_quiet (fail)
        cases bb
        · have HN : Hid (x ∉ l.take (i + 1)) := fun hm => by
            rw [take_at HY.out.1] at hm
            rcases List.mem_append.1 hm with hm | hm
            · exact HD.out.1 hm
            · simp at hm; have := HY.out.2; rw [← hm, waEq_self] at this; cases this
          clear k0 k1 k2 d0 d1 d2
          go_wp2
          go_roundw
          case rel => exact ⟨i + 1, by omega, by simp, HN.out, below_drewN HD.out.2.1 _, HD.out.2.2⟩
          case measure => simp [intOf]; omega
        · have hxm : x ∈ l := by
            have h1 := (waEq_iff y x).1 HY.out.2.symm
            rw [← h1]
            exact List.mem_of_getElem? HY.out.1
          have e1 : addE x l = 0 := by unfold addE; rw [hok, keepB_yes hxm]; rfl
          have e2 : addL x l = l := by unfold addL; rw [hok, keepB_yes hxm]; rfl
          have HE : Hid (addE x l = 0 ∧ Rb (wr.drewN nq) b (.slice (some ⟨b0, off, none⟩) l.length vc) (addL x l) ∧ Kept w (wr.drewN nq) (FtR b (.slice (some ⟨b0, off, none⟩) l.length vc))) := by
            rw [e1, e2]
            exact ⟨rfl, ⟨HRW.out.hb, HRW.out.ho⟩, (Below.kept (below_drewN HD.out.2.1 nq)).mono (fun k h1 h2 => by omega)⟩
          clear e1 e2 hxm k0 k1 k2 d0 d1 d2
          go_wp2
          all_goals (go_ret; exact ⟨by rw [HE.out.1]; rfl, _, HE.out.2.1, HE.out.2.2, .inl rfl⟩)
      · have hd : decide ((i : Int) < (l.length : Int)) = false := by simp; omega
        have hnm : x ∉ l := by have := HD.out.1; rw [List.take_of_length_le (by omega)] at this; exact this
        by_cases h64 : 64 ≤ l.length
        · have hd2 : decide (64 ≤ (l.length : Int)) = true := by simp; omega
          have HE : Hid (addE x l = 180 ∧ Rb wr b (.slice vo l.length vc) (addL x l) ∧ Kept w wr (FtR b (.slice vo l.length vc))) := by
            have e1 : addE x l = 180 := by unfold addE; rw [hok, keepB_no hnm, if_pos rfl, if_neg (by simp), if_pos h64]
            have e2 : addL x l = l := by unfold addL; rw [hok, keepB_no hnm, if_pos rfl, if_neg (by simp), if_pos h64]
            rw [e1, e2]
            exact ⟨rfl, hR, (Below.kept HD.out.2.1).mono (fun k h1 h2 => by omega)⟩
          clear hR HD
          go_wp2
          all_goals (go_ret; exact ⟨by rw [HE.out.1]; rfl, _, HE.out.2.1, HE.out.2.2, .inl rfl⟩)
        · have hd2 : decide (64 ≤ (l.length : Int)) = false := by simp; omega
          have h5 : Rb wr.drew b (.slice vo l.length vc) l := ⟨hR.hb, hR.ho⟩
          have b5 : wr.drew.heap[bx]? = some (.cells (waCs x) 57 (0, 0)) := HD.out.2.2
          have ka : Kept wr.drew (wr.drew.alloc (.cells (waCs x) 57)) (fun _ => False) := (Kept.refl _ _).alloc _
          obtain ⟨v', W1, hr, ho1, hk1, hnr⟩ := app_wa (x := x) (h5.kept ka (fun _ _ h => h)).ho (heap_alloc_new wr.drew _) (by omega) (Nat.zero_le _)
          have hk51 : Kept wr.drew W1 (fun k => (Value.slice vo l.length vc).ownBlock = some k) := (ka.mono (fun _ _ h => h.elim)).trans hk1 (fun _ _ h => h)
          have hnb : (Value.slice vo l.length vc).ownBlock ≠ some b := fun e => by obtain ⟨cs, e'⟩ := rowT h5.ho e; have := h5.hb; rw [e'] at this; simp at this
          have nbx : (Value.slice vo l.length vc).ownBlock ≠ some bx := fun e => by have := HH.out.lt (.inr e); have := HBS.out; omega
          have hbb : b ≠ bx := fun e => by have := lt_of_block HH.out.hb; have := HBS.out; omega
          have hb1 := hk51.heap h5.hb hnb
          have bx1 := hk51.heap b5 nbx
          obtain ⟨hS1, hk2⟩ := Rb.set hb1 ho1
          have bx2 := hk2.heap bx1 (Ne.symm hbb)
          obtain ⟨vo', ln, vc', rfl⟩ : ∃ a n c, v' = .slice a n c := by
            obtain ⟨a, c, e⟩ := rowS ho1
            exact ⟨a, _, c, e⟩
          have q0 : wr.drew.cell? ⟨b, 0, none⟩ = some (.slice vo l.length vc) := h5.c0
          have q1 : (wr.drew.alloc (.cells (waCs x) 57)).cell? ⟨b, 0, none⟩ = some (.slice vo l.length vc) := (h5.kept ka (fun _ _ h => h)).c0
          have q2 : W1.cell? ⟨b, 0, none⟩ = some (.slice vo l.length vc) := by rw [cell_of_row W1 b 0 _ _ _ hb1]; rfl
          have f2 := frozen_of_row W1 b 0 _ _ hb1
          have g0 : wr.drew.cell? ⟨bx, 0, none⟩ = some (.int .i64 x.1) ∧ wr.drew.cell? ⟨bx, 1, none⟩ = some (.int .i8 x.2.1) ∧ wr.drew.cell? ⟨bx, 2, none⟩ = some (.string x.2.2) := ⟨by rw [cell_of_row _ bx 0 _ _ _ b5]; rfl, by rw [cell_of_row _ bx 1 _ _ _ b5]; rfl, by rw [cell_of_row _ bx 2 _ _ _ b5]; rfl⟩
          have g1 : (wr.drew.alloc (.cells (waCs x) 57)).cell? ⟨bx, 0, none⟩ = some (.int .i64 x.1) ∧ (wr.drew.alloc (.cells (waCs x) 57)).cell? ⟨bx, 1, none⟩ = some (.int .i8 x.2.1) ∧ (wr.drew.alloc (.cells (waCs x) 57)).cell? ⟨bx, 2, none⟩ = some (.string x.2.2) := ⟨ka.cell g0.1 (fun h => h), ka.cell g0.2.1 (fun h => h), ka.cell g0.2.2 (fun h => h)⟩
          have g2 : W1.cell? ⟨bx, 0, none⟩ = some (.int .i64 x.1) ∧ W1.cell? ⟨bx, 1, none⟩ = some (.int .i8 x.2.1) ∧ W1.cell? ⟨bx, 2, none⟩ = some (.string x.2.2) := ⟨by rw [cell_of_row _ bx 0 _ _ _ bx1]; rfl, by rw [cell_of_row _ bx 1 _ _ _ bx1]; rfl, by rw [cell_of_row _ bx 2 _ _ _ bx1]; rfl⟩
          have g3 : (W1.setCell ⟨b, 0, none⟩ (.slice vo' ln vc')).cell? ⟨bx, 0, none⟩ = some (.int .i64 x.1) ∧ (W1.setCell ⟨b, 0, none⟩ (.slice vo' ln vc')).cell? ⟨bx, 1, none⟩ = some (.int .i8 x.2.1) ∧ (W1.setCell ⟨b, 0, none⟩ (.slice vo' ln vc')).cell? ⟨bx, 2, none⟩ = some (.string x.2.2) := ⟨by rw [cell_of_row _ bx 0 _ _ _ bx2]; rfl, by rw [cell_of_row _ bx 1 _ _ _ bx2]; rfl, by rw [cell_of_row _ bx 2 _ _ _ bx2]; rfl⟩
          have HR : Hid (∃ v', Rb (W1.setCell ⟨b, 0, none⟩ (.slice vo' ln vc')) b v' (addL x l) ∧ Kept w (W1.setCell ⟨b, 0, none⟩ (.slice vo' ln vc')) (FtR b (.slice vo l.length vc)) ∧ NewRow w (.slice vo l.length vc) v') := by
            have e2 : addL x l = l ++ [x] := by unfold addL; rw [hok, keepB_no hnm, if_pos rfl, if_neg (by simp), if_neg h64]
            rw [e2]
            have k0 : Kept w wr.drew (FtR b (.slice vo l.length vc)) := (Below.kept (below_drewN HD.out.2.1 1)).mono (fun k h1 h2 => by omega)
            refine ⟨_, hS1, (k0.trans hk51 (fun _ _ h => .inr h)).trans hk2 (fun _ _ h => .inl h), ?_⟩
            rcases hnr with h | ⟨k, h1, h2⟩
            · exact .inl h
            · refine .inr ⟨k, h1, ?_⟩
              have := HD.out.2.1.size
              have h3 : wr.drew.heap.size = wr.heap.size := rfl
              simp at h2
              omega
          have e1 : addE x l = 0 := by unfold addE; rw [hok, keepB_no hnm, if_pos rfl, if_neg (by simp), if_neg h64]
          have HE1 : Hid (addE x l = 0) := e1
          have qb : b < wr.drew.heap.size := lt_of_block h5.hb
          have qx : bx < wr.drew.heap.size := lt_of_block b5
          clear e1 h5 b5 ka ho1 hk1 hnr hk51 hnb nbx hbb hb1 bx1 hS1 hk2 bx2 HD HBS h64 hnm hR
          go_upto_region 10 with fail
          refine wp_region_held_drew (S := (fun W => W.cell? ⟨bx, 0, none⟩ = some (.int .i64 x.1) ∧ W.cell? ⟨bx, 1, none⟩ = some (.int .i8 x.2.1) ∧ W.cell? ⟨bx, 2, none⟩ = some (.string x.2.2))) (by kernel_rfl) ?_ (fun hHeld => ?_)
          · exact g0
          generalize wr.drew = U at *
          refine wpAnyH_take (i := 0) (oi := { dst := some 33, op := Op.move (Operand.tmp 0), type := 28, pos := "ref.go:68", after := #[], guard := none }) (v := ?_) rfl (by kernel_rfl) (by kernel_rfl) (by kernel_rfl) (fun _ _ _ h => h) (Or.inl ⟨by rfl, ?_⟩) (by assumption) ?_
          rotate_left
          · (intro w hSw; (try dsimp only at hSw); go_simp) <;> with_reducible rfl
          try simp only [Act.put, List.setIfInBounds_toArray, List.set_cons_zero, List.set_cons_succ]
          refine wpAnyH_take (i := 1) (oi := { dst := some 34, op := Op.move (Operand.tmp 0), type := 28, pos := "ref.go:68", after := #[], guard := none }) (v := ?_) rfl (by kernel_rfl) (by kernel_rfl) (by kernel_rfl) (fun _ _ _ h => h) (Or.inl ⟨by rfl, ?_⟩) (by assumption) ?_
          rotate_left
          · (intro w hSw; (try dsimp only at hSw); go_simp) <;> with_reducible rfl
          try simp only [Act.put, List.setIfInBounds_toArray, List.set_cons_zero, List.set_cons_succ]
          refine wpAnyH_take (i := 2) (oi := { dst := some 35, op := Op.nilCheck (Operand.tmp 34), type := 0, pos := "ref.go:68", after := #[{ on := 1, ground := Ground.data }], guard := none }) (v := ?_) rfl (by kernel_rfl) (by kernel_rfl) (by kernel_rfl) (fun _ _ _ h => h) (Or.inl ⟨by rfl, ?_⟩) (by assumption) ?_
          rotate_left
          · (intro w hSw; (try dsimp only at hSw); go_simp) <;> with_reducible rfl
          try simp only [Act.put, List.setIfInBounds_toArray, List.set_cons_zero, List.set_cons_succ]
          refine wpAnyH_take (i := 3) (oi := { dst := some 36, op := Op.fieldAddr 82 (Operand.tmp 35) 0, type := 0, pos := "ref.go:68", after := #[{ on := 2, ground := Ground.data }], guard := none }) (v := ?_) rfl (by kernel_rfl) (by kernel_rfl) (by kernel_rfl) (fun _ _ _ h => h) (Or.inl ⟨by rfl, ?_⟩) (by assumption) ?_
          rotate_left
          · (intro w hSw; (try dsimp only at hSw); go_simp) <;> with_reducible rfl
          try simp only [Act.put, List.setIfInBounds_toArray, List.set_cons_zero, List.set_cons_succ]
          refine wpAnyH_take (i := 5) (oi := { dst := some 38, op := Op.load 57 (Operand.tmp 3), type := 57, pos := "ref.go:68", after := #[], guard := none }) (v := ?_) rfl (by kernel_rfl) (by kernel_rfl) (by kernel_rfl) (fun _ _ _ h => h) (Or.inl ⟨by rfl, ?_⟩) (by assumption) ?_
          rotate_left
          · (intro w hSw; (try dsimp only at hSw); go_simp) <;> with_reducible rfl
          try simp only [Act.put, List.setIfInBounds_toArray, List.set_cons_zero, List.set_cons_succ]
          refine wpAnyH_ready (rs := [4, 6]) (by kernel_rfl) (by simp) ?_
          refine AllReadyH.cons (o := { dst := some 37, op := Op.load 64 (Operand.tmp 36), type := 64, pos := "ref.go:68", after := #[{ on := 3, ground := Ground.data }], guard := none }) rfl (fun K hK => ?_) (AllReadyH.cons (o := { dst := some 39, op := Op.buildSlice 64 1 #[(0, Operand.tmp 38)], type := 64, pos := "ref.go:68", after := #[{ on := 5, ground := Ground.data }], guard := none }) rfl (fun K hK => ?_) AllReadyH.nil)
          · go_simp
            refine hK.out _ _ (by first | (with_reducible exact g0) | (with_reducible exact g1)) (fun hHeld => ?_)
            clear hK K
            refine wpAnyH_ready (rs := [6]) (by kernel_rfl) (by simp) ?_
            refine AllReadyH.cons (o := { dst := some 39, op := Op.buildSlice 64 1 #[(0, Operand.tmp 38)], type := 64, pos := "ref.go:68", after := #[{ on := 5, ground := Ground.data }], guard := none }) rfl (fun K hK => ?_) AllReadyH.nil
            go_simp
            refine hK.out _ _ g1 (fun hHeld => ?_)
            clear hK K
            refine wpAnyH_ready (rs := [7]) (by kernel_rfl) (by simp) ?_
            refine AllReadyH.cons (o := { dst := some 40, op := Op.call { callee := Callee.builtin Builtin.append, args := #[Operand.tmp 37, Operand.tmp 39], argTypes := #[64, 64] }, type := 64, pos := "ref.go:68", after := #[{ on := 4, ground := Ground.data }, { on := 6, ground := Ground.data }], guard := none }) rfl (fun K hK => ?_) AllReadyH.nil
            refine (if_pos (by kernel_rfl)).mpr ?_
            refine wp_appR _ _ 64 rfl (.slice vo l.length vc) _ _ W1 rfl rfl (hr _) ?_
            refine hK.out _ _ g2 (fun hHeld => ?_)
            clear hK K
            refine wpAnyH_take (i := 8) (oi := { dst := some 41, op := Op.nilCheck (Operand.tmp 33), type := 0, pos := "ref.go:68", after := #[{ on := 0, ground := Ground.data }, { on := 0, ground := Ground.phase }, { on := 1, ground := Ground.phase }, { on := 2, ground := Ground.phase }, { on := 3, ground := Ground.phase }, { on := 4, ground := Ground.phase }, { on := 5, ground := Ground.phase }, { on := 6, ground := Ground.phase }, { on := 7, ground := Ground.phase }], guard := none }) (v := ?_) rfl (by kernel_rfl) (by kernel_rfl) (by kernel_rfl) (fun _ _ _ h => h) (Or.inl ⟨by rfl, ?_⟩) (by assumption) ?_
            rotate_left
            · (intro w hSw; (try dsimp only at hSw); go_simp) <;> with_reducible rfl
            try simp only [Act.put, List.setIfInBounds_toArray, List.set_cons_zero, List.set_cons_succ]
            refine wpAnyH_take (i := 9) (oi := { dst := some 42, op := Op.fieldAddr 82 (Operand.tmp 41) 0, type := 0, pos := "ref.go:68", after := #[{ on := 8, ground := Ground.data }, { on := 0, ground := Ground.phase }, { on := 1, ground := Ground.phase }, { on := 2, ground := Ground.phase }, { on := 3, ground := Ground.phase }, { on := 4, ground := Ground.phase }, { on := 5, ground := Ground.phase }, { on := 6, ground := Ground.phase }, { on := 7, ground := Ground.phase }], guard := none }) (v := ?_) rfl (by kernel_rfl) (by kernel_rfl) (by kernel_rfl) (fun _ _ _ h => h) (Or.inl ⟨by rfl, ?_⟩) (by assumption) ?_
            rotate_left
            · (intro w hSw; (try dsimp only at hSw); go_simp) <;> with_reducible rfl
            try simp only [Act.put, List.setIfInBounds_toArray, List.set_cons_zero, List.set_cons_succ]
            refine wpAnyH_ready (rs := [10]) (by kernel_rfl) (by simp) ?_
            refine AllReadyH.cons (o := { dst := none, op := Op.store 64 (Operand.tmp 42) (Operand.tmp 40), type := 0, pos := "ref.go:68", after := #[{ on := 9, ground := Ground.data }, { on := 7, ground := Ground.data }, { on := 7, ground := Ground.chain }, { on := 0, ground := Ground.phase }, { on := 1, ground := Ground.phase }, { on := 2, ground := Ground.phase }, { on := 3, ground := Ground.phase }, { on := 4, ground := Ground.phase }, { on := 5, ground := Ground.phase }, { on := 6, ground := Ground.phase }, { on := 7, ground := Ground.phase }], guard := none }) rfl (fun K hK => ?_) AllReadyH.nil
            go_simp
            refine hK.out _ _ g3 (fun hHeld => ?_)
            clear hK K
            refine wpAnyH_done (by kernel_rfl) ?_ _
            clear hHeld g0 g1 g2 g3 q0 q1 q2 f2 hr
            go_wp2
            go_ret
            exact ⟨by rw [HE1.out]; rfl, HR.out⟩
          · go_simp
            refine hK.out _ _ g1 (fun hHeld => ?_)
            clear hK K
            refine wpAnyH_ready (rs := [4]) (by kernel_rfl) (by simp) ?_
            refine AllReadyH.cons (o := { dst := some 37, op := Op.load 64 (Operand.tmp 36), type := 64, pos := "ref.go:68", after := #[{ on := 3, ground := Ground.data }], guard := none }) rfl (fun K hK => ?_) AllReadyH.nil
            go_simp
            refine hK.out _ _ (by first | (with_reducible exact g0) | (with_reducible exact g1)) (fun hHeld => ?_)
            clear hK K
            refine wpAnyH_ready (rs := [7]) (by kernel_rfl) (by simp) ?_
            refine AllReadyH.cons (o := { dst := some 40, op := Op.call { callee := Callee.builtin Builtin.append, args := #[Operand.tmp 37, Operand.tmp 39], argTypes := #[64, 64] }, type := 64, pos := "ref.go:68", after := #[{ on := 4, ground := Ground.data }, { on := 6, ground := Ground.data }], guard := none }) rfl (fun K hK => ?_) AllReadyH.nil
            refine (if_pos (by kernel_rfl)).mpr ?_
            refine wp_appR _ _ 64 rfl (.slice vo l.length vc) _ _ W1 rfl rfl (hr _) ?_
            refine hK.out _ _ g2 (fun hHeld => ?_)
            clear hK K
            refine wpAnyH_take (i := 8) (oi := { dst := some 41, op := Op.nilCheck (Operand.tmp 33), type := 0, pos := "ref.go:68", after := #[{ on := 0, ground := Ground.data }, { on := 0, ground := Ground.phase }, { on := 1, ground := Ground.phase }, { on := 2, ground := Ground.phase }, { on := 3, ground := Ground.phase }, { on := 4, ground := Ground.phase }, { on := 5, ground := Ground.phase }, { on := 6, ground := Ground.phase }, { on := 7, ground := Ground.phase }], guard := none }) (v := ?_) rfl (by kernel_rfl) (by kernel_rfl) (by kernel_rfl) (fun _ _ _ h => h) (Or.inl ⟨by rfl, ?_⟩) (by assumption) ?_
            rotate_left
            · (intro w hSw; (try dsimp only at hSw); go_simp) <;> with_reducible rfl
            try simp only [Act.put, List.setIfInBounds_toArray, List.set_cons_zero, List.set_cons_succ]
            refine wpAnyH_take (i := 9) (oi := { dst := some 42, op := Op.fieldAddr 82 (Operand.tmp 41) 0, type := 0, pos := "ref.go:68", after := #[{ on := 8, ground := Ground.data }, { on := 0, ground := Ground.phase }, { on := 1, ground := Ground.phase }, { on := 2, ground := Ground.phase }, { on := 3, ground := Ground.phase }, { on := 4, ground := Ground.phase }, { on := 5, ground := Ground.phase }, { on := 6, ground := Ground.phase }, { on := 7, ground := Ground.phase }], guard := none }) (v := ?_) rfl (by kernel_rfl) (by kernel_rfl) (by kernel_rfl) (fun _ _ _ h => h) (Or.inl ⟨by rfl, ?_⟩) (by assumption) ?_
            rotate_left
            · (intro w hSw; (try dsimp only at hSw); go_simp) <;> with_reducible rfl
            try simp only [Act.put, List.setIfInBounds_toArray, List.set_cons_zero, List.set_cons_succ]
            refine wpAnyH_ready (rs := [10]) (by kernel_rfl) (by simp) ?_
            refine AllReadyH.cons (o := { dst := none, op := Op.store 64 (Operand.tmp 42) (Operand.tmp 40), type := 0, pos := "ref.go:68", after := #[{ on := 9, ground := Ground.data }, { on := 7, ground := Ground.data }, { on := 7, ground := Ground.chain }, { on := 0, ground := Ground.phase }, { on := 1, ground := Ground.phase }, { on := 2, ground := Ground.phase }, { on := 3, ground := Ground.phase }, { on := 4, ground := Ground.phase }, { on := 5, ground := Ground.phase }, { on := 6, ground := Ground.phase }, { on := 7, ground := Ground.phase }], guard := none }) rfl (fun K hK => ?_) AllReadyH.nil
            go_simp
            refine hK.out _ _ g3 (fun hHeld => ?_)
            clear hK K
            refine wpAnyH_done (by kernel_rfl) ?_ _
            clear hHeld g0 g1 g2 g3 q0 q1 q2 f2 hr
            go_wp2
            go_ret
            exact ⟨by rw [HE1.out]; rfl, HR.out⟩

/-- Told ones and left ones. -/
structure TwoF (w wr : World) (c : ChT) (vt vl : Value) (T L : List WaT) : Prop where
  t : wr.ownsRow w.heap.size 77 5 vt T.length (fiFlat c T)
  l : wr.ownsRow w.heap.size 57 3 vl L.length (waFlat L)
  bel : Below w.heap.size w wr
theorem TwoF.below {w wr w' : World} {c : ChT} {vt vl : Value} {T L : List WaT} (h : TwoF w wr c vt vl T L) (hB : Below wr.heap.size wr w') : TwoF w w' c vt vl T L :=
  ⟨rowK h.t (Below.kept hB) (fun k hk => by have := (h.t.lt k hk).2; omega), rowK h.l (Below.kept hB) (fun k hk => by have := (h.l.lt k hk).2; omega), h.bel.trans (hB.mono h.bel.size)⟩
theorem TwoF.appL {w wr : World} {c : ChT} {vt vl : Value} {T L : List WaT} (x : WaT) (h : TwoF w wr c vt vl T L) (hl : L.length ≤ 2000000) :
    ∃ ao n cp w3, (∀ ty, (Builtin.append_ #[64, 64] ty #[vl, .slice (some ⟨wr.heap.size, 0, none⟩) 1 1]).run Tryz.prog (wr.alloc (.cells (waCs x) 57)) = .ok (.slice ao n cp) w3) ∧ TwoF w w3 c vt (.slice ao n cp) T (L ++ [x]) ∧ ∀ (k : Nat) (cs : Array Value) (E : TypeId), wr.heap[k]? = some (Obj.cells cs E (0, 0)) → E ≠ 57 → w3.heap[k]? = some (Obj.cells cs E (0, 0)) := by
  obtain ⟨ao, n, cp, w3, hr, ho3, hB3, hk3, hnr⟩ := row_more x h.l h.bel hl
  refine ⟨ao, n, cp, w3, hr, ⟨rowK h.t hk3 (fun g hg e => ?_), ho3, hB3⟩, fun k cs E hk hE => hk3.heap hk (fun e => ?_)⟩
  · obtain ⟨cs, e1⟩ := rowT h.t hg
    obtain ⟨cs2, e2⟩ := rowT h.l e
    rw [e1] at e2; simp at e2
  · obtain ⟨cs2, e2⟩ := rowT h.l e
    rw [hk] at e2; simp at e2; exact hE e2.2
theorem TwoF.appT {w wr : World} {c : ChT} {vt vl : Value} {T L : List WaT} (x : WaT) (h : TwoF w wr c vt vl T L) (hl : T.length ≤ 2000000) :
    ∃ ao n cp w3, (∀ ty, (Builtin.append_ #[63, 63] ty #[vt, .slice (some ⟨wr.heap.size, 0, none⟩) 1 1]).run Tryz.prog (wr.alloc (.cells (fiCs c x) 77)) = .ok (.slice ao n cp) w3) ∧ TwoF w w3 c (.slice ao n cp) vl (T ++ [x]) L ∧ ∀ (k : Nat) (cs : Array Value) (E : TypeId), wr.heap[k]? = some (Obj.cells cs E (0, 0)) → E ≠ 77 → w3.heap[k]? = some (Obj.cells cs E (0, 0)) := by
  have B3 : Below wr.heap.size wr (wr.alloc (.cells (fiCs c x) 77)) := (Below.refl _ wr).alloc (Nat.le_refl _) _
  have h3 := h.below B3
  obtain ⟨vn, w3, hr, ho3, hk3⟩ := app_fi c (x := x) h3.t (heap_alloc_new wr _) (by omega) (Nat.le_trans h.bel.size B3.size)
  obtain ⟨ao, n, cp, rfl⟩ : ∃ a n c, vn = .slice a n c := by
    obtain ⟨a, c, e⟩ := rowS ho3
    exact ⟨a, _, c, e⟩
  refine ⟨ao, n, cp, w3, hr, ⟨ho3, rowK h3.l hk3 (fun g hg e => ?_), ?_⟩, fun k cs E hk hE => hk3.heap (box_later hk B3) (fun e => ?_)⟩
  · obtain ⟨cs, e1⟩ := rowT h3.l hg
    obtain ⟨cs2, e2⟩ := rowT h3.t e
    rw [e1] at e2; simp at e2
  · refine ⟨hk3.os.trans h3.bel.os, hk3.tape.trans h3.bel.tape, hk3.output.trans h3.bel.output, Nat.le_trans h3.bel.size hk3.size, fun k hk' => ?_⟩
    rw [hk3.block k (Nat.lt_of_lt_of_le hk' h3.bel.size) (fun hv => by have := (h3.t.lt k hv).1; omega), h3.bel.block k hk']
  · obtain ⟨cs2, e2⟩ := rowT h3.t e
    rw [box_later hk B3] at e2; simp at e2; exact hE e2.2

set_option maxHeartbeats 4000000 in
theorem rFire_any {w : World} {b : Nat} {v : Value} {l : List WaT} (c : ChT) (h : Rb w b v l) (hw : Wats l) (hs : c.2.size ≤ 4294967295) :
    Calls Tryz.prog 22 #[.pointer (some ⟨b, 0, none⟩), .agg (chCs c)] w fun e w' => ∃ u, e = .returned u ∧ w'.ownsRow w.heap.size 77 5 u (l.filter (mB c)).length (fiFlat c (l.filter (mB c))) ∧ ∃ v', Rb w' b v' (l.filter (sB c)) ∧ Kept w w' (fun k => k = b) ∧ (v' = v ∨ ∀ k, v'.ownBlock = some k → w.heap.size ≤ k) := by
  have hB : Below w.heap.size w (w.alloc (.cells (chCs c) 59)) := (Below.refl _ w).alloc (Nat.le_refl _) _
  have hbx : (w.alloc (.cells (chCs c) 59)).heap[w.heap.size]? = some (.cells (chCs c) 59 (0, 0)) := heap_alloc_new w _
  have HC : Hid (Calls Tryz.prog 54 #[.agg (chCs c)] (w.alloc (.cells (chCs c) 59)) fun e w' => e = .returned (.bool (chOk c)) ∧ Hid (Below w.heap.size w w' ∧ w'.heap[w.heap.size]? = some (.cells (chCs c) 59 (0, 0)))) := (refIsChange18 c _ hs).mono (fun e w' hh => ⟨hh.1, hB.trans (hh.2.mono hB.size), box_later hbx hh.2⟩)
  have HH : Hid (Rb w b v l) := h
  have HW : Hid (Wats l) := hw
  have hl := hw.le
  obtain ⟨vo, vc, rfl⟩ := rowS h.ho
  clear hB hbx h hw
  cases hok : chOk c
  · rw [mB_no hok, sB_no hok]
    rw [hok] at HC
    clear hok
    go_enter Tryz.func22, Tryz.ntmps22
    go_wp2_with fail
    refine Calls.mono HC.out ?_
    rintro e w1 ⟨rfl, HB1⟩
    clear HC
    go_wp2
    all_goals (go_ret; exact ⟨_, rfl, World.ownsRow_nil _ _ _ _, _, HH.out.below HB1.out.1, (Below.kept HB1.out.1).mono (fun k h1 h2 => by omega), .inl rfl⟩)
  · rw [mB_yes hok, sB_yes hok]
    rw [hok] at HC
    clear hok
    go_enter Tryz.func22, Tryz.ntmps22
    go_wp2_with fail
    refine Calls.mono HC.out ?_
    rintro e w1 ⟨rfl, HB1⟩
    clear HC
    have H0 : Hid (TwoF w w1 c (.slice none 0 0) (.slice none 0 0) [] [] ∧ w1.heap[w.heap.size]? = some (.cells (chCs c) 59 (0, 0))) := ⟨⟨World.ownsRow_nil _ _ _ _, World.ownsRow_nil _ _ _ _, HB1.out.1⟩, HB1.out.2⟩
    obtain ⟨bx, hbx⟩ : ∃ bx, bx = w.heap.size := ⟨_, rfl⟩
    have HBS : Hid (bx = w.heap.size) := hbx
    rw [show w1.heap[w.heap.size]? = w1.heap[bx]? by rw [hbx]] at H0
    rw [← hbx]
    clear hbx HB1
    go_wp2
    go_loopw [5, 6, 7] (fun vt vl vi wr => ∃ i : Nat, i ≤ l.length ∧ vi = .int .i64 (i : Int) ∧ Hid (TwoF w wr c vt vl ((l.take i).filter (metB c)) ((l.take i).filter (stayB c)) ∧ wr.heap[bx]? = some (.cells (chCs c) 59 (0, 0)))) (fun _ _ vi _ => l.length - (intOf vi).toNat)
    case atStart => exact ⟨0, by omega, rfl, H0⟩
    case round =>
      obtain ⟨i, hi, rfl, HD⟩ := hrel
      clear H0
      have hR := HH.out.below HD.out.1.bel
      have c0 := hR.c0
      have hz := lt_of_block hR.hb
      have hTl : ((l.take i).filter (metB c)).length ≤ 2000000 := Nat.le_trans (List.length_filter_le _ _) (by rw [List.length_take]; omega)
      have hLl : ((l.take i).filter (stayB c)).length ≤ 2000000 := Nat.le_trans (List.length_filter_le _ _) (by rw [List.length_take]; omega)
      obtain ⟨fo, fn, fc, hff⟩ : ∃ a n c, u5 = .slice a n c := by
        obtain ⟨a, c, e⟩ := rowS HD.out.1.t
        exact ⟨a, _, c, e⟩
      obtain ⟨lo, ln, lc, hlf⟩ : ∃ a n c, u6 = .slice a n c := by
        obtain ⟨a, c, e⟩ := rowS HD.out.1.l
        exact ⟨a, _, c, e⟩
      subst hff hlf
      by_cases hlt : i < l.length
      · have hd : decide ((i : Int) < (l.length : Int)) = true := by simp; omega
        obtain ⟨x, hx⟩ : ∃ x, l[i]? = some x := ⟨_, List.getElem?_eq_getElem hlt⟩
        have HI : Hid (l[i]? = some x ∧ (x.2.1 = 1 ∨ x.2.1 = 2 ∨ x.2.1 = 3 ∨ x.2.1 = 4) ∧ x.2.2.size ≤ 4294967295 ∧ c.2.size ≤ 4294967295) := ⟨hx, HW.out.kind x (List.mem_of_getElem? hx), (HW.out.ok x (List.mem_of_getElem? hx)).2, hs⟩
        obtain ⟨ao, cap, he, hcap, hc⟩ := SW_owns hR.ho
        simp only [Value.slice.injEq, true_and] at he
        obtain ⟨rfl, rfl⟩ := he
        obtain ⟨tb, toff, hao, hcx⟩ := hc (fun e => by rw [e] at hlt; simp at hlt)
        obtain ⟨k0, k1, k2⟩ := hcx i x hx
        subst hao
        have hz0 : tb < wr.heap.size := World.block_lt_of_cell? wr _ k0
        have hz1 := lt_of_block HD.out.2
        have HG : Hid (∀ W, Below wr.heap.size wr W → W.cell? ⟨bx, 0, none⟩ = some (.int .i8 c.1) ∧ W.cell? ⟨bx, 1, none⟩ = some (.string c.2) ∧ W.cell? ⟨b, 0, none⟩ = some (.slice (some ⟨tb, toff, none⟩) l.length vc) ∧ W.cell? ⟨tb, toff + i * 3, none⟩ = some (.int .i64 x.1) ∧ W.cell? ⟨tb, toff + i * 3 + 1, none⟩ = some (.int .i8 x.2.1) ∧ W.cell? ⟨tb, toff + i * 3 + 2, none⟩ = some (.string x.2.2)) := fun W hW => by
          have hb := box_later HD.out.2 hW
          exact ⟨cell_of_row W bx 0 _ _ _ hb, cell_of_row W bx 1 _ _ _ hb, cellB hW c0, cellB hW k0, cellB hW k1, cellB hW k2⟩
        clear hx hcx hc hR k0 k1 k2
        go_upto_region 8 with fail
        clear c0
        refine wp_region_held_drew (S := (fun W => W.cell? ⟨bx, 0, none⟩ = some (.int .i8 c.1) ∧ W.cell? ⟨bx, 1, none⟩ = some (.string c.2) ∧ W.cell? ⟨b, 0, none⟩ = some (.slice (some ⟨tb, toff, none⟩) l.length vc) ∧ W.cell? ⟨tb, toff + i * 3, none⟩ = some (.int .i64 x.1) ∧ W.cell? ⟨tb, toff + i * 3 + 1, none⟩ = some (.int .i8 x.2.1) ∧ W.cell? ⟨tb, toff + i * 3 + 2, none⟩ = some (.string x.2.2))) (by kernel_rfl) ?_ (fun hHeld => ?_)
        · exact HG.out _ (below_drewN (Below.refl _ _) 1)
        refine wpAnyH_take (i := 0) (oi := { dst := some 21, op := Op.load 59 (Operand.tmp 3), type := 59, pos := "ref.go:80", after := #[], guard := none }) (v := ?_) rfl (by kernel_rfl) (by kernel_rfl) (by kernel_rfl) (fun _ _ _ h => h) (Or.inl ⟨by rfl, ?_⟩) (by assumption) ?_
        rotate_left
        · (intro w hSw; (try dsimp only at hSw); go_simp) <;> with_reducible rfl
        try simp only [Act.put, List.setIfInBounds_toArray, List.set_cons_zero, List.set_cons_succ]
        refine wpAnyH_take (i := 1) (oi := { dst := some 22, op := Op.move (Operand.tmp 0), type := 28, pos := "ref.go:80", after := #[], guard := none }) (v := ?_) rfl (by kernel_rfl) (by kernel_rfl) (by kernel_rfl) (fun _ _ _ h => h) (Or.inl ⟨by rfl, ?_⟩) (by assumption) ?_
        rotate_left
        · (intro w hSw; (try dsimp only at hSw); go_simp) <;> with_reducible rfl
        try simp only [Act.put, List.setIfInBounds_toArray, List.set_cons_zero, List.set_cons_succ]
        refine wpAnyH_take (i := 2) (oi := { dst := some 23, op := Op.nilCheck (Operand.tmp 22), type := 0, pos := "ref.go:80", after := #[{ on := 1, ground := Ground.data }], guard := none }) (v := ?_) rfl (by kernel_rfl) (by kernel_rfl) (by kernel_rfl) (fun _ _ _ h => h) (Or.inl ⟨by rfl, ?_⟩) (by assumption) ?_
        rotate_left
        · (intro w hSw; (try dsimp only at hSw); go_simp) <;> with_reducible rfl
        try simp only [Act.put, List.setIfInBounds_toArray, List.set_cons_zero, List.set_cons_succ]
        refine wpAnyH_take (i := 3) (oi := { dst := some 24, op := Op.fieldAddr 82 (Operand.tmp 23) 0, type := 0, pos := "ref.go:80", after := #[{ on := 2, ground := Ground.data }], guard := none }) (v := ?_) rfl (by kernel_rfl) (by kernel_rfl) (by kernel_rfl) (fun _ _ _ h => h) (Or.inl ⟨by rfl, ?_⟩) (by assumption) ?_
        rotate_left
        · (intro w hSw; (try dsimp only at hSw); go_simp) <;> with_reducible rfl
        try simp only [Act.put, List.setIfInBounds_toArray, List.set_cons_zero, List.set_cons_succ]
        refine wpAnyH_take (i := 4) (oi := { dst := some 25, op := Op.load 64 (Operand.tmp 24), type := 64, pos := "ref.go:80", after := #[{ on := 3, ground := Ground.data }], guard := none }) (v := ?_) rfl (by kernel_rfl) (by kernel_rfl) (by kernel_rfl) (fun _ _ _ h => h) (Or.inl ⟨by rfl, ?_⟩) (by assumption) ?_
        rotate_left
        · (intro w hSw; (try dsimp only at hSw); go_simp) <;> with_reducible rfl
        try simp only [Act.put, List.setIfInBounds_toArray, List.set_cons_zero, List.set_cons_succ]
        refine wpAnyH_take (i := 5) (oi := { dst := some 26, op := Op.move (Operand.tmp 7), type := 3, pos := "ref.go:80", after := #[], guard := none }) (v := ?_) rfl (by kernel_rfl) (by kernel_rfl) (by kernel_rfl) (fun _ _ _ h => h) (Or.inl ⟨by rfl, ?_⟩) (by assumption) ?_
        rotate_left
        · (intro w hSw; (try dsimp only at hSw); go_simp) <;> with_reducible rfl
        try simp only [Act.put, List.setIfInBounds_toArray, List.set_cons_zero, List.set_cons_succ]
        refine wpAnyH_take (i := 6) (oi := { dst := some 27, op := Op.indexAddr 64 (Operand.tmp 25) (Operand.tmp 26), type := 0, pos := "ref.go:80", after := #[{ on := 4, ground := Ground.data }, { on := 5, ground := Ground.data }], guard := none }) (v := ?_) rfl (by kernel_rfl) (by kernel_rfl) (by kernel_rfl) (fun _ _ _ h => h) (Or.inl ⟨by rfl, ?_⟩) (by assumption) ?_
        rotate_left
        · (intro w hSw; (try dsimp only at hSw); go_simp) <;> with_reducible rfl
        try simp only [Act.put, List.setIfInBounds_toArray, List.set_cons_zero, List.set_cons_succ]
        refine wpAnyH_take (i := 7) (oi := { dst := some 28, op := Op.load 57 (Operand.tmp 27), type := 57, pos := "ref.go:80", after := #[{ on := 6, ground := Ground.data }], guard := none }) (v := ?_) rfl (by kernel_rfl) (by kernel_rfl) (by kernel_rfl) (fun _ _ _ h => h) (Or.inl ⟨by rfl, ?_⟩) (by assumption) ?_
        rotate_left
        · (intro w hSw; (try dsimp only at hSw); go_simp) <;> with_reducible rfl
        try simp only [Act.put, List.setIfInBounds_toArray, List.set_cons_zero, List.set_cons_succ]
        refine wpAnyH_ready (rs := [8]) (by kernel_rfl) (by simp) ?_
        refine AllReadyH.cons (o := { dst := some 29, op := Op.call { callee := Callee.value (Operand.func 55), args := #[Operand.tmp 21, Operand.tmp 28], argTypes := #[59, 57] }, type := 4, pos := "ref.go:80", after := #[{ on := 0, ground := Ground.data }, { on := 7, ground := Ground.data }], guard := none }) rfl (fun K hK => ?_) AllReadyH.nil
        go_simp
        refine Calls.mono (refMeets18 c x _ HI.out.2.1 HI.out.2.2.2 HI.out.2.2.1) ?_
        rintro _ w5 ⟨rfl, b5⟩
        have HB5 : Hid (Below wr.heap.size wr w5) := (below_drewN (Below.refl _ wr) 1).trans b5
        clear b5
        refine hK.out _ _ (HG.out _ HB5.out) (fun hHeld => ?_)
        clear hK K
        refine wpAnyH_take (i := 9) (oi := { dst := some 8, op := Op.assign (Operand.tmp 29), type := 4, pos := "ref.go:80", after := #[{ on := 8, ground := Ground.data }, { on := 8, ground := Ground.chain }, { on := 0, ground := Ground.phase }, { on := 1, ground := Ground.phase }, { on := 2, ground := Ground.phase }, { on := 3, ground := Ground.phase }, { on := 4, ground := Ground.phase }, { on := 5, ground := Ground.phase }, { on := 6, ground := Ground.phase }, { on := 7, ground := Ground.phase }, { on := 8, ground := Ground.phase }], guard := none }) (v := ?_) rfl (by kernel_rfl) (by kernel_rfl) (by kernel_rfl) (fun _ _ _ h => h) (Or.inl ⟨by rfl, ?_⟩) (by assumption) ?_
        rotate_left
        · (intro w hSw; (try dsimp only at hSw); go_simp) <;> with_reducible rfl
        try simp only [Act.put, List.setIfInBounds_toArray, List.set_cons_zero, List.set_cons_succ]
        refine wpAnyH_done (by kernel_rfl) ?_ _
        clear hHeld
        cases hmm : metB c x
        · have HT8 : Hid (TwoF w w5 c (.slice fo fn fc) (.slice lo ln lc) ((l.take i).filter (metB c)) ((l.take i).filter (stayB c))) := HD.out.1.below HB5.out
          have HBX : Hid (w5.heap[bx]? = some (.cells (chCs c) 59 (0, 0))) := box_later HD.out.2 HB5.out
          obtain ⟨x0, x1, y0, y1, y2, y3⟩ := HG.out _ HB5.out
          have hzb : b < w5.heap.size := World.block_lt_of_cell? w5 _ y0
          have hzt : tb < w5.heap.size := World.block_lt_of_cell? w5 _ y1
          obtain ⟨so, sn, sc, w9, hr9, hT9⟩ := HT8.out.appL x hLl
          have HN : Hid (TwoF w w9 c (.slice fo fn fc) (.slice so sn sc) ((l.take (i + 1)).filter (metB c)) ((l.take (i + 1)).filter (stayB c)) ∧ w9.heap[bx]? = some (.cells (chCs c) 59 (0, 0))) := by
            rw [filt_no HI.out.1 hmm, filt_yes HI.out.1 (by unfold stayB; rw [hmm]; rfl)]
            exact ⟨hT9.1, hT9.2 _ _ _ HBX.out (by decide)⟩
          clear hT9 HT8
          go_wp2_with (at_builtin; refine Lib.wpList_append_run_sl _ rfl _ _ 64 rfl _ _ rfl rfl (hr9 _) ?_)
          go_roundw
          case rel => exact ⟨i + 1, by omega, by simp, HN⟩
          case measure => simp [intOf]; omega
        · go_upto_region 10 with fail
          have HB6 : Hid (Below wr.heap.size wr w5.drew) := below_drewN HB5.out 1
          obtain ⟨fo2, fn2, fc2, w8, hr, hT8, hks8⟩ := (HD.out.1.below HB6.out).appT x hTl
          have HT9 : Hid (TwoF w w8 c (.slice fo2 fn2 fc2) (.slice lo ln lc) ((l.take i).filter (metB c) ++ [x]) ((l.take i).filter (stayB c))) := hT8
          have HBX : Hid (w8.heap[bx]? = some (.cells (chCs c) 59 (0, 0))) := hks8 _ _ _ (box_later HD.out.2 HB6.out) (by decide)
          have HB7 : Hid (Below wr.heap.size wr (w5.drew.alloc (.cells (fiCs c x) 77))) := HB6.out.trans (((Below.refl _ _).alloc (Nat.le_refl _) _).mono HB6.out.size)
          have HG8 : Hid (w8.cell? ⟨bx, 0, none⟩ = some (.int .i8 c.1) ∧ w8.cell? ⟨bx, 1, none⟩ = some (.string c.2) ∧ w8.cell? ⟨b, 0, none⟩ = some (.slice (some ⟨tb, toff, none⟩) l.length vc) ∧ w8.cell? ⟨tb, toff + i * 3, none⟩ = some (.int .i64 x.1) ∧ w8.cell? ⟨tb, toff + i * 3 + 1, none⟩ = some (.int .i8 x.2.1) ∧ w8.cell? ⟨tb, toff + i * 3 + 2, none⟩ = some (.string x.2.2)) := by
            have hR8 := HH.out.below hT8.bel
            have hSW := SW_owns hR8.ho
            obtain ⟨ao', cap', he', _, hc'⟩ := hSW
            simp only [Value.slice.injEq, true_and] at he'
            obtain ⟨b0', off', hao', hcx'⟩ := hc' (fun e => by rw [e] at hlt; simp at hlt)
            rw [← he'.1] at hao'
            simp only [Option.some.injEq, Addr.mk.injEq, and_true] at hao'
            obtain ⟨rfl, rfl⟩ := hao'
            obtain ⟨j0, j1, j2⟩ := hcx' i x HI.out.1
            exact ⟨cell_of_row w8 bx 0 _ _ _ HBX.out, cell_of_row w8 bx 1 _ _ _ HBX.out, hR8.c0, j0, j1, j2⟩
          clear hT8 hks8
          refine wp_region_held_drew (S := (fun W => W.cell? ⟨bx, 0, none⟩ = some (.int .i8 c.1) ∧ W.cell? ⟨bx, 1, none⟩ = some (.string c.2) ∧ W.cell? ⟨b, 0, none⟩ = some (.slice (some ⟨tb, toff, none⟩) l.length vc) ∧ W.cell? ⟨tb, toff + i * 3, none⟩ = some (.int .i64 x.1) ∧ W.cell? ⟨tb, toff + i * 3 + 1, none⟩ = some (.int .i8 x.2.1) ∧ W.cell? ⟨tb, toff + i * 3 + 2, none⟩ = some (.string x.2.2))) (by kernel_rfl) ?_ (fun hHeld => ?_)
          · exact HG.out _ HB6.out
          generalize w5.drew = w6 at *
          refine wpAnyH_take (i := 0) (oi := { dst := some 31, op := Op.move (Operand.tmp 5), type := 63, pos := "ref.go:82", after := #[], guard := none }) (v := ?_) rfl (by kernel_rfl) (by kernel_rfl) (by kernel_rfl) (fun _ _ _ h => h) (Or.inl ⟨by rfl, ?_⟩) (by assumption) ?_
          rotate_left
          · (intro w hSw; (try dsimp only at hSw); go_simp) <;> with_reducible rfl
          try simp only [Act.put, List.setIfInBounds_toArray, List.set_cons_zero, List.set_cons_succ]
          refine wpAnyH_take (i := 1) (oi := { dst := some 32, op := Op.move (Operand.tmp 0), type := 28, pos := "ref.go:82", after := #[], guard := none }) (v := ?_) rfl (by kernel_rfl) (by kernel_rfl) (by kernel_rfl) (fun _ _ _ h => h) (Or.inl ⟨by rfl, ?_⟩) (by assumption) ?_
          rotate_left
          · (intro w hSw; (try dsimp only at hSw); go_simp) <;> with_reducible rfl
          try simp only [Act.put, List.setIfInBounds_toArray, List.set_cons_zero, List.set_cons_succ]
          refine wpAnyH_take (i := 2) (oi := { dst := some 33, op := Op.nilCheck (Operand.tmp 32), type := 0, pos := "ref.go:82", after := #[{ on := 1, ground := Ground.data }], guard := none }) (v := ?_) rfl (by kernel_rfl) (by kernel_rfl) (by kernel_rfl) (fun _ _ _ h => h) (Or.inl ⟨by rfl, ?_⟩) (by assumption) ?_
          rotate_left
          · (intro w hSw; (try dsimp only at hSw); go_simp) <;> with_reducible rfl
          try simp only [Act.put, List.setIfInBounds_toArray, List.set_cons_zero, List.set_cons_succ]
          refine wpAnyH_take (i := 3) (oi := { dst := some 34, op := Op.fieldAddr 82 (Operand.tmp 33) 0, type := 0, pos := "ref.go:82", after := #[{ on := 2, ground := Ground.data }], guard := none }) (v := ?_) rfl (by kernel_rfl) (by kernel_rfl) (by kernel_rfl) (fun _ _ _ h => h) (Or.inl ⟨by rfl, ?_⟩) (by assumption) ?_
          rotate_left
          · (intro w hSw; (try dsimp only at hSw); go_simp) <;> with_reducible rfl
          try simp only [Act.put, List.setIfInBounds_toArray, List.set_cons_zero, List.set_cons_succ]
          refine wpAnyH_take (i := 4) (oi := { dst := some 35, op := Op.load 64 (Operand.tmp 34), type := 64, pos := "ref.go:82", after := #[{ on := 3, ground := Ground.data }], guard := none }) (v := ?_) rfl (by kernel_rfl) (by kernel_rfl) (by kernel_rfl) (fun _ _ _ h => h) (Or.inl ⟨by rfl, ?_⟩) (by assumption) ?_
          rotate_left
          · (intro w hSw; (try dsimp only at hSw); go_simp) <;> with_reducible rfl
          try simp only [Act.put, List.setIfInBounds_toArray, List.set_cons_zero, List.set_cons_succ]
          refine wpAnyH_take (i := 5) (oi := { dst := some 36, op := Op.move (Operand.tmp 7), type := 3, pos := "ref.go:82", after := #[], guard := none }) (v := ?_) rfl (by kernel_rfl) (by kernel_rfl) (by kernel_rfl) (fun _ _ _ h => h) (Or.inl ⟨by rfl, ?_⟩) (by assumption) ?_
          rotate_left
          · (intro w hSw; (try dsimp only at hSw); go_simp) <;> with_reducible rfl
          try simp only [Act.put, List.setIfInBounds_toArray, List.set_cons_zero, List.set_cons_succ]
          refine wpAnyH_take (i := 6) (oi := { dst := some 37, op := Op.indexAddr 64 (Operand.tmp 35) (Operand.tmp 36), type := 0, pos := "ref.go:82", after := #[{ on := 4, ground := Ground.data }, { on := 5, ground := Ground.data }], guard := none }) (v := ?_) rfl (by kernel_rfl) (by kernel_rfl) (by kernel_rfl) (fun _ _ _ h => h) (Or.inl ⟨by rfl, ?_⟩) (by assumption) ?_
          rotate_left
          · (intro w hSw; (try dsimp only at hSw); go_simp) <;> with_reducible rfl
          try simp only [Act.put, List.setIfInBounds_toArray, List.set_cons_zero, List.set_cons_succ]
          refine wpAnyH_take (i := 7) (oi := { dst := some 38, op := Op.load 57 (Operand.tmp 37), type := 57, pos := "ref.go:82", after := #[{ on := 6, ground := Ground.data }], guard := none }) (v := ?_) rfl (by kernel_rfl) (by kernel_rfl) (by kernel_rfl) (fun _ _ _ h => h) (Or.inl ⟨by rfl, ?_⟩) (by assumption) ?_
          rotate_left
          · (intro w hSw; (try dsimp only at hSw); go_simp) <;> with_reducible rfl
          try simp only [Act.put, List.setIfInBounds_toArray, List.set_cons_zero, List.set_cons_succ]
          refine wpAnyH_take (i := 8) (oi := { dst := some 39, op := Op.load 59 (Operand.tmp 3), type := 59, pos := "ref.go:82", after := #[], guard := none }) (v := ?_) rfl (by kernel_rfl) (by kernel_rfl) (by kernel_rfl) (fun _ _ _ h => h) (Or.inl ⟨by rfl, ?_⟩) (by assumption) ?_
          rotate_left
          · (intro w hSw; (try dsimp only at hSw); go_simp) <;> with_reducible rfl
          try simp only [Act.put, List.setIfInBounds_toArray, List.set_cons_zero, List.set_cons_succ]
          refine wpAnyH_take (i := 9) (oi := { dst := some 40, op := Op.build 77 #[(0, Operand.tmp 38), (1, Operand.tmp 39)], type := 77, pos := "ref.go:82", after := #[{ on := 7, ground := Ground.data }, { on := 8, ground := Ground.data }], guard := none }) (v := ?_) rfl (by kernel_rfl) (by kernel_rfl) (by kernel_rfl) (fun _ _ _ h => h) (Or.inl ⟨by rfl, ?_⟩) (by assumption) ?_
          rotate_left
          · (intro w hSw; (try dsimp only at hSw); go_simp) <;> with_reducible rfl
          try simp only [Act.put, List.setIfInBounds_toArray, List.set_cons_zero, List.set_cons_succ]
          refine wpAnyH_ready (rs := [10]) (by kernel_rfl) (by simp) ?_
          refine AllReadyH.cons (o := { dst := some 41, op := Op.buildSlice 63 1 #[(0, Operand.tmp 40)], type := 63, pos := "ref.go:82", after := #[{ on := 9, ground := Ground.data }], guard := none }) rfl (fun K hK => ?_) AllReadyH.nil
          go_simp
          refine hK.out _ _ (HG.out _ HB7.out) (fun hHeld => ?_)
          clear hK K
          refine wpAnyH_ready (rs := [11]) (by kernel_rfl) (by simp) ?_
          refine AllReadyH.cons (o := { dst := some 42, op := Op.call { callee := Callee.builtin Builtin.append, args := #[Operand.tmp 31, Operand.tmp 41], argTypes := #[63, 63] }, type := 63, pos := "ref.go:82", after := #[{ on := 0, ground := Ground.data }, { on := 10, ground := Ground.data }], guard := none }) rfl (fun K hK => ?_) AllReadyH.nil
          refine (if_pos (by kernel_rfl)).mpr ?_
          refine wp_appR _ _ 63 rfl (.slice fo fn fc) _ _ w8 rfl rfl (hr _) ?_
          refine hK.out _ _ (HG8.out) (fun hHeld => ?_)
          clear hK K
          refine wpAnyH_take (i := 12) (oi := { dst := some 5, op := Op.assign (Operand.tmp 42), type := 63, pos := "ref.go:82", after := #[{ on := 11, ground := Ground.data }, { on := 11, ground := Ground.chain }, { on := 0, ground := Ground.phase }, { on := 1, ground := Ground.phase }, { on := 2, ground := Ground.phase }, { on := 3, ground := Ground.phase }, { on := 4, ground := Ground.phase }, { on := 5, ground := Ground.phase }, { on := 6, ground := Ground.phase }, { on := 7, ground := Ground.phase }, { on := 8, ground := Ground.phase }, { on := 9, ground := Ground.phase }, { on := 10, ground := Ground.phase }, { on := 11, ground := Ground.phase }], guard := none }) (v := ?_) rfl (by kernel_rfl) (by kernel_rfl) (by kernel_rfl) (fun _ _ _ h => h) (Or.inl ⟨by rfl, ?_⟩) (by assumption) ?_
          rotate_left
          · (intro w hSw; (try dsimp only at hSw); go_simp) <;> with_reducible rfl
          try simp only [Act.put, List.setIfInBounds_toArray, List.set_cons_zero, List.set_cons_succ]
          refine wpAnyH_done (by kernel_rfl) ?_ _
          clear hHeld HB6 HB7 hr
          obtain ⟨x0, x1, y0, y1, y2, y3⟩ := HG8.out
          have hzb : b < w8.heap.size := World.block_lt_of_cell? w8 _ y0
          have hzt : tb < w8.heap.size := World.block_lt_of_cell? w8 _ y1
          go_wp2_with fail
          go_at_call 56
          refine Calls.mono (refGoes18 x w8 HI.out.2.1) ?_
          rintro e w7 ⟨rfl, b7⟩
          have HT8 : Hid (TwoF w w7 c (.slice fo2 fn2 fc2) (.slice lo ln lc) ((l.take i).filter (metB c) ++ [x]) ((l.take i).filter (stayB c))) := HT9.out.below b7
          have z0 := cellB b7 y0
          have z1 := cellB b7 y1
          have z2 := cellB b7 y2
          have z3 := cellB b7 y3
          have hzb7 : b < w7.heap.size := World.block_lt_of_cell? w7 _ z0
          have hzt7 : tb < w7.heap.size := World.block_lt_of_cell? w7 _ z1
          have HBX7 : Hid (w7.heap[bx]? = some (.cells (chCs c) 59 (0, 0))) := box_later HBX.out b7
          clear x0 x1 y0 y1 y2 y3 hzb hzt b7 HT9 HBX HG8
          cases hg : goB x
          · have HBX := HBX7
            obtain ⟨so, sn, sc, w9, hr9, hT9⟩ := HT8.out.appL x hLl
            have HN : Hid (TwoF w w9 c (.slice fo2 fn2 fc2) (.slice so sn sc) ((l.take (i + 1)).filter (metB c)) ((l.take (i + 1)).filter (stayB c)) ∧ w9.heap[bx]? = some (.cells (chCs c) 59 (0, 0))) := by
              rw [filt_yes HI.out.1 hmm, filt_yes HI.out.1 (by unfold stayB; rw [hmm, hg]; rfl)]
              exact ⟨hT9.1, hT9.2 _ _ _ HBX.out (by decide)⟩
            clear hT9 HT8
            go_wp2_with (at_builtin; refine Lib.wpList_append_run_sl _ rfl _ _ 64 rfl _ _ rfl rfl (hr9 _) ?_)
            go_roundw
            case rel => exact ⟨i + 1, by omega, by simp, HN⟩
            case measure => simp [intOf]; omega
          · have HN : Hid (TwoF w w7 c (.slice fo2 fn2 fc2) (.slice lo ln lc) ((l.take (i + 1)).filter (metB c)) ((l.take (i + 1)).filter (stayB c)) ∧ w7.heap[bx]? = some (.cells (chCs c) 59 (0, 0))) := by
              rw [filt_yes HI.out.1 hmm, filt_no HI.out.1 (by unfold stayB; rw [hmm, hg]; rfl)]
              exact ⟨HT8.out, HBX7.out⟩
            clear HT8
            go_wp2
            go_roundw
            case rel => exact ⟨i + 1, by omega, by simp, HN⟩
            case measure => simp [intOf]; omega
      · have hd : decide ((i : Int) < (l.length : Int)) = false := by simp; omega
        have hT := HD.out.1
        rw [List.take_of_length_le (by omega)] at hT
        have f0 := frozen_of_row wr b 0 _ _ hR.hb
        obtain ⟨hS, hk⟩ := Rb.set hR.hb (row_lower hT.l (Nat.zero_le _))
        have HE : Hid ((wr.setCell ⟨b, 0, none⟩ (.slice lo ln lc)).ownsRow w.heap.size 77 5 (.slice fo fn fc) (l.filter (metB c)).length (fiFlat c (l.filter (metB c))) ∧ ∃ v', Rb (wr.setCell ⟨b, 0, none⟩ (.slice lo ln lc)) b v' (l.filter (stayB c)) ∧ Kept w (wr.setCell ⟨b, 0, none⟩ (.slice lo ln lc)) (fun k => k = b) ∧ (v' = .slice vo l.length vc ∨ ∀ k, v'.ownBlock = some k → w.heap.size ≤ k)) :=
          ⟨rowK hT.t hk (fun g hg e => by have := (hT.t.lt g hg).1; have := lt_of_block HH.out.hb; omega), _, hS, ((Below.kept hT.bel).mono (fun k h1 h2 => by omega)).trans hk (fun _ _ h => h), .inr (fun k hk => (hT.l.lt k hk).1)⟩
        clear HD hR hT hS hk hTl hLl
        go_wp2
        all_goals (go_ret; exact ⟨_, rfl, HE.out⟩)

end Go.Proofs.YtkcapiblicfboaaGreatDoor
