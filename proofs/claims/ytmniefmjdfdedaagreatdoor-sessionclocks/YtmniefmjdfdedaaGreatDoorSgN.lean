/- apart of the law's World: what was told stays, and shares nothing. -/
import Derived.Test.YtmniefmjdfdedaaGreatDoorSgX
import Derived.Test.YtmniefmjdfdedaaGreatDoorSgE
import Derived.Test.YtmniefmjdfdedaaGreatDoorSgH
namespace Go.Proofs.YtmniefmjdfdedaaGreatDoor
open Go.RowKit Go.Shelf
set_option maxRecDepth 8000
set_option linter.unusedSimpArgs false
set_option linter.unusedVariables false

theorem Tryz.infoNg : (Tryz.prog.info? 2).map (fun i => (i.zero, i.size, i.bytes)) = some (some (.int .i64 0), 1, 8) := by kernel_rfl
set_option maxHeartbeats 8000000 in
theorem apart_go (x : Nat) (q1 q2 kv wv : Value) (rs : List Rw) (ws : List Value) (xs : List (List Int)) (W : World) (B : Nat)
    (hrow : W.heap[x]? = some (.cells #[q1, q2, kv, wv] 36 (0, 0)))
    (hv : SeesL W 42 kv rs) (hw : W.ownsRow B 42 1 wv ws.length ws)
    (hr : RowsR W 2 1 rs (fun j => (xs.getD j []).map (Value.int .i64)))
    (hwo : ∀ j v, ws[j]? = some v → OI W 0 v (xs.getD j []))
    (hap : ApartR rs) (hn : rs.length ≤ 40) (hnn : ∀ j (hj : j < rs.length), rs[j].n = (xs.getD j []).length ∧ rs[j].n ≤ 1000) (hlw : ws.length = rs.length) :
    Calls Tryz.prog 8 #[.pointer (some ⟨x, 0, none⟩)] W fun e w' => e = .returned (.bool true) ∧ Hid (Kept W w' (BlkR rs)) := by
  have HA : Hid (SeesL W 42 kv rs ∧ RowsR W 2 1 rs (fun j => (xs.getD j []).map (Value.int .i64)) ∧ ApartR rs ∧ (∀ j (hj : j < rs.length), rs[j].n = (xs.getD j []).length ∧ rs[j].n ≤ 1000) ∧ (∀ j v, ws[j]? = some v → OI W 0 v (xs.getD j [])) ∧ W.ownsRow B 42 1 wv ws.length ws) := ⟨hv, hr, hap, hnn, hwo, hw⟩
  have hnb : ¬ BlkR rs x := fun ⟨j, hj, e⟩ => rowNe (hr j hj) hrow (by decide) e
  have HX0 : Hid (∀ wr, Kept W wr (BlkR rs) → wr.cell? ⟨x, 2, none⟩ = some kv ∧ wr.cell? ⟨x, 3, none⟩ = some wv ∧ x < wr.heap.size) := fun wr hk => by
    have r := hk.heap hrow hnb
    exact ⟨by rw [cell_of_row wr x 2 _ _ _ r]; rfl, by rw [cell_of_row wr x 3 _ _ _ r]; rfl, lt_of_block r⟩
  obtain ⟨i0, hi, hz0, hz1, hz2⟩ := info3B Tryz.infoNg
  obtain ⟨i1, gi, gz0, gz1, gz2⟩ := info3B Tryz.infoLi
  obtain ⟨ao, cap, rfl, hlc, h3⟩ := hv
  obtain ⟨wo0, wc, rfl⟩ := row_val hw
  have HX : Hid (∀ wr, Kept W wr (BlkR rs) → wr.cell? ⟨x, 2, none⟩ = some (.slice ao rs.length cap) ∧ wr.cell? ⟨x, 3, none⟩ = some (.slice wo0 ws.length wc) ∧ x < wr.heap.size) := HX0
  have HC : Hid (∀ wr, Kept W wr (BlkR rs) → ∀ j (hj : j < rs.length), ∃ b off, ao = some ⟨b, off, none⟩ ∧ wr.cell? ⟨b, off + j, none⟩ = some rs[j].v) := fun wr hk j hj => by
    obtain ⟨ao', cap', e, _, h5⟩ := HA.out.1.kept HA.out.2.1 (by decide) hk
    obtain ⟨b, off, e2, _, h6⟩ := h5 (by intro e; rw [e] at hj; simp at hj)
    simp only [Value.slice.injEq, true_and] at e
    exact ⟨b, off, e.1.trans e2, h6 j hj⟩
  have HCw : Hid (∀ wr, Kept W wr (fun _ => False) → ∀ j v, ws[j]? = some v → ∃ g, wo0 = some ⟨g, 0, none⟩ ∧ wr.cell? ⟨g, j, none⟩ = some v) := fun wr hk j v hv => by
    have hj := (List.getElem?_eq_some_iff.1 hv).1
    obtain ⟨g, e, hc⟩ := row_first HA.out.2.2.2.2.2 (by omega)
    exact ⟨g, e, hk.cell (by rw [hc j (by omega), hv]) (fun h => h)⟩
  have hx0 := HX.out W (Kept.refl _ _)
  clear hr hap hnn h3 hrow hwo hw HX0 hnb
  go_enter Tryz.func8, Tryz.ntmps8
  go_wp2
  go_loopw [3] (fun vi wr => ∃ i : Nat, i ≤ rs.length ∧ vi = .int .i64 (i : Int) ∧ Hid (Kept W wr (fun _ => False))) (fun vi _ => rs.length - (intOf vi).toNat)
  case atStart => exact ⟨0, Nat.zero_le _, rfl, Kept.refl _ _⟩
  case round =>
    clear hx0
    obtain ⟨i, hil, rfl, HK⟩ := hrel
    have hkB : Kept W wr (BlkR rs) := HK.out.mono (fun _ _ e => e.elim)
    obtain ⟨c2, c3, zx⟩ := HX.out wr hkB
    by_cases hlt : i < rs.length
    · have d0 : decide ((i : Int) < (rs.length : Int)) = true := by simp; omega
      obtain ⟨b, off, rfl, hcl⟩ := HC.out wr hkB i hlt
      obtain ⟨u, hu⟩ : ∃ u, ws[i]? = some u := ⟨_, List.getElem?_eq_getElem (by omega)⟩
      obtain ⟨g, rfl, hcw⟩ := HCw.out wr HK.out i u hu
      have hv1 : OI wr 0 rs[i].v (xs.getD i []) := by
        have h1 := HA.out.2.1 i hlt
        rw [(HA.out.2.2.2.1 i hlt).1] at h1
        exact rowK h1 HK.out (fun _ _ e => e)
      have hu1 : OI wr 0 u (xs.getD i []) := rowK (HA.out.2.2.2.2.1 i u hu) HK.out (fun _ _ e => e)
      have HU0 : Hid (Calls Tryz.prog 20 #[rs[i].v, u] wr.drew fun e w' => e = .returned (.bool true) ∧ Hid (Kept wr.drew w' (fun _ => False))) := same_any (w := wr.drew) hv1 hu1 (by have := HA.out.2.2.2.1 i hlt; omega)
      obtain ⟨va, vn, vc, hvv⟩ := row_form hv1
      obtain ⟨ua, un, uc, hvu⟩ := row_form hu1
      rw [hvv] at hcl
      rw [hvu] at hcw
      have HU : Hid (Calls Tryz.prog 20 #[.slice va vn vc, .slice ua un uc] wr.drew fun e w' => e = .returned (.bool true) ∧ Hid (Kept wr.drew w' (fun _ => False))) := by have := HU0.out; rw [hvv, hvu] at this; exact this
      have g0 : wr.cell? ⟨x, 2, none⟩ = some (.slice (some ⟨b, off, none⟩) rs.length cap) ∧ wr.cell? ⟨x, 3, none⟩ = some (.slice (some ⟨g, 0, none⟩) ws.length wc) ∧ wr.cell? ⟨b, off + i, none⟩ = some (.slice va vn vc) ∧ wr.cell? ⟨g, i, none⟩ = some (.slice ua un uc) := ⟨c2, c3, hcl, hcw⟩
      have ige : (0 : Int) ≤ (i : Int) := by omega
      have ilt : (i : Int) < (rs.length : Int) := by omega
      have ilw : (i : Int) < (ws.length : Int) := by omega
      clear hv1 hu1 HU0 hvv hvu hu hkB
      go_wp2_with fail
      refine wp_region_held_drew (S := (fun V => V.cell? ⟨x, 2, none⟩ = some (.slice (some ⟨b, off, none⟩) rs.length cap) ∧ V.cell? ⟨x, 3, none⟩ = some (.slice (some ⟨g, 0, none⟩) ws.length wc) ∧ V.cell? ⟨b, off + i, none⟩ = some (.slice va vn vc) ∧ V.cell? ⟨g, i, none⟩ = some (.slice ua un uc))) (by kernel_rfl) ?_ (fun hHeld => ?_)
      · exact g0
      refine wpAnyH_take (i := 0) (oi := { dst := some 23, op := Op.move (Operand.tmp 0), type := 24, pos := "law.go:114", after := #[], guard := none }) (v := ?_) rfl (by kernel_rfl) (by kernel_rfl) (by kernel_rfl) (fun _ _ _ h => h) (Or.inl ⟨by rfl, ?_⟩) (by assumption) ?_
      rotate_left
      · (intro w hSw; (try dsimp only at hSw); go_simp) <;> with_reducible rfl
      try simp only [Act.put, List.setIfInBounds_toArray, List.set_cons_zero, List.set_cons_succ]
      refine wpAnyH_take (i := 1) (oi := { dst := some 24, op := Op.nilCheck (Operand.tmp 23), type := 0, pos := "law.go:114", after := #[{ on := 0, ground := Ground.data }], guard := none }) (v := ?_) rfl (by kernel_rfl) (by kernel_rfl) (by kernel_rfl) (fun _ _ _ h => h) (Or.inl ⟨by rfl, ?_⟩) (by assumption) ?_
      rotate_left
      · (intro w hSw; (try dsimp only at hSw); go_simp) <;> with_reducible rfl
      try simp only [Act.put, List.setIfInBounds_toArray, List.set_cons_zero, List.set_cons_succ]
      refine wpAnyH_take (i := 2) (oi := { dst := some 25, op := Op.fieldAddr 36 (Operand.tmp 24) 2, type := 0, pos := "law.go:114", after := #[{ on := 1, ground := Ground.data }], guard := none }) (v := ?_) rfl (by kernel_rfl) (by kernel_rfl) (by kernel_rfl) (fun _ _ _ h => h) (Or.inl ⟨by rfl, ?_⟩) (by assumption) ?_
      rotate_left
      · (intro w hSw; (try dsimp only at hSw); go_simp) <;> with_reducible rfl
      try simp only [Act.put, List.setIfInBounds_toArray, List.set_cons_zero, List.set_cons_succ]
      refine wpAnyH_take (i := 3) (oi := { dst := some 26, op := Op.load 34 (Operand.tmp 25), type := 34, pos := "law.go:114", after := #[{ on := 2, ground := Ground.data }], guard := none }) (v := ?_) rfl (by kernel_rfl) (by kernel_rfl) (by kernel_rfl) (fun _ _ _ h => h) (Or.inl ⟨by rfl, ?_⟩) (by assumption) ?_
      rotate_left
      · (intro w hSw; (try dsimp only at hSw); go_simp) <;> with_reducible rfl
      try simp only [Act.put, List.setIfInBounds_toArray, List.set_cons_zero, List.set_cons_succ]
      refine wpAnyH_take (i := 4) (oi := { dst := some 27, op := Op.move (Operand.tmp 3), type := 3, pos := "law.go:114", after := #[], guard := none }) (v := ?_) rfl (by kernel_rfl) (by kernel_rfl) (by kernel_rfl) (fun _ _ _ h => h) (Or.inl ⟨by rfl, ?_⟩) (by assumption) ?_
      rotate_left
      · (intro w hSw; (try dsimp only at hSw); go_simp) <;> with_reducible rfl
      try simp only [Act.put, List.setIfInBounds_toArray, List.set_cons_zero, List.set_cons_succ]
      refine wpAnyH_take (i := 5) (oi := { dst := some 28, op := Op.indexAddr 34 (Operand.tmp 26) (Operand.tmp 27), type := 0, pos := "law.go:114", after := #[{ on := 3, ground := Ground.data }, { on := 4, ground := Ground.data }], guard := none }) (v := ?_) rfl (by kernel_rfl) (by kernel_rfl) (by kernel_rfl) (fun _ _ _ h => h) (Or.inl ⟨by rfl, ?_⟩) (by assumption) ?_
      rotate_left
      · (intro w hSw; (try dsimp only at hSw); go_simp) <;> with_reducible rfl
      try simp only [Act.put, List.setIfInBounds_toArray, List.set_cons_zero, List.set_cons_succ]
      refine wpAnyH_take (i := 6) (oi := { dst := some 29, op := Op.load 42 (Operand.tmp 28), type := 42, pos := "law.go:114", after := #[{ on := 5, ground := Ground.data }], guard := none }) (v := ?_) rfl (by kernel_rfl) (by kernel_rfl) (by kernel_rfl) (fun _ _ _ h => h) (Or.inl ⟨by rfl, ?_⟩) (by assumption) ?_
      rotate_left
      · (intro w hSw; (try dsimp only at hSw); go_simp) <;> with_reducible rfl
      try simp only [Act.put, List.setIfInBounds_toArray, List.set_cons_zero, List.set_cons_succ]
      refine wpAnyH_take (i := 7) (oi := { dst := some 30, op := Op.move (Operand.tmp 0), type := 24, pos := "law.go:114", after := #[], guard := none }) (v := ?_) rfl (by kernel_rfl) (by kernel_rfl) (by kernel_rfl) (fun _ _ _ h => h) (Or.inl ⟨by rfl, ?_⟩) (by assumption) ?_
      rotate_left
      · (intro w hSw; (try dsimp only at hSw); go_simp) <;> with_reducible rfl
      try simp only [Act.put, List.setIfInBounds_toArray, List.set_cons_zero, List.set_cons_succ]
      refine wpAnyH_take (i := 8) (oi := { dst := some 31, op := Op.nilCheck (Operand.tmp 30), type := 0, pos := "law.go:114", after := #[{ on := 7, ground := Ground.data }], guard := none }) (v := ?_) rfl (by kernel_rfl) (by kernel_rfl) (by kernel_rfl) (fun _ _ _ h => h) (Or.inl ⟨by rfl, ?_⟩) (by assumption) ?_
      rotate_left
      · (intro w hSw; (try dsimp only at hSw); go_simp) <;> with_reducible rfl
      try simp only [Act.put, List.setIfInBounds_toArray, List.set_cons_zero, List.set_cons_succ]
      refine wpAnyH_take (i := 9) (oi := { dst := some 32, op := Op.fieldAddr 36 (Operand.tmp 31) 3, type := 0, pos := "law.go:114", after := #[{ on := 8, ground := Ground.data }], guard := none }) (v := ?_) rfl (by kernel_rfl) (by kernel_rfl) (by kernel_rfl) (fun _ _ _ h => h) (Or.inl ⟨by rfl, ?_⟩) (by assumption) ?_
      rotate_left
      · (intro w hSw; (try dsimp only at hSw); go_simp) <;> with_reducible rfl
      try simp only [Act.put, List.setIfInBounds_toArray, List.set_cons_zero, List.set_cons_succ]
      refine wpAnyH_take (i := 10) (oi := { dst := some 33, op := Op.load 34 (Operand.tmp 32), type := 34, pos := "law.go:114", after := #[{ on := 9, ground := Ground.data }], guard := none }) (v := ?_) rfl (by kernel_rfl) (by kernel_rfl) (by kernel_rfl) (fun _ _ _ h => h) (Or.inl ⟨by rfl, ?_⟩) (by assumption) ?_
      rotate_left
      · (intro w hSw; (try dsimp only at hSw); go_simp) <;> with_reducible rfl
      try simp only [Act.put, List.setIfInBounds_toArray, List.set_cons_zero, List.set_cons_succ]
      refine wpAnyH_take (i := 11) (oi := { dst := some 34, op := Op.move (Operand.tmp 3), type := 3, pos := "law.go:114", after := #[], guard := none }) (v := ?_) rfl (by kernel_rfl) (by kernel_rfl) (by kernel_rfl) (fun _ _ _ h => h) (Or.inl ⟨by rfl, ?_⟩) (by assumption) ?_
      rotate_left
      · (intro w hSw; (try dsimp only at hSw); go_simp) <;> with_reducible rfl
      try simp only [Act.put, List.setIfInBounds_toArray, List.set_cons_zero, List.set_cons_succ]
      refine wpAnyH_take (i := 12) (oi := { dst := some 35, op := Op.indexAddr 34 (Operand.tmp 33) (Operand.tmp 34), type := 0, pos := "law.go:114", after := #[{ on := 10, ground := Ground.data }, { on := 11, ground := Ground.data }], guard := none }) (v := ?_) rfl (by kernel_rfl) (by kernel_rfl) (by kernel_rfl) (fun _ _ _ h => h) (Or.inl ⟨by rfl, ?_⟩) (by assumption) ?_
      rotate_left
      · (intro w hSw; (try dsimp only at hSw); go_simp) <;> with_reducible rfl
      try simp only [Act.put, List.setIfInBounds_toArray, List.set_cons_zero, List.set_cons_succ]
      refine wpAnyH_take (i := 13) (oi := { dst := some 36, op := Op.load 42 (Operand.tmp 35), type := 42, pos := "law.go:114", after := #[{ on := 12, ground := Ground.data }], guard := none }) (v := ?_) rfl (by kernel_rfl) (by kernel_rfl) (by kernel_rfl) (fun _ _ _ h => h) (Or.inl ⟨by rfl, ?_⟩) (by assumption) ?_
      rotate_left
      · (intro w hSw; (try dsimp only at hSw); go_simp) <;> with_reducible rfl
      try simp only [Act.put, List.setIfInBounds_toArray, List.set_cons_zero, List.set_cons_succ]
      refine wpAnyH_ready (rs := [14]) (by kernel_rfl) (by simp) ?_
      refine AllReadyH.cons (o := { dst := some 37, op := Op.call { callee := Callee.value (Operand.func 20), args := #[Operand.tmp 29, Operand.tmp 36], argTypes := #[42, 42] }, type := 4, pos := "law.go:114", after := #[{ on := 6, ground := Ground.data }, { on := 13, ground := Ground.data }], guard := none }) rfl (fun K hK => ?_) AllReadyH.nil
      go_simp
      refine Calls.mono HU.out ?_
      rintro r1 w1 ⟨rfl, hk1⟩
      have g1 : w1.cell? ⟨x, 2, none⟩ = some (.slice (some ⟨b, off, none⟩) rs.length cap) ∧ w1.cell? ⟨x, 3, none⟩ = some (.slice (some ⟨g, 0, none⟩) ws.length wc) ∧ w1.cell? ⟨b, off + i, none⟩ = some (.slice va vn vc) ∧ w1.cell? ⟨g, i, none⟩ = some (.slice ua un uc) := ⟨hk1.out.cell g0.1 (fun e => e), hk1.out.cell g0.2.1 (fun e => e), hk1.out.cell g0.2.2.1 (fun e => e), hk1.out.cell g0.2.2.2 (fun e => e)⟩
      have HK1 : Hid (Kept W w1 (fun _ => False)) := (HK.out.drewN 1).trans hk1.out (fun _ _ e => e)
      clear hk1 HU
      refine hK.out _ _ g1 (fun hHeld => ?_)
      clear hK K
      refine wpAnyH_take (i := 15) (oi := { dst := some 4, op := Op.assign (Operand.tmp 37), type := 4, pos := "law.go:114", after := #[{ on := 14, ground := Ground.data }, { on := 14, ground := Ground.chain }, { on := 0, ground := Ground.phase }, { on := 1, ground := Ground.phase }, { on := 2, ground := Ground.phase }, { on := 3, ground := Ground.phase }, { on := 4, ground := Ground.phase }, { on := 5, ground := Ground.phase }, { on := 6, ground := Ground.phase }, { on := 7, ground := Ground.phase }, { on := 8, ground := Ground.phase }, { on := 9, ground := Ground.phase }, { on := 10, ground := Ground.phase }, { on := 11, ground := Ground.phase }, { on := 12, ground := Ground.phase }, { on := 13, ground := Ground.phase }, { on := 14, ground := Ground.phase }], guard := none }) (v := ?_) rfl (by kernel_rfl) (by kernel_rfl) (by kernel_rfl) (fun _ _ _ h => h) (Or.inl ⟨by rfl, ?_⟩) (by assumption) ?_
      rotate_left
      · (intro w hSw; (try dsimp only at hSw); go_simp) <;> with_reducible rfl
      try simp only [Act.put, List.setIfInBounds_toArray, List.set_cons_zero, List.set_cons_succ]
      refine wpAnyH_done (by kernel_rfl) ?_ _
      clear hHeld g1 g0 HK
      go_wp2
      go_roundw
      case rel => exact ⟨i + 1, by omega, by go_num, HK1⟩
      case measure => simp [intOf]; omega
    · have d0 : decide ((i : Int) < (rs.length : Int)) = false := by simp; omega
      obtain ⟨wp, hwp⟩ : ∃ wp, wp = wr := ⟨_, rfl⟩
      subst hwp
      have HB0 : Hid (Kept W wp (BlkR rs)) := hkB
      have hr1 : RowsR wp 2 1 rs (fun j => (xs.getD j []).map (Value.int .i64)) := fun j hj => rowK (HA.out.2.1 j hj) HK.out (fun _ _ e => e)
      have HR1 : Hid (RowsR wp 2 1 rs (fun j => (xs.getD j []).map (Value.int .i64))) := hr1
      clear hr1 hkB HK HCw
      go_wp2
      go_loopw [5] (fun vi wr => ∃ i : Nat, i ≤ rs.length ∧ vi = .int .i64 (i : Int) ∧ Hid (∃ Xs, Fd wp wr 2 1 0 rs (fun j => .int .i64 (-1 - (j : Int))) i 0 Xs)) (fun vi _ => rs.length - (intOf vi).toNat)
      case atStart => exact ⟨0, Nat.zero_le _, rfl, _, Fd.start HR1.out⟩
      case round =>
        clear c2 c3 zx d0
        obtain ⟨i, hil, rfl, HE⟩ := hrel
        obtain ⟨wo, hwo⟩ : ∃ wo, wo = wr := ⟨_, rfl⟩
        subst hwo
        have HKw : Hid (Kept W wo (BlkR rs)) := HB0.out.trans HE.out.choose_spec.2.2.2 (fun _ _ h => h)
        obtain ⟨c2, c3, zx⟩ := HX.out wo HKw.out
        by_cases hlt : i < rs.length
        · have d0 : decide ((i : Int) < (rs.length : Int)) = true := by simp; omega
          obtain ⟨b, off, rfl, hcl⟩ := HC.out wo HKw.out i hlt
          have HCl0 : Hid (∀ w', Kept wp w' (BlkR rs) → w'.cell? ⟨b, off + i, none⟩ = some rs[i].v ∧ w'.cell? ⟨x, 2, none⟩ = some (.slice (some ⟨b, off, none⟩) rs.length cap) ∧ x < w'.heap.size) := fun w' hk => by
            have hk2 := HB0.out.trans hk (fun _ _ h => h)
            obtain ⟨b', off', e, h⟩ := HC.out w' hk2 i hlt
            simp only [Option.some.injEq, Addr.mk.injEq, and_true] at e
            rw [e.1, e.2]
            have e3 := HX.out w' hk2
            rw [e.1, e.2] at e3
            exact ⟨h, e3.1, e3.2.2⟩
          obtain ⟨va, vc, hvv⟩ := row_val (HA.out.2.1 i hlt)
          have hbn := (HA.out.2.2.2.1 i hlt).2
          obtain ⟨n, hnn⟩ : ∃ n, n = rs[i].n := ⟨_, rfl⟩
          rw [← hnn] at hvv hbn
          have HV0 : Hid (rs[i].v = .slice va n vc) := hvv
          have HN : Hid (n = rs[i].n) := hnn
          clear hcl hvv hnn c3
          go_wp2
          clear c2 zx
          go_loopw [6] (fun vk wr => ∃ k : Nat, k ≤ n ∧ vk = .int .i64 (k : Int) ∧ Hid (∃ Xs, Fd wp wr 2 1 0 rs (fun j => .int .i64 (-1 - (j : Int))) i k Xs)) (fun vk _ => n - (intOf vk).toNat)
          case atStart => exact ⟨0, Nat.zero_le _, rfl, HE.out⟩
          case round =>
            obtain ⟨k, hkn, rfl, HE2⟩ := hrel
            obtain ⟨Xs, hF⟩ := HE2.out
            obtain ⟨hcl, c2, zx⟩ := HCl0.out wr hF.2.2.2
            rw [HV0.out] at hcl
            by_cases hkl : k < n
            · have d1 : decide ((k : Int) < (n : Int)) = true := by simp; omega
              obtain ⟨g, hg, hrf⟩ := row_first (by have := hF.1 i hlt; rw [HV0.out, ← HN.out] at this; exact this) (show 0 < n by omega)
              subst hg
              clear hrf
              have hown := hF.1 i hlt
              rw [HV0.out, ← HN.out] at hown
              have hlen := hown.1
              obtain ⟨u0, hu0⟩ : ∃ u, wr.cell? ⟨g, k, none⟩ = some u := ⟨(Xs i)[k]'(by omega), by rw [hown.cellAt _ (by omega), List.getElem?_eq_getElem (by omega)]⟩
              have hfz0 := hown.frozenAt k
              have R0 := hown.stored k (.int .i64 (-1 - (i : Int)))
              have hgr : wr.grownBy (wr.setCell ⟨g, k, none⟩ (.int .i64 (-1 - (i : Int)))) (some g) := R0.2
              have hMk : Mk 1 0 (k + 1) (.int .i64 (-1 - (i : Int))) ((Xs i).set k (.int .i64 (-1 - (i : Int)))) := by
                intro j hj
                by_cases hjk : j < k
                · rw [List.getElem?_set_ne (by omega)]
                  exact hF.2.2.1 j hjk
                · obtain rfl : j = k := by omega
                  rw [show j * 1 + 0 = j by omega, List.getElem?_set_self (by omega)]
              have HF2 : Hid (Fd wp (wr.setCell ⟨g, k, none⟩ (.int .i64 (-1 - (i : Int)))) 2 1 0 rs (fun j => .int .i64 (-1 - (j : Int))) i (k + 1) (fun j => if j = i then _ else Xs j)) := hF.store HA.out.2.2.1 hlt (by rw [HV0.out]; rfl) (by rw [HV0.out, ← HN.out]; exact R0.1) hgr hMk
              clear hF HE2 HE hown hlen hgr hMk R0
              go_wp2
              go_roundw
              case rel => exact ⟨k + 1, by omega, by go_num, _, HF2.out⟩
              case measure => simp [intOf]; omega
            · have d1 : decide ((k : Int) < (n : Int)) = false := by simp; omega
              have HF2 : Hid (∃ Xs, Fd wp wr 2 1 0 rs (fun j => .int .i64 (-1 - (j : Int))) (i + 1) 0 Xs) := ⟨Xs, hF.turn hlt (by rw [← HN.out]; omega)⟩
              clear hF
              go_wp2
              go_roundw
              case rel => exact ⟨i + 1, by omega, by go_num, HF2⟩
              case measure => simp [intOf]; omega
        · have d0 : decide ((i : Int) < (rs.length : Int)) = false := by simp; omega
          obtain rfl : i = rs.length := by omega
          obtain ⟨Xs, hF⟩ := HE.out
          have HM : Hid (RowsR wo 2 1 rs Xs ∧ ∀ j (hj : j < rs.length), Mk 1 0 rs[j].n (.int .i64 (-1 - (j : Int))) (Xs j)) := ⟨hF.1, fun j hj => hF.2.1 j hj hj⟩
          clear hF HE HB0 HR1
          obtain ⟨wq, hwq⟩ : ∃ wq, wq = wo := ⟨_, rfl⟩
          subst hwq
          have HQ : Hid (∀ wr, Kept wq wr (BlkR rs) → (wr.cell? ⟨x, 2, none⟩ = some (.slice ao rs.length cap) ∧ x < wr.heap.size) ∧ ∀ j (hj : j < rs.length), ∃ b off, ao = some ⟨b, off, none⟩ ∧ wr.cell? ⟨b, off + j, none⟩ = some rs[j].v) := fun wr hk => by
            have hk2 := HKw.out.trans hk (fun _ _ h => h)
            exact ⟨⟨(HX.out wr hk2).1, (HX.out wr hk2).2.2⟩, HC.out wr hk2⟩
          clear HC HX
          go_wp2
          clear c2 c3 zx d0
          go_loopw [7, 8] (fun mv vi wr => ∃ (i : Nat) (ms : List Value), i ≤ rs.length ∧ vi = .int .i64 (i : Int) ∧ Hid (Bd wq wr 2 42 1 0 rs Xs (fun j => .int .i64 (-1000 - (j : Int))) 24 i mv ms)) (fun _ vi _ => rs.length - (intOf vi).toNat)
          case atStart => exact ⟨0, [], Nat.zero_le _, rfl, Bd.start HM.out.1⟩
          case round =>
            obtain ⟨i, ms, hil, rfl, HB⟩ := hrel
            obtain ⟨wo, hwo⟩ : ∃ wo, wo = wr := ⟨_, rfl⟩
            subst hwo
            obtain ⟨mo, mc, rfl⟩ := row_val HB.out.more
            obtain ⟨c2, zx⟩ := (HQ.out wo HB.out.kept).1
            by_cases hlt : i < rs.length
            · have d0 : decide ((i : Int) < (rs.length : Int)) = true := by simp; omega
              obtain ⟨b, off, rfl, hcl⟩ := (HQ.out wo HB.out.kept).2 i hlt
              have hrow := HB.out.rows i hlt
              have hrow0 := HM.out.1 i hlt
              have hbn := (HA.out.2.2.2.1 i hlt).2
              obtain ⟨va, vn, vc, hvv⟩ := row_form hrow
              have HV : Hid (rs[i].v = .slice va vn vc) := hvv
              rw [hvv] at hcl
              have HR0 : Hid (wo.ownsRow 0 2 1 rs[i].v rs[i].n (Xs i) ∧ wq.ownsRow 0 2 1 rs[i].v rs[i].n (Xs i)) := ⟨hrow, hrow0⟩
              clear hrow hrow0 hvv
              go_wp2
              clear c2 zx hcl
              go_loopw [9, 10] (fun m vk wr => ∃ t : Nat, t ≤ 24 ∧ vk = .int .i64 (t : Int) ∧ Hid (Gw wo wr 2 1 0 rs[i].v rs[i].n (Xs i) (.int .i64 (-1000 - (i : Int))) t m)) (fun _ vk _ => 24 - (intOf vk).toNat)
              case atStart => exact ⟨0, Nat.zero_le _, rfl, by rw [← HV.out]; exact Gw.start _ HR0.out.1⟩
              case round =>
                obtain ⟨t, htc, rfl, HG⟩ := hrel
                obtain ⟨xa, xn, xc, rfl⟩ : ∃ a n c, u9 = .slice a n c := by
                  obtain ⟨ys, h1, _⟩ := HG.out.ys
                  exact row_form h1
                by_cases htl : t < 24
                · have d1 : decide ((t : Int) < 24) = true := by simp; omega
                  have HG1 := HG.out.next ((Kept.refl wr _).alloc (.cells [.int .i64 (-1000 - (i : Int))].toArray 2))
                  obtain ⟨ys, hy1, hy2, hy3⟩ := HG1.ys
                  obtain ⟨v', w', hr, ho, hgr, hcase⟩ := app_row (P := Tryz.prog) 0 42 42 2 i0 (.int .i64 0) 1 8 Tryz.underlying42 hi hz0 hz1 hz2 rfl (by decide) _ _ _ hy1 wr.heap.size [.int .i64 (-1000 - (i : Int))] rfl (heap_alloc_new _ _) (by simp [Value.oneCell']) (by omega) (by decide) (Nat.zero_le _)
                  have HN : Hid (Gw wo w' 2 1 0 rs[i].v rs[i].n (Xs i) (.int .i64 (-1000 - (i : Int))) (t + 1) v') := HG1.more (fun g hg => row_lt HR0.out.1 hg) HR0.out.1.1 rfl (by decide) rfl (fun ys' h' => by
                    have e2 : ys' = ys := by
                      have := own_same h' hy1
                      exact List.append_cancel_left this
                    rw [e2]
                    exact ho) hgr hcase
                  clear HG1 hy1 hy2 hy3 ho hgr hcase HG
                  go_wp2_with (at_builtin; refine Lib.wpList_append_run_sl _ rfl _ _ 42 rfl _ _ rfl rfl hr ?_)
                  go_roundw
                  case rel => exact ⟨t + 1, by omega, by go_num, HN⟩
                  case measure => simp [intOf]; omega
                · have d1 : decide ((t : Int) < 24) = false := by simp; omega
                  obtain rfl : t = 24 := by omega
                  have hk1 : Kept wr (wr.alloc (.cells #[.slice xa xn xc] 42)) (fun _ => False) := (Kept.refl wr _).alloc _
                  have HG1 := HG.out.next hk1
                  have hmo : (wr.alloc (.cells #[.slice xa xn xc] 42)).ownsRow wq.heap.size 42 1 (.slice mo i mc) i ms := row_kept (row_kept HB.out.more HG.out.kept (fun g hg e => by
                    have h1 := row_lt HR0.out.2 e
                    have h2 := row_base HB.out.more hg
                    omega)) hk1 (fun _ _ h => h)
                  obtain ⟨v', w', hr, ho, hgr, _⟩ := app_row (P := Tryz.prog) wq.heap.size 34 34 42 i1 (.slice none 0 0) 1 24 Tryz.underlying34 gi gz0 gz1 gz2 rfl (by decide) _ _ _ hmo wr.heap.size [.slice xa xn xc] rfl (heap_alloc_new _ _) (by simp [Value.oneCell']) (by omega) (by decide) (Nat.le_trans HB.out.kept.size (Nat.le_trans HG.out.kept.size hk1.size))
                  have HN : Hid (Bd wq w' 2 42 1 0 rs Xs (fun j => .int .i64 (-1000 - (j : Int))) 24 (i + 1) v' (ms ++ [.slice xa xn xc])) := HB.out.step (by decide) HM.out.1 HA.out.2.2.1 hlt HG1 ho hgr
                  clear hmo ho hgr HG1 hk1 HG
                  go_wp2_with (at_builtin; refine Lib.wpList_append_run_sl _ rfl _ _ 34 rfl _ _ rfl rfl hr ?_)
                  go_roundw
                  case rel => exact ⟨i + 1, _, by omega, by go_num, HN⟩
                  case measure => simp [intOf]; omega
            · have d0 : decide ((i : Int) < (rs.length : Int)) = false := by simp; omega
              obtain rfl : i = rs.length := by omega
              have HCo : Hid (∀ w', Kept wo w' (fun _ => False) → (w'.cell? ⟨x, 2, none⟩ = some (.slice ao rs.length cap) ∧ x < w'.heap.size) ∧ ∀ j (hj : j < rs.length), ∃ b off, ao = some ⟨b, off, none⟩ ∧ w'.cell? ⟨b, off + j, none⟩ = some rs[j].v) := fun w' hk => HQ.out w' (HB.out.kept.trans hk (fun _ _ h => h.elim))
              have HZo : Hid (∀ w', Kept wo w' (fun _ => False) → Kept W w' (BlkR rs)) := fun w' hk => HKw.out.trans (HB.out.kept.trans hk (fun _ _ h => h.elim)) (fun _ _ h => h)
              clear HQ
              go_wp2
              clear c2 zx d0
              go_loopw [11] (fun vi wr => ∃ i : Nat, i ≤ rs.length ∧ vi = .int .i64 (i : Int) ∧ Hid (Kept wo wr (fun _ => False))) (fun vi _ => rs.length - (intOf vi).toNat)
              case atStart => exact ⟨0, Nat.zero_le _, rfl, Kept.refl _ _⟩
              case round =>
                obtain ⟨i, hil2, rfl, HK⟩ := hrel
                obtain ⟨c2, zx⟩ := (HCo.out wr HK.out).1
                by_cases hlt2 : i < rs.length
                · have d2 : decide ((i : Int) < (rs.length : Int)) = true := by simp; omega
                  have hml : i < ms.length := by rw [HB.out.len]; exact hlt2
                  obtain ⟨b, off, rfl, hcl⟩ := (HCo.out wr HK.out).2 i hlt2
                  have HCl : Hid (∀ w', Kept wo w' (fun _ => False) → w'.cell? ⟨b, off + i, none⟩ = some rs[i].v ∧ w'.cell? ⟨x, 2, none⟩ = some (.slice (some ⟨b, off, none⟩) rs.length cap) ∧ x < w'.heap.size) := fun w' hk => by
                    obtain ⟨e3, e4⟩ := HCo.out w' hk
                    obtain ⟨b', off', e, h⟩ := e4 i hlt2
                    simp only [Option.some.injEq, Addr.mk.injEq, and_true] at e
                    rw [← e.1, ← e.2] at h
                    exact ⟨h, e3⟩
                  obtain ⟨ys, hn1, hn2⟩ := HB.out.news i hlt2 hml
                  have hr1 := HB.out.rows i hlt2
                  have hmk1 := HM.out.2 i hlt2
                  have hbn := (HA.out.2.2.2.1 i hlt2).2
                  obtain ⟨va, vc, hvv⟩ := row_val hr1
                  obtain ⟨ma, mc2, hmm⟩ := row_val hn1
                  obtain ⟨gm, hgm, hgc⟩ := row_first HB.out.more (by omega)
                  have HGm : Hid (∀ w', Kept wo w' (fun _ => False) → w'.cell? ⟨gm, i, none⟩ = some ms[i]) := fun w' hk => hk.cell (by
                    rw [hgc i (by omega), List.getElem?_eq_getElem hml]) (fun h => h)
                  obtain ⟨mx, hmx⟩ : ∃ mx, mx = ms[i] := ⟨_, rfl⟩
                  rw [← hmx] at HGm hn1 hmm
                  obtain ⟨vx, hvx⟩ : ∃ vx, vx = rs[i].v := ⟨_, rfl⟩
                  rw [← hvx] at HCl hcl hr1 hvv
                  obtain ⟨n, hnn⟩ : ∃ n, n = rs[i].n := ⟨_, rfl⟩
                  rw [← hnn] at hr1 hn1 hmk1 hbn hvv hmm
                  subst hvv hmm hgm
                  have HRo : Hid (wo.ownsRow 0 2 1 (.slice va n vc) n (Xs i) ∧ Mk 1 0 n (.int .i64 (-1 - (i : Int))) (Xs i) ∧ wo.ownsRow 0 2 1 (.slice ma (n + 24) mc2) (n + 24) (Xs i ++ ys) ∧ Mk 1 0 24 (.int .i64 (-1000 - (i : Int))) ys) := ⟨hr1, hmk1, hn1, hn2⟩
                  clear hr1 hmk1 hn1 hn2 hmx hvx hnn hgc
                  go_wp2
                  clear hcl c2 zx
                  go_loopw [13] (fun vk wr => ∃ k : Nat, k ≤ n + 24 ∧ vk = .int .i64 (k : Int) ∧ Hid (Kept wo wr (fun _ => False))) (fun vk _ => n + 24 - (intOf vk).toNat)
                  case atStart => exact ⟨0, Nat.zero_le _, rfl, HK⟩
                  case round =>
                    clear HK
                    obtain ⟨k, hkl, rfl, HK⟩ := hrel
                    by_cases hkn : k < n + 24
                    · have d3 : decide ((k : Int) < (n : Int) + 24) = true := by simp; omega
                      obtain ⟨mb, hmb, hmc⟩ := row_first HRo.out.2.2.1 (by omega)
                      subst hmb
                      obtain ⟨s1, c2, zx⟩ := HCl.out wr HK.out
                      have s2 := HGm.out wr HK.out
                      by_cases hkn2 : k < n
                      · have b1 : decide ((k : Int) < (n : Int)) = true := by simp; omega
                        have b2 : decide ((n : Int) ≤ (k : Int)) = false := by rw [decide_eq_false_iff_not]; omega
                        obtain ⟨vb, hvb, hvc⟩ := row_first HRo.out.1 (by omega)
                        subst hvb
                        have s3 : wr.cell? ⟨vb, k, none⟩ = some (.int .i64 (-1 - (i : Int))) := HK.out.cell (by
                          rw [hvc _ (by omega)]
                          have := HRo.out.2.1 k hkn2
                          rw [show k * 1 + 0 = k by omega] at this
                          exact this) (fun h => h)
                        have s4 : wr.cell? ⟨mb, k, none⟩ = some (.int .i64 (-1 - (i : Int))) := HK.out.cell (by
                          rw [hmc _ (by omega)]
                          have := HRo.out.2.1.left (ys := ys) HRo.out.1.1 (by decide) k hkn2
                          rw [show k * 1 + 0 = k by omega] at this
                          exact this) (fun h => h)
                        clear hvc hmc
                        go_wp2
                        go_roundw
                        case rel => exact ⟨k + 1, by omega, by go_num, HK⟩
                        case measure => simp [intOf]; omega
                      · have b1 : decide ((k : Int) < (n : Int)) = false := by rw [decide_eq_false_iff_not]; omega
                        have b2 : decide ((n : Int) ≤ (k : Int)) = true := by simp; omega
                        have s4 : wr.cell? ⟨mb, k, none⟩ = some (.int .i64 (-1000 - (i : Int))) := HK.out.cell (by
                          rw [hmc _ (by omega)]
                          have := HRo.out.2.2.2.right HRo.out.1.1 (show n ≤ k by omega) hkn
                          rw [show k * 1 + 0 = k by omega] at this
                          exact this) (fun h => h)
                        clear hmc
                        go_wp2
                        go_roundw
                        case rel => exact ⟨k + 1, by omega, by go_num, HK⟩
                        case measure => simp [intOf]; omega
                    · have d3 : decide ((k : Int) < (n : Int) + 24) = false := by rw [decide_eq_false_iff_not]; omega
                      go_wp2
                      go_roundw
                      case rel => exact ⟨i + 1, by omega, by go_num, HK⟩
                      case measure => simp [intOf]; omega
                · have d2 : decide ((i : Int) < (rs.length : Int)) = false := by simp; omega
                  have HE : Hid (Kept W wr (BlkR rs)) := HZo.out wr HK.out
                  go_wp2
                  go_ret
                  exact ⟨rfl, HE⟩

/-- apart of a World in memory. -/
theorem Wo.apart {w W : World} {own : Nat → Nat} {p : Nat} {R : WoR} (h : Wo w W own p R) (hl : R.ws.length = R.xs.length) :
    Calls Tryz.prog 8 #[.pointer (some ⟨R.x, 0, none⟩)] W fun e w' => e = .returned (.bool true) ∧ Hid (Kept W w' (fun k => own k = p)) := by
  refine Calls.mono (apart_go R.x _ _ R.kv R.wv R.ks R.ws R.xs W w.heap.size h.row (seesL_own (by rw [List.length_map]; exact h.kr)) h.wr h.ko h.wo h.ap h.kn h.nn (by rw [hl, h.lk])) ?_
  rintro e w' ⟨rfl, hk⟩
  exact ⟨rfl, hk.out.mono (fun k _ e => h.o k (.inr (.inr (.inr (.inr (.inr (.inl e)))))))⟩
end Go.Proofs.YtmniefmjdfdedaaGreatDoor
