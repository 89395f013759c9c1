/- lagoonref00's apartAcl and apartIds: lists that lie apart share no memory. -/
import Derived.Test.YtoeialngbbfoeaaGreatDoorBgEJ
import Derived.Test.YtoeialngbbfoeaaGreatDoorBgIJ
namespace Go.Proofs.YtoeialngbbfoeaaGreatDoor
open Go.RowKit Go.Shelf
set_option maxRecDepth 8000

set_option maxHeartbeats 4000000 in
theorem apartAcl_rows (lv : Value) (rs : List Rw) (Xs0 : Nat → List Value) (w : World) (hv : SeesL w 29 lv rs) (hr : RowsR w 105 3 rs Xs0) (hap : ApartR rs) (hn : rs.length ≤ 600) (hb : ∀ j (hj : j < rs.length), rs[j].n ≤ 1100000000)
    (ht : Tab w) (hg0 : 1 < w.heap.size) (hgt : ¬ BlkR rs 1) :
    Calls Tryz.prog 35 #[lv] w fun e w' => e = .returned (.bool true) ∧ Kept w w' (BlkR rs) ∧ ∃ Xs, RowsR w' 105 3 rs Xs := by
  have HA : Hid (SeesL w 29 lv rs ∧ RowsR w 105 3 rs Xs0 ∧ ApartR rs ∧ (∀ j (hj : j < rs.length), rs[j].n ≤ 1100000000) ∧ ¬ BlkR rs 1) := ⟨hv, hr, hap, hb, hgt⟩
  have HT : Hid (∀ w', Kept w w' (BlkR rs) → Tab w') := fun w' hk => tab_same ht (hk.block _ hg0 hgt)
  obtain ⟨ao, cap, rfl, hlc, h3⟩ := hv
  have HC : Hid (∀ wr, Kept w wr (BlkR rs) → ∀ j (hj : j < rs.length), ∃ b off, ao = some ⟨b, off, none⟩ ∧ wr.cell? ⟨b, off + j, none⟩ = some rs[j].v) := fun wr hk j hj => by
    obtain ⟨ao', cap', e, _, h5⟩ := HA.out.1.kept HA.out.2.1 (by decide) hk
    obtain ⟨b, off, e2, _, h6⟩ := h5 (by intro e; rw [e] at hj; simp at hj)
    simp only [Value.slice.injEq, true_and] at e
    exact ⟨b, off, e.1.trans e2, h6 j hj⟩
  clear hr hap hb ht hgt h3
  go_enter Tryz.func35, Tryz.ntmps35
  go_wp2
  go_loopw [3] (fun vi wr => ∃ i : Nat, i ≤ rs.length ∧ vi = .int .i64 (i : Int) ∧ Hid (∃ Xs, Fd w wr 105 3 2 rs (fun j => .string (markS (-1000000 - (j : Int)))) i 0 Xs)) (fun vi _ => rs.length - (intOf vi).toNat)
  case atStart => exact ⟨0, Nat.zero_le _, rfl, _, Fd.start HA.out.2.1⟩
  case round =>
    obtain ⟨i, hil, rfl, HE⟩ := hrel
    by_cases hlt : i < rs.length
    · have d0 : decide ((i : Int) < (rs.length : Int)) = true := by simp; omega
      obtain ⟨wo, hwo⟩ : ∃ wo, wo = wr := ⟨_, rfl⟩
      subst hwo
      obtain ⟨b, off, rfl, hcl⟩ := HC.out wo HE.out.choose_spec.2.2.2 i hlt
      have HCl0 : Hid (∀ w', Kept w w' (BlkR rs) → w'.cell? ⟨b, off + i, none⟩ = some rs[i].v) := fun w' hk => by
        obtain ⟨b', off', e, h⟩ := HC.out w' hk i hlt
        simp only [Option.some.injEq, Addr.mk.injEq, and_true] at e
        rw [e.1, e.2]
        exact h
      obtain ⟨va, vc, hvv⟩ := row_val (HA.out.2.1 i hlt)
      have hbn := HA.out.2.2.2.1 i hlt
      obtain ⟨n, hnn⟩ : ∃ n, n = rs[i].n := ⟨_, rfl⟩
      rw [← hnn] at hvv hbn
      have HV0 : Hid (rs[i].v = .slice va n vc) := hvv
      have HN : Hid (n = rs[i].n) := hnn
      have HR1 : Hid (IntKind.i64.wrap (-1000000 - (i : Int)) = -1000000 - (i : Int)) := by
        show _ = _
        simp [IntKind.wrap, IntKind.bits, IntKind.signed]
        omega
      clear hcl hvv hnn
      go_wp2
      go_loopw [4] (fun vk wr => ∃ k : Nat, k ≤ n ∧ vk = .int .i64 (k : Int) ∧ Hid (∃ Xs, Fd w wr 105 3 2 rs (fun j => .string (markS (-1000000 - (j : Int)))) i k Xs)) (fun vk _ => n - (intOf vk).toNat)
      case atStart => exact ⟨0, Nat.zero_le _, rfl, HE.out⟩
      case round =>
        obtain ⟨k, hkn, rfl, HE2⟩ := hrel
        obtain ⟨Xs, hF⟩ := HE2.out
        have HF : Hid (Fd w wr 105 3 2 rs (fun j => .string (markS (-1000000 - (j : Int)))) i k Xs) := hF
        have hcl := HCl0.out wr hF.2.2.2
        rw [HV0.out] at hcl
        by_cases hkl : k < n
        · have d1 : decide ((k : Int) < (n : Int)) = true := by simp; omega
          obtain ⟨g, hg, _⟩ := row_first (by have := hF.1 i hlt; rw [HV0.out, ← HN.out] at this; exact this) (show 0 < n by omega)
          subst hg
          have HV : Hid (rs[i].v = .slice (some ⟨g, 0, none⟩) n vc) := HV0.out
          have HCl : Hid (∀ w', Kept w w' (BlkR rs) → w'.cell? ⟨b, off + i, none⟩ = some (.slice (some ⟨g, 0, none⟩) n vc)) := fun w' hk => by rw [← HV.out]; exact HCl0.out w' hk
          obtain ⟨m1, hm1⟩ : ∃ m1, m1 = markS (-1000000 - (i : Int)) := ⟨_, rfl⟩
          have HM1 : Hid (m1 = markS (-1000000 - (i : Int))) := hm1
          have q0 : (0 : Int) ≤ (k : Int) := by omega
          have q1 : (k : Int) < (n : Int) := by omega
          have q2 : (0 : Int) ≤ (i : Int) := by omega
          have q3 : (i : Int) < (rs.length : Int) := by omega
          clear hm1 hF HE2 HE
          go_wp2
          refine wp_region_held_drew (S := fun V' => V'.cell? ⟨b, off + i, none⟩ = some (.slice (some ⟨g, 0, none⟩) n vc)) (by kernel_rfl) ?_ (fun hHeld => ?_)
          · exact HCl.out _ (HF.out.2.2.2.trans ((Kept.refl wr _).drewN 1) (fun _ _ h => h))
          refine wpAnyH_take (i := 0) (oi := { dst := some 22, op := Op.move (Operand.tmp 0), type := 46, pos := "bag.go:457", after := #[], guard := none }) (v := ?_) rfl (by kernel_rfl) (by kernel_rfl) (by kernel_rfl) (fun _ _ _ h => h) (Or.inl ⟨by rfl, ?_⟩) (by assumption) ?_
          rotate_left
          · (intro w hSw; (try dsimp only at hSw); go_simp) <;> with_reducible rfl
          try simp only [Act.put, List.setIfInBounds_toArray, List.set_cons_zero, List.set_cons_succ]
          refine wpAnyH_take (i := 1) (oi := { dst := some 23, op := Op.move (Operand.tmp 3), type := 3, pos := "bag.go:457", after := #[], guard := none }) (v := ?_) rfl (by kernel_rfl) (by kernel_rfl) (by kernel_rfl) (fun _ _ _ h => h) (Or.inl ⟨by rfl, ?_⟩) (by assumption) ?_
          rotate_left
          · (intro w hSw; (try dsimp only at hSw); go_simp) <;> with_reducible rfl
          try simp only [Act.put, List.setIfInBounds_toArray, List.set_cons_zero, List.set_cons_succ]
          refine wpAnyH_take (i := 2) (oi := { dst := some 24, op := Op.indexAddr 46 (Operand.tmp 22) (Operand.tmp 23), type := 0, pos := "bag.go:457", after := #[{ on := 0, ground := Ground.data }, { on := 1, ground := Ground.data }], guard := none }) (v := ?_) rfl (by kernel_rfl) (by kernel_rfl) (by kernel_rfl) (fun _ _ _ h => h) (Or.inl ⟨by rfl, ?_⟩) (by assumption) ?_
          rotate_left
          · (intro w hSw; (try dsimp only at hSw); go_simp) <;> with_reducible rfl
          try simp only [Act.put, List.setIfInBounds_toArray, List.set_cons_zero, List.set_cons_succ]
          refine wpAnyH_take (i := 3) (oi := { dst := some 25, op := Op.load 29 (Operand.tmp 24), type := 29, pos := "bag.go:457", after := #[{ on := 2, ground := Ground.data }], guard := none }) (v := ?_) rfl (by kernel_rfl) (by kernel_rfl) (by kernel_rfl) (fun _ _ _ h => h) (Or.inl ⟨by rfl, ?_⟩) (by assumption) ?_
          rotate_left
          · (intro w hSw; (try dsimp only at hSw); go_simp) <;> with_reducible rfl
          try simp only [Act.put, List.setIfInBounds_toArray, List.set_cons_zero, List.set_cons_succ]
          refine wpAnyH_take (i := 4) (oi := { dst := some 26, op := Op.move (Operand.tmp 4), type := 3, pos := "bag.go:457", after := #[], guard := none }) (v := ?_) rfl (by kernel_rfl) (by kernel_rfl) (by kernel_rfl) (fun _ _ _ h => h) (Or.inl ⟨by rfl, ?_⟩) (by assumption) ?_
          rotate_left
          · (intro w hSw; (try dsimp only at hSw); go_simp) <;> with_reducible rfl
          try simp only [Act.put, List.setIfInBounds_toArray, List.set_cons_zero, List.set_cons_succ]
          refine wpAnyH_take (i := 5) (oi := { dst := some 27, op := Op.move (Operand.tmp 3), type := 3, pos := "bag.go:457", after := #[], guard := none }) (v := ?_) rfl (by kernel_rfl) (by kernel_rfl) (by kernel_rfl) (fun _ _ _ h => h) (Or.inl ⟨by rfl, ?_⟩) (by assumption) ?_
          rotate_left
          · (intro w hSw; (try dsimp only at hSw); go_simp) <;> with_reducible rfl
          try simp only [Act.put, List.setIfInBounds_toArray, List.set_cons_zero, List.set_cons_succ]
          refine wpAnyH_take (i := 6) (oi := { dst := some 28, op := Op.binOp BinOp.sub 3 (Operand.const (Value.int IntKind.i64 (-1000000))) (Operand.tmp 27) 3, type := 3, pos := "bag.go:457", after := #[{ on := 5, ground := Ground.data }], guard := none }) (v := ?_) rfl (by kernel_rfl) (by kernel_rfl) (by kernel_rfl) (fun _ _ _ h => h) (Or.inl ⟨by rfl, ?_⟩) (by assumption) ?_
          rotate_left
          · (intro w hSw; (try dsimp only at hSw); go_simp; (rw [HR1.out]) <;> with_reducible rfl)
          try simp only [Act.put, List.setIfInBounds_toArray, List.set_cons_zero, List.set_cons_succ]
          refine wpAnyH_ready (rs := [7]) (by kernel_rfl) (by simp) ?_
          refine AllReadyH.cons (o := { dst := some 29, op := Op.call { callee := Callee.value (Operand.func 81), args := #[Operand.tmp 28], argTypes := #[3] }, type := 9, pos := "bag.go:457", after := #[{ on := 6, ground := Ground.data }], guard := none }) rfl (fun K hK => ?_) AllReadyH.nil
          go_simp
          refine (mark_is _ _ (by omega) (by omega) (HT.out _ (HF.out.2.2.2.trans ((Kept.refl wr _).drewN 1) (fun _ _ h => h)))).mono ?_
          rintro e wc ⟨rfl, hb1⟩
          rw [← HM1.out]
          have hF1 : Fd w wc 105 3 2 rs (fun j => .string (markS (-1000000 - (j : Int)))) i k Xs := (HF.out.next ((Kept.refl wr _).drewN 1)).next (below_new hb1)
          have hown := hF1.1 i hlt
          rw [HV.out, ← HN.out] at hown
          have hlen := hown.1
          obtain ⟨u0, hu0⟩ : ∃ u, wc.cell? ⟨g, k * 3, none⟩ = some u := ⟨(Xs i)[k * 3]'(by omega), by rw [hown.cellAt _ (by omega), List.getElem?_eq_getElem (by omega)]⟩
          obtain ⟨u1, hu1⟩ : ∃ u, wc.cell? ⟨g, k * 3 + 1, none⟩ = some u := ⟨(Xs i)[k * 3 + 1]'(by omega), by rw [hown.cellAt _ (by omega), List.getElem?_eq_getElem (by omega)]⟩
          obtain ⟨u2, hu2⟩ : ∃ u, wc.cell? ⟨g, k * 3 + 2, none⟩ = some u := ⟨(Xs i)[k * 3 + 2]'(by omega), by rw [hown.cellAt _ (by omega), List.getElem?_eq_getElem (by omega)]⟩
          have hfz0 := hown.frozenAt (k * 3)
          have hfz1 := hown.frozenAt (k * 3 + 1)
          have hfz2 := hown.frozenAt (k * 3 + 2)
          have R0 := hown.stored (k * 3) (.int .i8 0)
          have R1 := R0.1.stored (k * 3 + 1) (.string ⟨#[]⟩)
          have R2 := R1.1.stored (k * 3 + 2) (.string m1)
          have hgr : wc.grownBy ((((wc.setCell ⟨g, k * 3, none⟩ (.int .i8 0)).setCell ⟨g, k * 3 + 1, none⟩ (.string ⟨#[]⟩)).setCell ⟨g, k * 3 + 2, none⟩ (.string m1))) (some g) := (R0.2.trans R1.2).trans R2.2
          have hMk : Mk 3 2 (k + 1) (.string m1) ((((Xs i).set (k * 3) (.int .i8 0)).set (k * 3 + 1) (.string ⟨#[]⟩)).set (k * 3 + 2) (.string m1)) := by
            intro j hj
            by_cases hjk : j < k
            · rw [List.getElem?_set_ne (by omega), List.getElem?_set_ne (by omega), List.getElem?_set_ne (by omega)]
              rw [HM1.out]
              exact hF1.2.2.1 j hjk
            · obtain rfl : j = k := by omega
              rw [List.getElem?_set_self (by simp only [List.length_set]; omega)]
          have HF2 : Hid (Fd w ((((wc.setCell ⟨g, k * 3, none⟩ (.int .i8 0)).setCell ⟨g, k * 3 + 1, none⟩ (.string ⟨#[]⟩)).setCell ⟨g, k * 3 + 2, none⟩ (.string m1))) 105 3 2 rs (fun j => .string (markS (-1000000 - (j : Int)))) i (k + 1) (fun j => if j = i then _ else Xs j)) := hF1.store HA.out.2.2.1 hlt (by rw [HV.out]; rfl) (by rw [HV.out, ← HN.out]; exact R2.1) hgr (by rw [← HM1.out]; exact hMk)
          have HKc : Hid (Kept w wc (BlkR rs)) := hF1.2.2.2
          clear hF1 hown hlen hgr hMk hb1 hHeld R0 R1 R2
          refine hK.out _ _ (HCl.out _ HKc.out) (fun hHeld => ?_)
          clear hK K
          refine wpAnyH_take (i := 8) (oi := { dst := some 30, op := Op.build 103 #[(1, Operand.tmp 29)], type := 103, pos := "bag.go:457", after := #[{ on := 7, ground := Ground.data }], guard := none }) (v := ?_) rfl (by kernel_rfl) (by kernel_rfl) (by kernel_rfl) (fun _ _ _ h => h) (Or.inl ⟨by rfl, ?_⟩) (by assumption) ?_
          rotate_left
          · (intro w hSw; (try dsimp only at hSw); go_simp) <;> with_reducible rfl
          try simp only [Act.put, List.setIfInBounds_toArray, List.set_cons_zero, List.set_cons_succ]
          refine wpAnyH_take (i := 9) (oi := { dst := some 31, op := Op.build 105 #[(1, Operand.tmp 30)], type := 105, pos := "bag.go:457", after := #[{ on := 8, ground := Ground.data }], guard := none }) (v := ?_) rfl (by kernel_rfl) (by kernel_rfl) (by kernel_rfl) (fun _ _ _ h => h) (Or.inl ⟨by rfl, ?_⟩) (by assumption) ?_
          rotate_left
          · (intro w hSw; (try dsimp only at hSw); go_simp) <;> with_reducible rfl
          try simp only [Act.put, List.setIfInBounds_toArray, List.set_cons_zero, List.set_cons_succ]
          refine wpAnyH_take (i := 10) (oi := { dst := some 32, op := Op.indexAddr 29 (Operand.tmp 25) (Operand.tmp 26), type := 0, pos := "bag.go:457", after := #[{ on := 3, ground := Ground.data }, { on := 4, ground := Ground.data }, { on := 0, ground := Ground.phase }, { on := 1, ground := Ground.phase }, { on := 2, ground := Ground.phase }, { on := 3, ground := Ground.phase }, { on := 4, ground := Ground.phase }, { on := 5, ground := Ground.phase }, { on := 6, ground := Ground.phase }, { on := 7, ground := Ground.phase }, { on := 8, ground := Ground.phase }, { on := 9, ground := Ground.phase }], guard := none }) (v := ?_) rfl (by kernel_rfl) (by kernel_rfl) (by kernel_rfl) (fun _ _ _ h => h) (Or.inl ⟨by rfl, ?_⟩) (by assumption) ?_
          rotate_left
          · (intro w hSw; (try dsimp only at hSw); go_simp) <;> with_reducible rfl
          try simp only [Act.put, List.setIfInBounds_toArray, List.set_cons_zero, List.set_cons_succ]
          refine wpAnyH_ready (rs := [11]) (by kernel_rfl) (by simp) ?_
          refine AllReadyH.cons (o := { dst := none, op := Op.store 105 (Operand.tmp 32) (Operand.tmp 31), type := 0, pos := "bag.go:457", after := #[{ on := 10, ground := Ground.data }, { on := 9, ground := Ground.data }, { on := 7, ground := Ground.chain }, { on := 0, ground := Ground.phase }, { on := 1, ground := Ground.phase }, { on := 2, ground := Ground.phase }, { on := 3, ground := Ground.phase }, { on := 4, ground := Ground.phase }, { on := 5, ground := Ground.phase }, { on := 6, ground := Ground.phase }, { on := 7, ground := Ground.phase }, { on := 8, ground := Ground.phase }, { on := 9, ground := Ground.phase }], guard := none }) rfl (fun K hK => ?_) AllReadyH.nil
          go_simp
          clear hHeld
          refine hK.out _ _ (HCl.out _ HF2.out.2.2.2) (fun hHeld => ?_)
          clear hK K
          refine wpAnyH_done (by kernel_rfl) ?_ _
          go_wp2
          go_roundw
          case rel => exact ⟨k + 1, by omega, by go_num, _, HF2.out⟩
          case measure => simp [intOf]; omega
        · have d1 : decide ((k : Int) < (n : Int)) = false := by simp; omega
          have HF2 : Hid (∃ Xs, Fd w wr 105 3 2 rs (fun j => .string (markS (-1000000 - (j : Int)))) (i + 1) 0 Xs) := ⟨Xs, hF.turn hlt (by rw [← HN.out]; omega)⟩
          clear hF
          go_wp2
          go_roundw
          case rel => exact ⟨i + 1, by omega, by go_num, HF2⟩
          case measure => simp [intOf]; omega
    · have d0 : decide ((i : Int) < (rs.length : Int)) = false := by simp; omega
      obtain rfl : i = rs.length := by omega
      obtain ⟨Xs, hF⟩ := HE.out
      have hmk : ∀ j (hj : j < rs.length), Mk 3 2 rs[j].n (.string (markS (-1000000 - (j : Int)))) (Xs j) := fun j hj => hF.2.1 j hj hj
      have hsz : w.heap.size ≤ wr.heap.size := hF.2.2.2.size
      have G1 := grownAcl_any _ rs Xs 1 wr (HA.out.1.kept HA.out.2.1 (by decide) hF.2.2.2) hF.1 HA.out.2.2.1 hmk (by decide) hn HA.out.2.2.2.1 (HT.out wr hF.2.2.2) (by omega) HA.out.2.2.2.2
      have HF : Hid (Kept w wr (BlkR rs)) := hF.2.2.2
      clear hF
      go_wp2_with fail
      go_at_call 87
      refine G1.mono ?_
      rintro e w1 ⟨rfl, hk1, hr1⟩
      have HK1 : Hid (Kept w w1 (BlkR rs)) := HF.out.trans hk1 (fun _ _ h => h)
      have hsz1 : w.heap.size ≤ w1.heap.size := HK1.out.size
      have G2 := grownAcl_any _ rs Xs 24 w1 (HA.out.1.kept HA.out.2.1 (by decide) HK1.out) hr1 HA.out.2.2.1 hmk (by decide) hn HA.out.2.2.2.1 (HT.out w1 HK1.out) (by omega) HA.out.2.2.2.2
      clear G1 hk1 hr1 hmk
      go_wp2_with fail
      go_at_call 87
      refine G2.mono ?_
      rintro e w2 ⟨rfl, hk2, hr2⟩
      have HK2 : Hid (Kept w w2 (BlkR rs) ∧ ∃ Xs, RowsR w2 105 3 rs Xs) := ⟨HK1.out.trans hk2 (fun _ _ h => h), _, hr2⟩
      clear G2 hk2 hr2
      go_wp2
      go_ret
      exact ⟨rfl, HK2.out⟩

set_option maxHeartbeats 4000000 in
theorem apartIds_rows (lv : Value) (rs : List Rw) (Xs0 : Nat → List Value) (w : World) (hv : SeesL w 30 lv rs) (hr : RowsR w 103 2 rs Xs0) (hap : ApartR rs) (hn : rs.length ≤ 600) (hb : ∀ j (hj : j < rs.length), rs[j].n ≤ 1100000000)
    (ht : Tab w) (hg0 : 1 < w.heap.size) (hgt : ¬ BlkR rs 1) :
    Calls Tryz.prog 34 #[lv] w fun e w' => e = .returned (.bool true) ∧ Kept w w' (BlkR rs) ∧ ∃ Xs, RowsR w' 103 2 rs Xs := by
  have HA : Hid (SeesL w 30 lv rs ∧ RowsR w 103 2 rs Xs0 ∧ ApartR rs ∧ (∀ j (hj : j < rs.length), rs[j].n ≤ 1100000000) ∧ ¬ BlkR rs 1) := ⟨hv, hr, hap, hb, hgt⟩
  have HT : Hid (∀ w', Kept w w' (BlkR rs) → Tab w') := fun w' hk => tab_same ht (hk.block _ hg0 hgt)
  obtain ⟨ao, cap, rfl, hlc, h3⟩ := hv
  have HC : Hid (∀ wr, Kept w wr (BlkR rs) → ∀ j (hj : j < rs.length), ∃ b off, ao = some ⟨b, off, none⟩ ∧ wr.cell? ⟨b, off + j, none⟩ = some rs[j].v) := fun wr hk j hj => by
    obtain ⟨ao', cap', e, _, h5⟩ := HA.out.1.kept HA.out.2.1 (by decide) hk
    obtain ⟨b, off, e2, _, h6⟩ := h5 (by intro e; rw [e] at hj; simp at hj)
    simp only [Value.slice.injEq, true_and] at e
    exact ⟨b, off, e.1.trans e2, h6 j hj⟩
  clear hr hap hb ht hgt h3
  go_enter Tryz.func34, Tryz.ntmps34
  go_wp2
  go_loopw [3] (fun vi wr => ∃ i : Nat, i ≤ rs.length ∧ vi = .int .i64 (i : Int) ∧ Hid (∃ Xs, Fd w wr 103 2 1 rs (fun j => .string (markS (-1000000 - (j : Int)))) i 0 Xs)) (fun vi _ => rs.length - (intOf vi).toNat)
  case atStart => exact ⟨0, Nat.zero_le _, rfl, _, Fd.start HA.out.2.1⟩
  case round =>
    obtain ⟨i, hil, rfl, HE⟩ := hrel
    by_cases hlt : i < rs.length
    · have d0 : decide ((i : Int) < (rs.length : Int)) = true := by simp; omega
      obtain ⟨wo, hwo⟩ : ∃ wo, wo = wr := ⟨_, rfl⟩
      subst hwo
      obtain ⟨b, off, rfl, hcl⟩ := HC.out wo HE.out.choose_spec.2.2.2 i hlt
      have HCl0 : Hid (∀ w', Kept w w' (BlkR rs) → w'.cell? ⟨b, off + i, none⟩ = some rs[i].v) := fun w' hk => by
        obtain ⟨b', off', e, h⟩ := HC.out w' hk i hlt
        simp only [Option.some.injEq, Addr.mk.injEq, and_true] at e
        rw [e.1, e.2]
        exact h
      obtain ⟨va, vc, hvv⟩ := row_val (HA.out.2.1 i hlt)
      have hbn := HA.out.2.2.2.1 i hlt
      obtain ⟨n, hnn⟩ : ∃ n, n = rs[i].n := ⟨_, rfl⟩
      rw [← hnn] at hvv hbn
      have HV0 : Hid (rs[i].v = .slice va n vc) := hvv
      have HN : Hid (n = rs[i].n) := hnn
      have HR1 : Hid (IntKind.i64.wrap (-1000000 - (i : Int)) = -1000000 - (i : Int)) := by
        show _ = _
        simp [IntKind.wrap, IntKind.bits, IntKind.signed]
        omega
      clear hcl hvv hnn
      go_wp2
      go_loopw [4] (fun vk wr => ∃ k : Nat, k ≤ n ∧ vk = .int .i64 (k : Int) ∧ Hid (∃ Xs, Fd w wr 103 2 1 rs (fun j => .string (markS (-1000000 - (j : Int)))) i k Xs)) (fun vk _ => n - (intOf vk).toNat)
      case atStart => exact ⟨0, Nat.zero_le _, rfl, HE.out⟩
      case round =>
        obtain ⟨k, hkn, rfl, HE2⟩ := hrel
        obtain ⟨Xs, hF⟩ := HE2.out
        have HF : Hid (Fd w wr 103 2 1 rs (fun j => .string (markS (-1000000 - (j : Int)))) i k Xs) := hF
        have hcl := HCl0.out wr hF.2.2.2
        rw [HV0.out] at hcl
        by_cases hkl : k < n
        · have d1 : decide ((k : Int) < (n : Int)) = true := by simp; omega
          obtain ⟨g, hg, _⟩ := row_first (by have := hF.1 i hlt; rw [HV0.out, ← HN.out] at this; exact this) (show 0 < n by omega)
          subst hg
          have HV : Hid (rs[i].v = .slice (some ⟨g, 0, none⟩) n vc) := HV0.out
          have HCl : Hid (∀ w', Kept w w' (BlkR rs) → w'.cell? ⟨b, off + i, none⟩ = some (.slice (some ⟨g, 0, none⟩) n vc)) := fun w' hk => by rw [← HV.out]; exact HCl0.out w' hk
          obtain ⟨m1, hm1⟩ : ∃ m1, m1 = markS (-1000000 - (i : Int)) := ⟨_, rfl⟩
          have HM1 : Hid (m1 = markS (-1000000 - (i : Int))) := hm1
          have q0 : (0 : Int) ≤ (k : Int) := by omega
          have q1 : (k : Int) < (n : Int) := by omega
          have q2 : (0 : Int) ≤ (i : Int) := by omega
          have q3 : (i : Int) < (rs.length : Int) := by omega
          clear hm1 hF HE2 HE
          go_wp2
          refine wp_region_held_drew (S := fun V' => V'.cell? ⟨b, off + i, none⟩ = some (.slice (some ⟨g, 0, none⟩) n vc)) (by kernel_rfl) ?_ (fun hHeld => ?_)
          · exact HCl.out _ (HF.out.2.2.2.trans ((Kept.refl wr _).drewN 1) (fun _ _ h => h))
          refine wpAnyH_take (i := 0) (oi := { dst := some 22, op := Op.move (Operand.tmp 0), type := 45, pos := "bag.go:426", after := #[], guard := none }) (v := ?_) rfl (by kernel_rfl) (by kernel_rfl) (by kernel_rfl) (fun _ _ _ h => h) (Or.inl ⟨by rfl, ?_⟩) (by assumption) ?_
          rotate_left
          · (intro w hSw; (try dsimp only at hSw); go_simp) <;> with_reducible rfl
          try simp only [Act.put, List.setIfInBounds_toArray, List.set_cons_zero, List.set_cons_succ]
          refine wpAnyH_take (i := 1) (oi := { dst := some 23, op := Op.move (Operand.tmp 3), type := 3, pos := "bag.go:426", after := #[], guard := none }) (v := ?_) rfl (by kernel_rfl) (by kernel_rfl) (by kernel_rfl) (fun _ _ _ h => h) (Or.inl ⟨by rfl, ?_⟩) (by assumption) ?_
          rotate_left
          · (intro w hSw; (try dsimp only at hSw); go_simp) <;> with_reducible rfl
          try simp only [Act.put, List.setIfInBounds_toArray, List.set_cons_zero, List.set_cons_succ]
          refine wpAnyH_take (i := 2) (oi := { dst := some 24, op := Op.indexAddr 45 (Operand.tmp 22) (Operand.tmp 23), type := 0, pos := "bag.go:426", after := #[{ on := 0, ground := Ground.data }, { on := 1, ground := Ground.data }], guard := none }) (v := ?_) rfl (by kernel_rfl) (by kernel_rfl) (by kernel_rfl) (fun _ _ _ h => h) (Or.inl ⟨by rfl, ?_⟩) (by assumption) ?_
          rotate_left
          · (intro w hSw; (try dsimp only at hSw); go_simp) <;> with_reducible rfl
          try simp only [Act.put, List.setIfInBounds_toArray, List.set_cons_zero, List.set_cons_succ]
          refine wpAnyH_take (i := 3) (oi := { dst := some 25, op := Op.load 30 (Operand.tmp 24), type := 30, pos := "bag.go:426", after := #[{ on := 2, ground := Ground.data }], guard := none }) (v := ?_) rfl (by kernel_rfl) (by kernel_rfl) (by kernel_rfl) (fun _ _ _ h => h) (Or.inl ⟨by rfl, ?_⟩) (by assumption) ?_
          rotate_left
          · (intro w hSw; (try dsimp only at hSw); go_simp) <;> with_reducible rfl
          try simp only [Act.put, List.setIfInBounds_toArray, List.set_cons_zero, List.set_cons_succ]
          refine wpAnyH_take (i := 4) (oi := { dst := some 26, op := Op.move (Operand.tmp 4), type := 3, pos := "bag.go:426", after := #[], guard := none }) (v := ?_) rfl (by kernel_rfl) (by kernel_rfl) (by kernel_rfl) (fun _ _ _ h => h) (Or.inl ⟨by rfl, ?_⟩) (by assumption) ?_
          rotate_left
          · (intro w hSw; (try dsimp only at hSw); go_simp) <;> with_reducible rfl
          try simp only [Act.put, List.setIfInBounds_toArray, List.set_cons_zero, List.set_cons_succ]
          refine wpAnyH_take (i := 5) (oi := { dst := some 27, op := Op.move (Operand.tmp 3), type := 3, pos := "bag.go:426", after := #[], guard := none }) (v := ?_) rfl (by kernel_rfl) (by kernel_rfl) (by kernel_rfl) (fun _ _ _ h => h) (Or.inl ⟨by rfl, ?_⟩) (by assumption) ?_
          rotate_left
          · (intro w hSw; (try dsimp only at hSw); go_simp) <;> with_reducible rfl
          try simp only [Act.put, List.setIfInBounds_toArray, List.set_cons_zero, List.set_cons_succ]
          refine wpAnyH_take (i := 6) (oi := { dst := some 28, op := Op.binOp BinOp.sub 3 (Operand.const (Value.int IntKind.i64 (-1000000))) (Operand.tmp 27) 3, type := 3, pos := "bag.go:426", after := #[{ on := 5, ground := Ground.data }], guard := none }) (v := ?_) rfl (by kernel_rfl) (by kernel_rfl) (by kernel_rfl) (fun _ _ _ h => h) (Or.inl ⟨by rfl, ?_⟩) (by assumption) ?_
          rotate_left
          · (intro w hSw; (try dsimp only at hSw); go_simp; (rw [HR1.out]) <;> with_reducible rfl)
          try simp only [Act.put, List.setIfInBounds_toArray, List.set_cons_zero, List.set_cons_succ]
          refine wpAnyH_ready (rs := [7]) (by kernel_rfl) (by simp) ?_
          refine AllReadyH.cons (o := { dst := some 29, op := Op.call { callee := Callee.value (Operand.func 81), args := #[Operand.tmp 28], argTypes := #[3] }, type := 9, pos := "bag.go:426", after := #[{ on := 6, ground := Ground.data }], guard := none }) rfl (fun K hK => ?_) AllReadyH.nil
          go_simp
          refine (mark_is _ _ (by omega) (by omega) (HT.out _ (HF.out.2.2.2.trans ((Kept.refl wr _).drewN 1) (fun _ _ h => h)))).mono ?_
          rintro e wc ⟨rfl, hb1⟩
          rw [← HM1.out]
          have hF1 : Fd w wc 103 2 1 rs (fun j => .string (markS (-1000000 - (j : Int)))) i k Xs := (HF.out.next ((Kept.refl wr _).drewN 1)).next (below_new hb1)
          have hown := hF1.1 i hlt
          rw [HV.out, ← HN.out] at hown
          have hlen := hown.1
          obtain ⟨u0, hu0⟩ : ∃ u, wc.cell? ⟨g, k * 2, none⟩ = some u := ⟨(Xs i)[k * 2]'(by omega), by rw [hown.cellAt _ (by omega), List.getElem?_eq_getElem (by omega)]⟩
          obtain ⟨u1, hu1⟩ : ∃ u, wc.cell? ⟨g, k * 2 + 1, none⟩ = some u := ⟨(Xs i)[k * 2 + 1]'(by omega), by rw [hown.cellAt _ (by omega), List.getElem?_eq_getElem (by omega)]⟩
          have hfz0 := hown.frozenAt (k * 2)
          have hfz1 := hown.frozenAt (k * 2 + 1)
          have R0 := hown.stored (k * 2) (.string ⟨#[]⟩)
          have R1 := R0.1.stored (k * 2 + 1) (.string m1)
          have hgr : wc.grownBy (((wc.setCell ⟨g, k * 2, none⟩ (.string ⟨#[]⟩)).setCell ⟨g, k * 2 + 1, none⟩ (.string m1))) (some g) := R0.2.trans R1.2
          have hMk : Mk 2 1 (k + 1) (.string m1) (((Xs i).set (k * 2) (.string ⟨#[]⟩)).set (k * 2 + 1) (.string m1)) := by
            intro j hj
            by_cases hjk : j < k
            · rw [List.getElem?_set_ne (by omega), List.getElem?_set_ne (by omega)]
              rw [HM1.out]
              exact hF1.2.2.1 j hjk
            · obtain rfl : j = k := by omega
              rw [List.getElem?_set_self (by simp only [List.length_set]; omega)]
          have HF2 : Hid (Fd w (((wc.setCell ⟨g, k * 2, none⟩ (.string ⟨#[]⟩)).setCell ⟨g, k * 2 + 1, none⟩ (.string m1))) 103 2 1 rs (fun j => .string (markS (-1000000 - (j : Int)))) i (k + 1) (fun j => if j = i then _ else Xs j)) := hF1.store HA.out.2.2.1 hlt (by rw [HV.out]; rfl) (by rw [HV.out, ← HN.out]; exact R1.1) hgr (by rw [← HM1.out]; exact hMk)
          have HKc : Hid (Kept w wc (BlkR rs)) := hF1.2.2.2
          clear hF1 hown hlen hgr hMk hb1 hHeld R0 R1
          refine hK.out _ _ (HCl.out _ HKc.out) (fun hHeld => ?_)
          clear hK K
          refine wpAnyH_take (i := 8) (oi := { dst := some 30, op := Op.build 103 #[(1, Operand.tmp 29)], type := 103, pos := "bag.go:426", after := #[{ on := 7, ground := Ground.data }], guard := none }) (v := ?_) rfl (by kernel_rfl) (by kernel_rfl) (by kernel_rfl) (fun _ _ _ h => h) (Or.inl ⟨by rfl, ?_⟩) (by assumption) ?_
          rotate_left
          · (intro w hSw; (try dsimp only at hSw); go_simp) <;> with_reducible rfl
          try simp only [Act.put, List.setIfInBounds_toArray, List.set_cons_zero, List.set_cons_succ]
          refine wpAnyH_take (i := 9) (oi := { dst := some 31, op := Op.indexAddr 30 (Operand.tmp 25) (Operand.tmp 26), type := 0, pos := "bag.go:426", after := #[{ on := 3, ground := Ground.data }, { on := 4, ground := Ground.data }, { on := 0, ground := Ground.phase }, { on := 1, ground := Ground.phase }, { on := 2, ground := Ground.phase }, { on := 3, ground := Ground.phase }, { on := 4, ground := Ground.phase }, { on := 5, ground := Ground.phase }, { on := 6, ground := Ground.phase }, { on := 7, ground := Ground.phase }, { on := 8, ground := Ground.phase }], guard := none }) (v := ?_) rfl (by kernel_rfl) (by kernel_rfl) (by kernel_rfl) (fun _ _ _ h => h) (Or.inl ⟨by rfl, ?_⟩) (by assumption) ?_
          rotate_left
          · (intro w hSw; (try dsimp only at hSw); go_simp) <;> with_reducible rfl
          try simp only [Act.put, List.setIfInBounds_toArray, List.set_cons_zero, List.set_cons_succ]
          refine wpAnyH_ready (rs := [10]) (by kernel_rfl) (by simp) ?_
          refine AllReadyH.cons (o := { dst := none, op := Op.store 103 (Operand.tmp 31) (Operand.tmp 30), type := 0, pos := "bag.go:426", after := #[{ on := 9, ground := Ground.data }, { on := 8, ground := Ground.data }, { on := 7, ground := Ground.chain }, { on := 0, ground := Ground.phase }, { on := 1, ground := Ground.phase }, { on := 2, ground := Ground.phase }, { on := 3, ground := Ground.phase }, { on := 4, ground := Ground.phase }, { on := 5, ground := Ground.phase }, { on := 6, ground := Ground.phase }, { on := 7, ground := Ground.phase }, { on := 8, ground := Ground.phase }], guard := none }) rfl (fun K hK => ?_) AllReadyH.nil
          go_simp
          clear hHeld
          refine hK.out _ _ (HCl.out _ HF2.out.2.2.2) (fun hHeld => ?_)
          clear hK K
          refine wpAnyH_done (by kernel_rfl) ?_ _
          go_wp2
          go_roundw
          case rel => exact ⟨k + 1, by omega, by go_num, _, HF2.out⟩
          case measure => simp [intOf]; omega
        · have d1 : decide ((k : Int) < (n : Int)) = false := by simp; omega
          have HF2 : Hid (∃ Xs, Fd w wr 103 2 1 rs (fun j => .string (markS (-1000000 - (j : Int)))) (i + 1) 0 Xs) := ⟨Xs, hF.turn hlt (by rw [← HN.out]; omega)⟩
          clear hF
          go_wp2
          go_roundw
          case rel => exact ⟨i + 1, by omega, by go_num, HF2⟩
          case measure => simp [intOf]; omega
    · have d0 : decide ((i : Int) < (rs.length : Int)) = false := by simp; omega
      obtain rfl : i = rs.length := by omega
      obtain ⟨Xs, hF⟩ := HE.out
      have hmk : ∀ j (hj : j < rs.length), Mk 2 1 rs[j].n (.string (markS (-1000000 - (j : Int)))) (Xs j) := fun j hj => hF.2.1 j hj hj
      have hsz : w.heap.size ≤ wr.heap.size := hF.2.2.2.size
      have G1 := grownIds_any _ rs Xs 1 wr (HA.out.1.kept HA.out.2.1 (by decide) hF.2.2.2) hF.1 HA.out.2.2.1 hmk (by decide) hn HA.out.2.2.2.1 (HT.out wr hF.2.2.2) (by omega) HA.out.2.2.2.2
      have HF : Hid (Kept w wr (BlkR rs)) := hF.2.2.2
      clear hF
      go_wp2_with fail
      go_at_call 86
      refine G1.mono ?_
      rintro e w1 ⟨rfl, hk1, hr1⟩
      have HK1 : Hid (Kept w w1 (BlkR rs)) := HF.out.trans hk1 (fun _ _ h => h)
      have hsz1 : w.heap.size ≤ w1.heap.size := HK1.out.size
      have G2 := grownIds_any _ rs Xs 24 w1 (HA.out.1.kept HA.out.2.1 (by decide) HK1.out) hr1 HA.out.2.2.1 hmk (by decide) hn HA.out.2.2.2.1 (HT.out w1 HK1.out) (by omega) HA.out.2.2.2.2
      clear G1 hk1 hr1 hmk
      go_wp2_with fail
      go_at_call 86
      refine G2.mono ?_
      rintro e w2 ⟨rfl, hk2, hr2⟩
      have HK2 : Hid (Kept w w2 (BlkR rs) ∧ ∃ Xs, RowsR w2 103 2 rs Xs) := ⟨HK1.out.trans hk2 (fun _ _ h => h), _, hr2⟩
      clear G2 hk2 hr2
      go_wp2
      go_ret
      exact ⟨rfl, HK2.out⟩

end Go.Proofs.YtoeialngbbfoeaaGreatDoor
