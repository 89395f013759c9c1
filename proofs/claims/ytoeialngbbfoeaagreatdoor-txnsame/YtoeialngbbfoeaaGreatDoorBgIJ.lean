/- lagoonref00's grownIds, as grownAcl. -/
import Derived.Test.YtoeialngbbfoeaaGreatDoorBgEJ
namespace Go.Proofs.YtoeialngbbfoeaaGreatDoor
open Go.RowKit Go.Shelf
set_option maxRecDepth 8000

theorem Tryz.infoIL : (Tryz.prog.info? 30).map (fun i => (i.zero, i.size, i.bytes)) = some (some (.slice none 0 0), 1, 24) := by kernel_rfl

set_option maxHeartbeats 4000000 in
theorem grownIds_any (lv : Value) (rs : List Rw) (Xs : Nat → List Value) (c : Nat) (w : World) (hv : SeesL w 30 lv rs) (hr : RowsR w 103 2 rs Xs) (hap : ApartR rs) (hmk : ∀ j (hj : j < rs.length), Mk 2 1 rs[j].n (.string (markS (-1000000 - (j : Int)))) (Xs j)) (hc : c ≤ 64) (hn : rs.length ≤ 600) (hb : ∀ j (hj : j < rs.length), rs[j].n ≤ 1100000000)
    (ht : Tab w) (hg0 : 1 < w.heap.size) (hgt : ¬ BlkR rs 1) :
    Calls Tryz.prog 86 #[lv, .int .i64 (c : Int)] w fun e w' => e = .returned (.bool true) ∧ Kept w w' (BlkR rs) ∧ RowsR w' 103 2 rs Xs := by
  have HA : Hid (SeesL w 30 lv rs ∧ RowsR w 103 2 rs Xs ∧ ApartR rs ∧ (∀ j (hj : j < rs.length), Mk 2 1 rs[j].n (.string (markS (-1000000 - (j : Int)))) (Xs j)) ∧ (∀ j (hj : j < rs.length), rs[j].n ≤ 1100000000)) := ⟨hv, hr, hap, hmk, hb⟩
  have HT : Hid (∀ w', Kept w w' (BlkR rs) → Tab w') := fun w' hk => tab_same ht (hk.block _ hg0 hgt)
  obtain ⟨i0, hi, hz0, hz1, hz2⟩ := info3B Tryz.infoIdB
  obtain ⟨i1, gi, gz0, gz1, gz2⟩ := info3B Tryz.infoIL
  obtain ⟨ao, cap, rfl, hlc, h3⟩ := hv
  have HC : Hid (∀ wr, Kept w wr (BlkR rs) → ∀ j (hj : j < rs.length), ∃ b off, ao = some ⟨b, off, none⟩ ∧ wr.cell? ⟨b, off + j, none⟩ = some rs[j].v) := fun wr hk j hj => by
    obtain ⟨ao', cap', e, _, h5⟩ := HA.out.1.kept HA.out.2.1 (by decide) hk
    obtain ⟨b, off, e2, _, h6⟩ := h5 (by intro e; rw [e] at hj; simp at hj)
    simp only [Value.slice.injEq, true_and] at e
    exact ⟨b, off, e.1.trans e2, h6 j hj⟩
  clear hr hap hmk hb ht hgt h3
  go_enter Tryz.func86, Tryz.ntmps86
  go_wp2
  go_loopw [5, 6] (fun mv vi wr => ∃ (i : Nat) (ms : List Value), i ≤ rs.length ∧ vi = .int .i64 (i : Int) ∧ Hid (Bd w wr 103 30 2 1 rs Xs (fun j => .string (markS (-2000000 - (j : Int)))) c i mv ms)) (fun _ vi _ => rs.length - (intOf vi).toNat)
  case atStart => exact ⟨0, [], Nat.zero_le _, rfl, Bd.start HA.out.2.1⟩
  case round =>
    obtain ⟨i, ms, hil, rfl, HB⟩ := hrel
    obtain ⟨wo, hwo⟩ : ∃ wo, wo = wr := ⟨_, rfl⟩
    subst hwo
    obtain ⟨mo, mc, rfl⟩ := row_val HB.out.more
    by_cases hlt : i < rs.length
    · have d0 : decide ((i : Int) < (rs.length : Int)) = true := by simp; omega
      obtain ⟨b, off, rfl, hcl⟩ := HC.out wo HB.out.kept i hlt
      have hrow := HB.out.rows i hlt
      have hrow0 := HA.out.2.1 i hlt
      have hbn := HA.out.2.2.2.2 i hlt
      obtain ⟨va, vn, vc, hvv⟩ := row_form hrow
      have HV : Hid (rs[i].v = .slice va vn vc) := hvv
      rw [hvv] at hcl
      have HR0 : Hid (wo.ownsRow 0 103 2 rs[i].v rs[i].n (Xs i) ∧ w.ownsRow 0 103 2 rs[i].v rs[i].n (Xs i)) := ⟨hrow, hrow0⟩
      clear hrow hrow0 hvv
      have HRw : Hid (IntKind.i64.wrap (-2000000 - (i : Int)) = -2000000 - (i : Int)) := by
        show _ = _
        simp [IntKind.wrap, IntKind.bits, IntKind.signed]
        omega
      go_wp2
      go_loopw [7, 8] (fun m vk wr => ∃ t : Nat, t ≤ c ∧ vk = .int .i64 (t : Int) ∧ Hid (Gw wo wr 103 2 1 rs[i].v rs[i].n (Xs i) (.string (markS (-2000000 - (i : Int)))) t m)) (fun _ vk _ => c - (intOf vk).toNat)
      case atStart => exact ⟨0, Nat.zero_le _, rfl, by rw [← HV.out]; exact Gw.start _ HR0.out.1⟩
      case round =>
        obtain ⟨t, htc, rfl, HG⟩ := hrel
        obtain ⟨xa, xn, xc, rfl⟩ : ∃ a n c, u7 = .slice a n c := by
          obtain ⟨ys, h1, _⟩ := HG.out.ys
          exact row_form h1
        have HK0 : Hid (Kept w wr (BlkR rs)) := HB.out.kept.trans HG.out.kept (fun k _ e => ⟨i, hlt, e⟩)
        by_cases htl : t < c
        · have d1 : decide ((t : Int) < (c : Int)) = true := by simp; omega
          go_wp2_with fail
          go_at_call 81
          refine (mark_is _ _ (by omega) (by omega) (HT.out _ HK0.out)).mono ?_
          rintro e w1 ⟨rfl, hb1⟩
          obtain ⟨ms2, hms2⟩ : ∃ ms2, ms2 = markS (-2000000 - (i : Int)) := ⟨_, rfl⟩
          rw [← hms2] at HG ⊢
          have HMS : Hid (ms2 = markS (-2000000 - (i : Int))) := hms2
          clear hms2
          have HG1 := (HG.out.next (below_new hb1)).next ((Kept.refl w1 _).alloc (.cells [.string ⟨#[]⟩, .string ms2].toArray 103))
          obtain ⟨ys, hy1, hy2, hy3⟩ := HG1.ys
          obtain ⟨v', w', hr, ho, hgr, hcase⟩ := app_row (P := Tryz.prog) 0 30 30 103 i0 (.agg #[.string ⟨#[]⟩, .string ⟨#[]⟩]) 2 32 Tryz.underlying30 hi hz0 hz1 hz2 rfl (by decide) _ _ _ hy1 w1.heap.size [.string ⟨#[]⟩, .string ms2] rfl (heap_alloc_new _ _) (by simp [Value.oneCell']) (by omega) (by decide) (Nat.zero_le _)
          have HN : Hid (Gw wo w' 103 2 1 rs[i].v rs[i].n (Xs i) (.string ms2) (t + 1) v') := HG1.more (fun g hg => row_lt HR0.out.1 hg) HR0.out.1.1 rfl (by decide) rfl (fun ys' h' => by
            have e : (Xs i ++ ys').length = (Xs i ++ ys).length := by rw [h'.1, hy1.1]
            have e2 : ys' = ys := by
              have := own_same h' hy1
              exact List.append_cancel_left this
            rw [e2]
            exact ho) hgr hcase
          clear HG1 hy1 hy2 hy3 ho hgr hcase hb1 HG HK0
          go_wp2_with (at_builtin; refine Lib.wpList_append_run_sl _ rfl _ _ 30 rfl _ _ rfl rfl hr ?_)
          go_roundw
          case rel => exact ⟨t + 1, by omega, by go_num, by rw [← HMS.out]; exact HN⟩
          case measure => simp [intOf]; omega
        · have d1 : decide ((t : Int) < (c : Int)) = false := by simp; omega
          obtain rfl : t = c := by omega
          have hk1 : Kept wr (wr.alloc (.cells #[.slice xa xn xc] 30)) (fun _ => False) := (Kept.refl wr _).alloc _
          have HG1 := HG.out.next hk1
          have hmo : (wr.alloc (.cells #[.slice xa xn xc] 30)).ownsRow w.heap.size 30 1 (.slice mo i mc) i ms := row_kept (row_kept HB.out.more HG.out.kept (fun g hg e => by
            have h1 := row_lt HR0.out.2 e
            have h2 := row_base HB.out.more hg
            omega)) hk1 (fun _ _ h => h)
          obtain ⟨v', w', hr, ho, hgr, _⟩ := app_row (P := Tryz.prog) w.heap.size 45 45 30 i1 (.slice none 0 0) 1 24 Tryz.underlying45 gi gz0 gz1 gz2 rfl (by decide) _ _ _ hmo wr.heap.size [.slice xa xn xc] rfl (heap_alloc_new _ _) (by simp [Value.oneCell']) (by omega) (by decide) (Nat.le_trans HB.out.kept.size (Nat.le_trans HG.out.kept.size hk1.size))
          have HN : Hid (Bd w w' 103 30 2 1 rs Xs (fun j => .string (markS (-2000000 - (j : Int)))) t (i + 1) v' (ms ++ [.slice xa xn xc])) := HB.out.step (by decide) HA.out.2.1 HA.out.2.2.1 hlt HG1 ho hgr
          clear hmo ho hgr HG1 hk1 HG HK0
          go_wp2_with (at_builtin; refine Lib.wpList_append_run_sl _ rfl _ _ 45 rfl _ _ rfl rfl hr ?_)
          go_roundw
          case rel => exact ⟨i + 1, _, by omega, by go_num, HN⟩
          case measure => simp [intOf]; omega
    · have d0 : decide ((i : Int) < (rs.length : Int)) = false := by simp; omega
      obtain rfl : i = rs.length := by omega
      have HTb : Hid (∀ w', Kept wo w' (fun _ => False) → Tab w') := fun w' hk => HT.out w' (HB.out.kept.trans hk (fun _ _ h => h.elim))
      have HCo : Hid (∀ w', Kept wo w' (fun _ => False) → ∀ j (hj : j < rs.length), ∃ b off, ao = some ⟨b, off, none⟩ ∧ w'.cell? ⟨b, off + j, none⟩ = some rs[j].v) := fun w' hk => HC.out w' (HB.out.kept.trans hk (fun _ _ h => h.elim))
      go_wp2
      go_loopw [9] (fun vi wr => ∃ i : Nat, i ≤ rs.length ∧ vi = .int .i64 (i : Int) ∧ Hid (Kept wo wr (fun _ => False))) (fun vi _ => rs.length - (intOf vi).toNat)
      case atStart => exact ⟨0, Nat.zero_le _, rfl, Kept.refl _ _⟩
      case round =>
        obtain ⟨i, hil2, rfl, HK⟩ := hrel
        by_cases hlt2 : i < rs.length
        · have d2 : decide ((i : Int) < (rs.length : Int)) = true := by simp; omega
          have hml : i < ms.length := by rw [HB.out.len]; exact hlt2
          obtain ⟨b, off, rfl, hcl⟩ := HCo.out wr HK.out i hlt2
          have HCl : Hid (∀ w', Kept wo w' (fun _ => False) → w'.cell? ⟨b, off + i, none⟩ = some rs[i].v) := fun w' hk => by
            obtain ⟨b', off', e, h⟩ := HCo.out w' hk i hlt2
            simp only [Option.some.injEq, Addr.mk.injEq, and_true] at e
            rw [e.1, e.2]
            exact h
          obtain ⟨ys, hn1, hn2⟩ := HB.out.news i hlt2 hml
          have hr1 := HB.out.rows i hlt2
          have hmk1 := HA.out.2.2.2.1 i hlt2
          have hbn := HA.out.2.2.2.2 i hlt2
          obtain ⟨va, vc, hvv⟩ := row_val hr1
          obtain ⟨ma, mc2, hmm⟩ := row_val hn1
          obtain ⟨gm, hgm, hgc⟩ := row_first HB.out.more (by omega)
          have HGm : Hid (∀ w', Kept wo w' (fun _ => False) → w'.cell? ⟨gm, i, none⟩ = some ms[i]) := fun w' hk => hk.cell (by
            rw [hgc i (by omega), List.getElem?_eq_getElem hml]) (fun h => h)
          obtain ⟨mx, hmx⟩ : ∃ mx, mx = ms[i] := ⟨_, rfl⟩
          rw [← hmx] at HGm hn1 hmm
          obtain ⟨vx, hvx⟩ : ∃ vx, vx = rs[i].v := ⟨_, rfl⟩
          rw [← hvx] at HCl hcl hr1 hvv
          obtain ⟨n, hnn⟩ : ∃ n, n = rs[i].n := ⟨_, rfl⟩
          rw [← hnn] at hr1 hn1 hmk1 hbn hvv hmm
          subst hvv hmm hgm
          have HRo : Hid (wo.ownsRow 0 103 2 (.slice va n vc) n (Xs i) ∧ Mk 2 1 n (.string (markS (-1000000 - (i : Int)))) (Xs i) ∧ wo.ownsRow 0 103 2 (.slice ma (n + c) mc2) (n + c) (Xs i ++ ys) ∧ Mk 2 1 c (.string (markS (-2000000 - (i : Int)))) ys) := ⟨hr1, hmk1, hn1, hn2⟩
          have HR1 : Hid (IntKind.i64.wrap (-1000000 - (i : Int)) = -1000000 - (i : Int)) := by
            show _ = _
            simp [IntKind.wrap, IntKind.bits, IntKind.signed]
            omega
          have HR2 : Hid (IntKind.i64.wrap (-2000000 - (i : Int)) = -2000000 - (i : Int)) := by
            show _ = _
            simp [IntKind.wrap, IntKind.bits, IntKind.signed]
            omega
          clear hr1 hmk1 hn1 hn2 hmx hvx hnn hgc
          go_wp2
          go_loopw [11] (fun vk wr => ∃ k : Nat, k ≤ n + c ∧ vk = .int .i64 (k : Int) ∧ Hid (Kept wo wr (fun _ => False))) (fun vk _ => n + c - (intOf vk).toNat)
          case atStart => exact ⟨0, Nat.zero_le _, rfl, HK⟩
          case round =>
            clear hcl HK
            obtain ⟨k, hkl, rfl, HK⟩ := hrel
            by_cases hkn : k < n + c
            · have d3 : decide ((k : Int) < (n : Int) + (c : Int)) = true := by simp; omega
              have HKc : Hid (Kept wo wr.drew (fun _ => False)) := HK.out.drewN 1
              obtain ⟨m1, hm1⟩ : ∃ m1, m1 = markS (-1000000 - (i : Int)) := ⟨_, rfl⟩
              obtain ⟨m2, hm2⟩ : ∃ m2, m2 = markS (-2000000 - (i : Int)) := ⟨_, rfl⟩
              have he1 : (m1.toList == (markS (-1000000 - (i : Int))).toList) = true := by rw [hm1]; simp
              have he2 : (m2.toList == (markS (-2000000 - (i : Int))).toList) = true := by rw [hm2]; simp
              have q0 : (0 : Int) ≤ (k : Int) := by omega
              have q1 : (k : Int) < (n : Int) + (c : Int) := by omega
              have q2 : (0 : Int) ≤ (i : Int) := by omega
              have q3 : (i : Int) < (rs.length : Int) := by omega
              obtain ⟨mb, hmb, hmc⟩ := row_first HRo.out.2.2.1 (by omega)
              subst hmb
              by_cases hkn2 : k < n
              · have b1 : decide ((k : Int) < (n : Int)) = true := by simp; omega
                have b2 : decide ((n : Int) ≤ (k : Int)) = false := by rw [decide_eq_false_iff_not]; omega
                have b3 : decide (k < n) = true := by simp; omega
                have b4 : decide (n ≤ k) = false := by rw [decide_eq_false_iff_not]; omega
                have b5 : decide ((k : Int) ≥ (n : Int)) = false := by rw [decide_eq_false_iff_not]; omega
                have q4 : (k : Int) < (n : Int) := by omega
                obtain ⟨vb, hvb, hvc⟩ := row_first HRo.out.1 (by omega)
                subst hvb
                have HS : Hid (∀ V, Kept wo V (fun _ => False) → (fun V' => V'.cell? ⟨b, off + i, none⟩ = some (.slice (some ⟨vb, 0, none⟩) n vc) ∧ V'.cell? ⟨gm, i, none⟩ = some (.slice (some ⟨mb, 0, none⟩) (n + c) mc2) ∧ V'.cell? ⟨vb, k * 2 + 1, none⟩ = some (.string m1) ∧ V'.cell? ⟨mb, k * 2 + 1, none⟩ = some (.string m1)) V) := fun V hk => ⟨HCl.out V hk, HGm.out V hk, hk.cell (by
                  rw [hvc _ (by have := Nat.mul_le_mul_right 2 (show k + 1 ≤ n from hkn2); omega), hm1]
                  exact HRo.out.2.1 k hkn2) (fun h => h), hk.cell (by
                  rw [hmc _ (by have := Nat.mul_le_mul_right 2 (show k + 1 ≤ n + c from hkn); omega), hm1]
                  exact HRo.out.2.1.left HRo.out.1.1 (by decide) k hkn2) (fun h => h)⟩
                clear hm1 hm2 hvc hmc
                go_wp2
                refine wp_region_held_drew (S := fun V' => V'.cell? ⟨b, off + i, none⟩ = some (.slice (some ⟨vb, 0, none⟩) n vc) ∧ V'.cell? ⟨gm, i, none⟩ = some (.slice (some ⟨mb, 0, none⟩) (n + c) mc2) ∧ V'.cell? ⟨vb, k * 2 + 1, none⟩ = some (.string m1) ∧ V'.cell? ⟨mb, k * 2 + 1, none⟩ = some (.string m1)) (by kernel_rfl) ?_ (fun hHeld => ?_)
                · exact HS.out _ HKc.out
                refine wpAnyH_take (i := 0) (oi := { dst := some 56, op := Op.move (Operand.tmp 11), type := 3, pos := "bag.go:446", after := #[], guard := none }) (v := ?_) rfl (by kernel_rfl) (by kernel_rfl) (by kernel_rfl) (fun _ _ _ h => h) (Or.inl ⟨by rfl, ?_⟩) (by assumption) ?_
                rotate_left
                · (intro w hSw; (try dsimp only at hSw); go_simp) <;> with_reducible rfl
                try simp only [Act.put, List.setIfInBounds_toArray, List.set_cons_zero, List.set_cons_succ]
                refine wpAnyH_take (i := 1) (oi := { dst := some 57, op := Op.move (Operand.tmp 10), type := 3, pos := "bag.go:446", after := #[], guard := none }) (v := ?_) rfl (by kernel_rfl) (by kernel_rfl) (by kernel_rfl) (fun _ _ _ h => h) (Or.inl ⟨by rfl, ?_⟩) (by assumption) ?_
                rotate_left
                · (intro w hSw; (try dsimp only at hSw); go_simp) <;> with_reducible rfl
                try simp only [Act.put, List.setIfInBounds_toArray, List.set_cons_zero, List.set_cons_succ]
                refine wpAnyH_take (i := 2) (oi := { dst := some 58, op := Op.binOp BinOp.lss 3 (Operand.tmp 56) (Operand.tmp 57) 3, type := 4, pos := "bag.go:446", after := #[{ on := 0, ground := Ground.data }, { on := 1, ground := Ground.data }], guard := none }) (v := ?_) rfl (by kernel_rfl) (by kernel_rfl) (by kernel_rfl) (fun _ _ _ h => h) (Or.inl ⟨by rfl, ?_⟩) (by assumption) ?_
                rotate_left
                · (intro w hSw; (try dsimp only at hSw); go_simp) <;> with_reducible rfl
                try simp only [Act.put, List.setIfInBounds_toArray, List.set_cons_zero, List.set_cons_succ]
                refine wpAnyH_take (i := 3) (oi := { dst := some 59, op := Op.move (Operand.tmp 58), type := 4, pos := "bag.go:446", after := #[{ on := 2, ground := Ground.data }], guard := none }) (v := ?_) rfl (by kernel_rfl) (by kernel_rfl) (by kernel_rfl) (fun _ _ _ h => h) (Or.inl ⟨by rfl, ?_⟩) (by assumption) ?_
                rotate_left
                · (intro w hSw; (try dsimp only at hSw); go_simp) <;> with_reducible rfl
                try simp only [Act.put, List.setIfInBounds_toArray, List.set_cons_zero, List.set_cons_succ]
                refine wpAnyH_take (i := 4) (oi := { dst := some 60, op := Op.move (Operand.tmp 0), type := 45, pos := "bag.go:446", after := #[{ on := 3, ground := Ground.guard }], guard := some (3, true) }) (v := ?_) rfl (by kernel_rfl) (by kernel_rfl) (by kernel_rfl) (fun _ _ _ h => h) (Or.inl ⟨by rfl, ?_⟩) (by assumption) ?_
                rotate_left
                · (intro w hSw; (try dsimp only at hSw); go_simp) <;> with_reducible rfl
                try simp only [Act.put, List.setIfInBounds_toArray, List.set_cons_zero, List.set_cons_succ]
                refine wpAnyH_take (i := 5) (oi := { dst := some 61, op := Op.move (Operand.tmp 9), type := 3, pos := "bag.go:446", after := #[{ on := 3, ground := Ground.guard }], guard := some (3, true) }) (v := ?_) rfl (by kernel_rfl) (by kernel_rfl) (by kernel_rfl) (fun _ _ _ h => h) (Or.inl ⟨by rfl, ?_⟩) (by assumption) ?_
                rotate_left
                · (intro w hSw; (try dsimp only at hSw); go_simp) <;> with_reducible rfl
                try simp only [Act.put, List.setIfInBounds_toArray, List.set_cons_zero, List.set_cons_succ]
                refine wpAnyH_take (i := 6) (oi := { dst := some 62, op := Op.indexAddr 45 (Operand.tmp 60) (Operand.tmp 61), type := 0, pos := "bag.go:446", after := #[{ on := 4, ground := Ground.data }, { on := 5, ground := Ground.data }, { on := 3, ground := Ground.guard }], guard := some (3, true) }) (v := ?_) rfl (by kernel_rfl) (by kernel_rfl) (by kernel_rfl) (fun _ _ _ h => h) (Or.inl ⟨by rfl, ?_⟩) (by assumption) ?_
                rotate_left
                · (intro w hSw; (try dsimp only at hSw); go_simp) <;> with_reducible rfl
                try simp only [Act.put, List.setIfInBounds_toArray, List.set_cons_zero, List.set_cons_succ]
                refine wpAnyH_take (i := 7) (oi := { dst := some 63, op := Op.load 30 (Operand.tmp 62), type := 30, pos := "bag.go:446", after := #[{ on := 6, ground := Ground.data }, { on := 3, ground := Ground.guard }], guard := some (3, true) }) (v := ?_) rfl (by kernel_rfl) (by kernel_rfl) (by kernel_rfl) (fun _ _ _ h => h) (Or.inl ⟨by rfl, ?_⟩) (by assumption) ?_
                rotate_left
                · (intro w hSw; (try dsimp only at hSw); go_simp) <;> with_reducible rfl
                try simp only [Act.put, List.setIfInBounds_toArray, List.set_cons_zero, List.set_cons_succ]
                refine wpAnyH_take (i := 8) (oi := { dst := some 64, op := Op.move (Operand.tmp 11), type := 3, pos := "bag.go:446", after := #[{ on := 3, ground := Ground.guard }], guard := some (3, true) }) (v := ?_) rfl (by kernel_rfl) (by kernel_rfl) (by kernel_rfl) (fun _ _ _ h => h) (Or.inl ⟨by rfl, ?_⟩) (by assumption) ?_
                rotate_left
                · (intro w hSw; (try dsimp only at hSw); go_simp) <;> with_reducible rfl
                try simp only [Act.put, List.setIfInBounds_toArray, List.set_cons_zero, List.set_cons_succ]
                refine wpAnyH_take (i := 9) (oi := { dst := some 65, op := Op.indexAddr 30 (Operand.tmp 63) (Operand.tmp 64), type := 0, pos := "bag.go:446", after := #[{ on := 7, ground := Ground.data }, { on := 8, ground := Ground.data }, { on := 3, ground := Ground.guard }], guard := some (3, true) }) (v := ?_) rfl (by kernel_rfl) (by kernel_rfl) (by kernel_rfl) (fun _ _ _ h => h) (Or.inl ⟨by rfl, ?_⟩) (by assumption) ?_
                rotate_left
                · (intro w hSw; (try dsimp only at hSw); go_simp) <;> with_reducible rfl
                try simp only [Act.put, List.setIfInBounds_toArray, List.set_cons_zero, List.set_cons_succ]
                refine wpAnyH_take (i := 10) (oi := { dst := some 66, op := Op.fieldAddr 103 (Operand.tmp 65) 1, type := 0, pos := "bag.go:446", after := #[{ on := 9, ground := Ground.data }, { on := 3, ground := Ground.guard }], guard := some (3, true) }) (v := ?_) rfl (by kernel_rfl) (by kernel_rfl) (by kernel_rfl) (fun _ _ _ h => h) (Or.inl ⟨by rfl, ?_⟩) (by assumption) ?_
                rotate_left
                · (intro w hSw; (try dsimp only at hSw); go_simp) <;> with_reducible rfl
                try simp only [Act.put, List.setIfInBounds_toArray, List.set_cons_zero, List.set_cons_succ]
                refine wpAnyH_take (i := 11) (oi := { dst := some 67, op := Op.load 9 (Operand.tmp 66), type := 9, pos := "bag.go:446", after := #[{ on := 10, ground := Ground.data }, { on := 3, ground := Ground.guard }], guard := some (3, true) }) (v := ?_) rfl (by kernel_rfl) (by kernel_rfl) (by kernel_rfl) (fun _ _ _ h => h) (Or.inl ⟨by rfl, ?_⟩) (by assumption) ?_
                rotate_left
                · (intro w hSw; (try dsimp only at hSw); go_simp) <;> with_reducible rfl
                try simp only [Act.put, List.setIfInBounds_toArray, List.set_cons_zero, List.set_cons_succ]
                refine wpAnyH_take (i := 12) (oi := { dst := some 68, op := Op.move (Operand.tmp 9), type := 3, pos := "bag.go:446", after := #[{ on := 3, ground := Ground.guard }], guard := some (3, true) }) (v := ?_) rfl (by kernel_rfl) (by kernel_rfl) (by kernel_rfl) (fun _ _ _ h => h) (Or.inl ⟨by rfl, ?_⟩) (by assumption) ?_
                rotate_left
                · (intro w hSw; (try dsimp only at hSw); go_simp) <;> with_reducible rfl
                try simp only [Act.put, List.setIfInBounds_toArray, List.set_cons_zero, List.set_cons_succ]
                refine wpAnyH_take (i := 13) (oi := { dst := some 69, op := Op.binOp BinOp.sub 3 (Operand.const (Value.int IntKind.i64 (-1000000))) (Operand.tmp 68) 3, type := 3, pos := "bag.go:446", after := #[{ on := 12, ground := Ground.data }, { on := 3, ground := Ground.guard }], guard := some (3, true) }) (v := ?_) rfl (by kernel_rfl) (by kernel_rfl) (by kernel_rfl) (fun _ _ _ h => h) (Or.inl ⟨by rfl, ?_⟩) (by assumption) ?_
                rotate_left
                · (intro w hSw; (try dsimp only at hSw); go_simp; (rw [HR1.out]) <;> with_reducible rfl)
                try simp only [Act.put, List.setIfInBounds_toArray, List.set_cons_zero, List.set_cons_succ]
                refine wpAnyH_ready (rs := [14]) (by kernel_rfl) (by simp) ?_
                refine AllReadyH.cons (o := { dst := some 70, op := Op.call { callee := Callee.value (Operand.func 81), args := #[Operand.tmp 69], argTypes := #[3] }, type := 9, pos := "bag.go:446", after := #[{ on := 13, ground := Ground.data }, { on := 3, ground := Ground.chain }, { on := 3, ground := Ground.guard }], guard := some (3, true) }) rfl (fun K hK => ?_) AllReadyH.nil
                go_simp
                refine (mark_is _ _ (by omega) (by omega) (HTb.out _ HKc.out)).mono ?_
                rintro e wc ⟨rfl, hb⟩
                have HKd : Hid (Kept wo wc (fun _ => False)) := HKc.out.trans (below_new hb) (fun _ _ h => h)
                clear hHeld hb HKc
                have HKc := HKd
                clear HKd
                refine hK.out _ _ (HS.out _ HKc.out) (fun hHeld => ?_)
                clear hK K
                refine wpAnyH_take (i := 15) (oi := { dst := some 71, op := Op.binOp BinOp.eql 9 (Operand.tmp 67) (Operand.tmp 70) 9, type := 4, pos := "bag.go:446", after := #[{ on := 11, ground := Ground.data }, { on := 14, ground := Ground.data }, { on := 3, ground := Ground.guard }], guard := some (3, true) }) (v := ?_) rfl (by kernel_rfl) (by kernel_rfl) (by kernel_rfl) (fun _ _ _ h => h) (Or.inl ⟨by rfl, ?_⟩) (by assumption) ?_
                rotate_left
                · (intro w hSw; (try dsimp only at hSw); go_simp) <;> with_reducible rfl
                try simp only [Act.put, List.setIfInBounds_toArray, List.set_cons_zero, List.set_cons_succ]
                refine wpAnyH_take (i := 16) (oi := { dst := some 72, op := Op.unOp UnOp.not 4 (Operand.tmp 71), type := 4, pos := "bag.go:446", after := #[{ on := 15, ground := Ground.data }, { on := 3, ground := Ground.guard }], guard := some (3, true) }) (v := ?_) rfl (by kernel_rfl) (by kernel_rfl) (by kernel_rfl) (fun _ _ _ h => h) (Or.inl ⟨by rfl, ?_⟩) (by assumption) ?_
                rotate_left
                · (intro w hSw; (try dsimp only at hSw); go_simp) <;> with_reducible rfl
                try simp only [Act.put, List.setIfInBounds_toArray, List.set_cons_zero, List.set_cons_succ]
                refine wpAnyH_take (i := 17) (oi := { dst := some 73, op := Op.pick (Operand.tmp 59) (Operand.tmp 72) (Operand.const (Value.bool false)), type := 4, pos := "bag.go:446", after := #[{ on := 3, ground := Ground.data }, { on := 16, ground := Ground.data }], guard := none }) (v := ?_) rfl (by kernel_rfl) (by kernel_rfl) (by kernel_rfl) (fun _ _ _ h => h) (Or.inl ⟨by rfl, ?_⟩) (by assumption) ?_
                rotate_left
                · (intro w hSw; (try dsimp only at hSw); go_simp) <;> with_reducible rfl
                try simp only [Act.put, List.setIfInBounds_toArray, List.set_cons_zero, List.set_cons_succ]
                refine wpAnyH_take (i := 18) (oi := { dst := some 74, op := Op.move (Operand.tmp 73), type := 4, pos := "bag.go:446", after := #[{ on := 17, ground := Ground.data }, { on := 14, ground := Ground.chain }], guard := none }) (v := ?_) rfl (by kernel_rfl) (by kernel_rfl) (by kernel_rfl) (fun _ _ _ h => h) (Or.inl ⟨by rfl, ?_⟩) (by assumption) ?_
                rotate_left
                · (intro w hSw; (try dsimp only at hSw); go_simp) <;> with_reducible rfl
                try simp only [Act.put, List.setIfInBounds_toArray, List.set_cons_zero, List.set_cons_succ]
                refine wpAnyH_take (i := 19) (oi := { dst := some 75, op := Op.move (Operand.tmp 11), type := 3, pos := "bag.go:446", after := #[{ on := 18, ground := Ground.guard }], guard := some (18, false) }) (v := ?_) rfl (by kernel_rfl) (by kernel_rfl) (by kernel_rfl) (fun _ _ _ h => h) (Or.inl ⟨by rfl, ?_⟩) (by assumption) ?_
                rotate_left
                · (intro w hSw; (try dsimp only at hSw); go_simp) <;> with_reducible rfl
                try simp only [Act.put, List.setIfInBounds_toArray, List.set_cons_zero, List.set_cons_succ]
                refine wpAnyH_take (i := 20) (oi := { dst := some 76, op := Op.move (Operand.tmp 10), type := 3, pos := "bag.go:446", after := #[{ on := 18, ground := Ground.guard }], guard := some (18, false) }) (v := ?_) rfl (by kernel_rfl) (by kernel_rfl) (by kernel_rfl) (fun _ _ _ h => h) (Or.inl ⟨by rfl, ?_⟩) (by assumption) ?_
                rotate_left
                · (intro w hSw; (try dsimp only at hSw); go_simp) <;> with_reducible rfl
                try simp only [Act.put, List.setIfInBounds_toArray, List.set_cons_zero, List.set_cons_succ]
                refine wpAnyH_take (i := 21) (oi := { dst := some 77, op := Op.binOp BinOp.lss 3 (Operand.tmp 75) (Operand.tmp 76) 3, type := 4, pos := "bag.go:446", after := #[{ on := 19, ground := Ground.data }, { on := 20, ground := Ground.data }, { on := 18, ground := Ground.guard }], guard := some (18, false) }) (v := ?_) rfl (by kernel_rfl) (by kernel_rfl) (by kernel_rfl) (fun _ _ _ h => h) (Or.inl ⟨by rfl, ?_⟩) (by assumption) ?_
                rotate_left
                · (intro w hSw; (try dsimp only at hSw); go_simp) <;> with_reducible rfl
                try simp only [Act.put, List.setIfInBounds_toArray, List.set_cons_zero, List.set_cons_succ]
                refine wpAnyH_take (i := 22) (oi := { dst := some 78, op := Op.move (Operand.tmp 77), type := 4, pos := "bag.go:446", after := #[{ on := 21, ground := Ground.data }, { on := 18, ground := Ground.chain }, { on := 18, ground := Ground.guard }], guard := some (18, false) }) (v := ?_) rfl (by kernel_rfl) (by kernel_rfl) (by kernel_rfl) (fun _ _ _ h => h) (Or.inl ⟨by rfl, ?_⟩) (by assumption) ?_
                rotate_left
                · (intro w hSw; (try dsimp only at hSw); go_simp) <;> with_reducible rfl
                try simp only [Act.put, List.setIfInBounds_toArray, List.set_cons_zero, List.set_cons_succ]
                refine wpAnyH_take (i := 23) (oi := { dst := some 79, op := Op.move (Operand.tmp 5), type := 45, pos := "bag.go:446", after := #[{ on := 22, ground := Ground.guard }], guard := some (22, true) }) (v := ?_) rfl (by kernel_rfl) (by kernel_rfl) (by kernel_rfl) (fun _ _ _ h => h) (Or.inl ⟨by rfl, ?_⟩) (by assumption) ?_
                rotate_left
                · (intro w hSw; (try dsimp only at hSw); go_simp) <;> with_reducible rfl
                try simp only [Act.put, List.setIfInBounds_toArray, List.set_cons_zero, List.set_cons_succ]
                refine wpAnyH_take (i := 24) (oi := { dst := some 80, op := Op.move (Operand.tmp 9), type := 3, pos := "bag.go:446", after := #[{ on := 22, ground := Ground.guard }], guard := some (22, true) }) (v := ?_) rfl (by kernel_rfl) (by kernel_rfl) (by kernel_rfl) (fun _ _ _ h => h) (Or.inl ⟨by rfl, ?_⟩) (by assumption) ?_
                rotate_left
                · (intro w hSw; (try dsimp only at hSw); go_simp) <;> with_reducible rfl
                try simp only [Act.put, List.setIfInBounds_toArray, List.set_cons_zero, List.set_cons_succ]
                refine wpAnyH_take (i := 25) (oi := { dst := some 81, op := Op.indexAddr 45 (Operand.tmp 79) (Operand.tmp 80), type := 0, pos := "bag.go:446", after := #[{ on := 23, ground := Ground.data }, { on := 24, ground := Ground.data }, { on := 22, ground := Ground.guard }], guard := some (22, true) }) (v := ?_) rfl (by kernel_rfl) (by kernel_rfl) (by kernel_rfl) (fun _ _ _ h => h) (Or.inl ⟨by rfl, ?_⟩) (by assumption) ?_
                rotate_left
                · (intro w hSw; (try dsimp only at hSw); go_simp) <;> with_reducible rfl
                try simp only [Act.put, List.setIfInBounds_toArray, List.set_cons_zero, List.set_cons_succ]
                refine wpAnyH_take (i := 26) (oi := { dst := some 82, op := Op.load 30 (Operand.tmp 81), type := 30, pos := "bag.go:446", after := #[{ on := 25, ground := Ground.data }, { on := 22, ground := Ground.guard }], guard := some (22, true) }) (v := ?_) rfl (by kernel_rfl) (by kernel_rfl) (by kernel_rfl) (fun _ _ _ h => h) (Or.inl ⟨by rfl, ?_⟩) (by assumption) ?_
                rotate_left
                · (intro w hSw; (try dsimp only at hSw); go_simp) <;> with_reducible rfl
                try simp only [Act.put, List.setIfInBounds_toArray, List.set_cons_zero, List.set_cons_succ]
                refine wpAnyH_take (i := 27) (oi := { dst := some 83, op := Op.move (Operand.tmp 11), type := 3, pos := "bag.go:446", after := #[{ on := 22, ground := Ground.guard }], guard := some (22, true) }) (v := ?_) rfl (by kernel_rfl) (by kernel_rfl) (by kernel_rfl) (fun _ _ _ h => h) (Or.inl ⟨by rfl, ?_⟩) (by assumption) ?_
                rotate_left
                · (intro w hSw; (try dsimp only at hSw); go_simp) <;> with_reducible rfl
                try simp only [Act.put, List.setIfInBounds_toArray, List.set_cons_zero, List.set_cons_succ]
                refine wpAnyH_take (i := 28) (oi := { dst := some 84, op := Op.indexAddr 30 (Operand.tmp 82) (Operand.tmp 83), type := 0, pos := "bag.go:446", after := #[{ on := 26, ground := Ground.data }, { on := 27, ground := Ground.data }, { on := 22, ground := Ground.guard }], guard := some (22, true) }) (v := ?_) rfl (by kernel_rfl) (by kernel_rfl) (by kernel_rfl) (fun _ _ _ h => h) (Or.inl ⟨by rfl, ?_⟩) (by assumption) ?_
                rotate_left
                · (intro w hSw; (try dsimp only at hSw); go_simp) <;> with_reducible rfl
                try simp only [Act.put, List.setIfInBounds_toArray, List.set_cons_zero, List.set_cons_succ]
                refine wpAnyH_take (i := 29) (oi := { dst := some 85, op := Op.fieldAddr 103 (Operand.tmp 84) 1, type := 0, pos := "bag.go:446", after := #[{ on := 28, ground := Ground.data }, { on := 22, ground := Ground.guard }], guard := some (22, true) }) (v := ?_) rfl (by kernel_rfl) (by kernel_rfl) (by kernel_rfl) (fun _ _ _ h => h) (Or.inl ⟨by rfl, ?_⟩) (by assumption) ?_
                rotate_left
                · (intro w hSw; (try dsimp only at hSw); go_simp) <;> with_reducible rfl
                try simp only [Act.put, List.setIfInBounds_toArray, List.set_cons_zero, List.set_cons_succ]
                refine wpAnyH_take (i := 30) (oi := { dst := some 86, op := Op.load 9 (Operand.tmp 85), type := 9, pos := "bag.go:446", after := #[{ on := 29, ground := Ground.data }, { on := 22, ground := Ground.guard }], guard := some (22, true) }) (v := ?_) rfl (by kernel_rfl) (by kernel_rfl) (by kernel_rfl) (fun _ _ _ h => h) (Or.inl ⟨by rfl, ?_⟩) (by assumption) ?_
                rotate_left
                · (intro w hSw; (try dsimp only at hSw); go_simp) <;> with_reducible rfl
                try simp only [Act.put, List.setIfInBounds_toArray, List.set_cons_zero, List.set_cons_succ]
                refine wpAnyH_take (i := 31) (oi := { dst := some 87, op := Op.move (Operand.tmp 9), type := 3, pos := "bag.go:446", after := #[{ on := 22, ground := Ground.guard }], guard := some (22, true) }) (v := ?_) rfl (by kernel_rfl) (by kernel_rfl) (by kernel_rfl) (fun _ _ _ h => h) (Or.inl ⟨by rfl, ?_⟩) (by assumption) ?_
                rotate_left
                · (intro w hSw; (try dsimp only at hSw); go_simp) <;> with_reducible rfl
                try simp only [Act.put, List.setIfInBounds_toArray, List.set_cons_zero, List.set_cons_succ]
                refine wpAnyH_take (i := 32) (oi := { dst := some 88, op := Op.binOp BinOp.sub 3 (Operand.const (Value.int IntKind.i64 (-1000000))) (Operand.tmp 87) 3, type := 3, pos := "bag.go:446", after := #[{ on := 31, ground := Ground.data }, { on := 22, ground := Ground.guard }], guard := some (22, true) }) (v := ?_) rfl (by kernel_rfl) (by kernel_rfl) (by kernel_rfl) (fun _ _ _ h => h) (Or.inl ⟨by rfl, ?_⟩) (by assumption) ?_
                rotate_left
                · (intro w hSw; (try dsimp only at hSw); go_simp; (rw [HR1.out]) <;> with_reducible rfl)
                try simp only [Act.put, List.setIfInBounds_toArray, List.set_cons_zero, List.set_cons_succ]
                refine wpAnyH_ready (rs := [33]) (by kernel_rfl) (by simp) ?_
                refine AllReadyH.cons (o := { dst := some 89, op := Op.call { callee := Callee.value (Operand.func 81), args := #[Operand.tmp 88], argTypes := #[3] }, type := 9, pos := "bag.go:446", after := #[{ on := 32, ground := Ground.data }, { on := 22, ground := Ground.chain }, { on := 22, ground := Ground.guard }], guard := some (22, true) }) rfl (fun K hK => ?_) AllReadyH.nil
                go_simp
                refine (mark_is _ _ (by omega) (by omega) (HTb.out _ HKc.out)).mono ?_
                rintro e wc ⟨rfl, hb⟩
                have HKd : Hid (Kept wo wc (fun _ => False)) := HKc.out.trans (below_new hb) (fun _ _ h => h)
                clear hHeld hb HKc
                have HKc := HKd
                clear HKd
                refine hK.out _ _ (HS.out _ HKc.out) (fun hHeld => ?_)
                clear hK K
                refine wpAnyH_take (i := 34) (oi := { dst := some 90, op := Op.binOp BinOp.eql 9 (Operand.tmp 86) (Operand.tmp 89) 9, type := 4, pos := "bag.go:446", after := #[{ on := 30, ground := Ground.data }, { on := 33, ground := Ground.data }, { on := 22, ground := Ground.guard }], guard := some (22, true) }) (v := ?_) rfl (by kernel_rfl) (by kernel_rfl) (by kernel_rfl) (fun _ _ _ h => h) (Or.inl ⟨by rfl, ?_⟩) (by assumption) ?_
                rotate_left
                · (intro w hSw; (try dsimp only at hSw); go_simp) <;> with_reducible rfl
                try simp only [Act.put, List.setIfInBounds_toArray, List.set_cons_zero, List.set_cons_succ]
                refine wpAnyH_take (i := 35) (oi := { dst := some 91, op := Op.unOp UnOp.not 4 (Operand.tmp 90), type := 4, pos := "bag.go:446", after := #[{ on := 34, ground := Ground.data }, { on := 22, ground := Ground.guard }], guard := some (22, true) }) (v := ?_) rfl (by kernel_rfl) (by kernel_rfl) (by kernel_rfl) (fun _ _ _ h => h) (Or.inl ⟨by rfl, ?_⟩) (by assumption) ?_
                rotate_left
                · (intro w hSw; (try dsimp only at hSw); go_simp) <;> with_reducible rfl
                try simp only [Act.put, List.setIfInBounds_toArray, List.set_cons_zero, List.set_cons_succ]
                refine wpAnyH_take (i := 36) (oi := { dst := some 92, op := Op.pick (Operand.tmp 78) (Operand.tmp 91) (Operand.const (Value.bool false)), type := 4, pos := "bag.go:446", after := #[{ on := 22, ground := Ground.data }, { on := 35, ground := Ground.data }, { on := 18, ground := Ground.guard }], guard := some (18, false) }) (v := ?_) rfl (by kernel_rfl) (by kernel_rfl) (by kernel_rfl) (fun _ _ _ h => h) (Or.inl ⟨by rfl, ?_⟩) (by assumption) ?_
                rotate_left
                · (intro w hSw; (try dsimp only at hSw); go_simp) <;> with_reducible rfl
                try simp only [Act.put, List.setIfInBounds_toArray, List.set_cons_zero, List.set_cons_succ]
                refine wpAnyH_take (i := 37) (oi := { dst := some 93, op := Op.pick (Operand.tmp 74) (Operand.const (Value.bool true)) (Operand.tmp 92), type := 4, pos := "bag.go:446", after := #[{ on := 18, ground := Ground.data }, { on := 36, ground := Ground.data }], guard := none }) (v := ?_) rfl (by kernel_rfl) (by kernel_rfl) (by kernel_rfl) (fun _ _ _ h => h) (Or.inl ⟨by rfl, ?_⟩) (by assumption) ?_
                rotate_left
                · (intro w hSw; (try dsimp only at hSw); go_simp) <;> with_reducible rfl
                try simp only [Act.put, List.setIfInBounds_toArray, List.set_cons_zero, List.set_cons_succ]
                refine wpAnyH_take (i := 38) (oi := { dst := some 94, op := Op.move (Operand.tmp 93), type := 4, pos := "bag.go:446", after := #[{ on := 37, ground := Ground.data }, { on := 33, ground := Ground.chain }], guard := none }) (v := ?_) rfl (by kernel_rfl) (by kernel_rfl) (by kernel_rfl) (fun _ _ _ h => h) (Or.inl ⟨by rfl, ?_⟩) (by assumption) ?_
                rotate_left
                · (intro w hSw; (try dsimp only at hSw); go_simp) <;> with_reducible rfl
                try simp only [Act.put, List.setIfInBounds_toArray, List.set_cons_zero, List.set_cons_succ]
                refine wpAnyH_take (i := 39) (oi := { dst := some 95, op := Op.move (Operand.tmp 11), type := 3, pos := "bag.go:446", after := #[{ on := 38, ground := Ground.guard }], guard := some (38, false) }) (v := ?_) rfl (by kernel_rfl) (by kernel_rfl) (by kernel_rfl) (fun _ _ _ h => h) (Or.inl ⟨by rfl, ?_⟩) (by assumption) ?_
                rotate_left
                · (intro w hSw; (try dsimp only at hSw); go_simp) <;> with_reducible rfl
                try simp only [Act.put, List.setIfInBounds_toArray, List.set_cons_zero, List.set_cons_succ]
                refine wpAnyH_take (i := 40) (oi := { dst := some 96, op := Op.move (Operand.tmp 10), type := 3, pos := "bag.go:446", after := #[{ on := 38, ground := Ground.guard }], guard := some (38, false) }) (v := ?_) rfl (by kernel_rfl) (by kernel_rfl) (by kernel_rfl) (fun _ _ _ h => h) (Or.inl ⟨by rfl, ?_⟩) (by assumption) ?_
                rotate_left
                · (intro w hSw; (try dsimp only at hSw); go_simp) <;> with_reducible rfl
                try simp only [Act.put, List.setIfInBounds_toArray, List.set_cons_zero, List.set_cons_succ]
                refine wpAnyH_take (i := 41) (oi := { dst := some 97, op := Op.binOp BinOp.geq 3 (Operand.tmp 95) (Operand.tmp 96) 3, type := 4, pos := "bag.go:446", after := #[{ on := 39, ground := Ground.data }, { on := 40, ground := Ground.data }, { on := 38, ground := Ground.guard }], guard := some (38, false) }) (v := ?_) rfl (by kernel_rfl) (by kernel_rfl) (by kernel_rfl) (fun _ _ _ h => h) (Or.inl ⟨by rfl, ?_⟩) (by assumption) ?_
                rotate_left
                · (intro w hSw; (try dsimp only at hSw); go_simp) <;> with_reducible rfl
                try simp only [Act.put, List.setIfInBounds_toArray, List.set_cons_zero, List.set_cons_succ]
                refine wpAnyH_take (i := 42) (oi := { dst := some 98, op := Op.move (Operand.tmp 97), type := 4, pos := "bag.go:446", after := #[{ on := 41, ground := Ground.data }, { on := 38, ground := Ground.chain }, { on := 38, ground := Ground.guard }], guard := some (38, false) }) (v := ?_) rfl (by kernel_rfl) (by kernel_rfl) (by kernel_rfl) (fun _ _ _ h => h) (Or.inl ⟨by rfl, ?_⟩) (by assumption) ?_
                rotate_left
                · (intro w hSw; (try dsimp only at hSw); go_simp) <;> with_reducible rfl
                try simp only [Act.put, List.setIfInBounds_toArray, List.set_cons_zero, List.set_cons_succ]
                refine wpAnyH_take (i := 43) (oi := { dst := some 99, op := Op.move (Operand.tmp 5), type := 45, pos := "bag.go:446", after := #[{ on := 42, ground := Ground.guard }], guard := some (42, true) }) (v := undef) rfl (by kernel_rfl) (by kernel_rfl) (by kernel_rfl) (fun _ _ _ h => h) (Or.inr ⟨by rfl, rfl⟩) (by assumption) ?_
                try simp only [Act.put, List.setIfInBounds_toArray, List.set_cons_zero, List.set_cons_succ]
                refine wpAnyH_take (i := 44) (oi := { dst := some 100, op := Op.move (Operand.tmp 9), type := 3, pos := "bag.go:446", after := #[{ on := 42, ground := Ground.guard }], guard := some (42, true) }) (v := undef) rfl (by kernel_rfl) (by kernel_rfl) (by kernel_rfl) (fun _ _ _ h => h) (Or.inr ⟨by rfl, rfl⟩) (by assumption) ?_
                try simp only [Act.put, List.setIfInBounds_toArray, List.set_cons_zero, List.set_cons_succ]
                refine wpAnyH_take (i := 45) (oi := { dst := some 101, op := Op.indexAddr 45 (Operand.tmp 99) (Operand.tmp 100), type := 0, pos := "bag.go:446", after := #[{ on := 43, ground := Ground.data }, { on := 44, ground := Ground.data }, { on := 42, ground := Ground.guard }], guard := some (42, true) }) (v := undef) rfl (by kernel_rfl) (by kernel_rfl) (by kernel_rfl) (fun _ _ _ h => h) (Or.inr ⟨by rfl, rfl⟩) (by assumption) ?_
                try simp only [Act.put, List.setIfInBounds_toArray, List.set_cons_zero, List.set_cons_succ]
                refine wpAnyH_take (i := 46) (oi := { dst := some 102, op := Op.load 30 (Operand.tmp 101), type := 30, pos := "bag.go:446", after := #[{ on := 45, ground := Ground.data }, { on := 42, ground := Ground.guard }], guard := some (42, true) }) (v := undef) rfl (by kernel_rfl) (by kernel_rfl) (by kernel_rfl) (fun _ _ _ h => h) (Or.inr ⟨by rfl, rfl⟩) (by assumption) ?_
                try simp only [Act.put, List.setIfInBounds_toArray, List.set_cons_zero, List.set_cons_succ]
                refine wpAnyH_take (i := 47) (oi := { dst := some 103, op := Op.move (Operand.tmp 11), type := 3, pos := "bag.go:446", after := #[{ on := 42, ground := Ground.guard }], guard := some (42, true) }) (v := undef) rfl (by kernel_rfl) (by kernel_rfl) (by kernel_rfl) (fun _ _ _ h => h) (Or.inr ⟨by rfl, rfl⟩) (by assumption) ?_
                try simp only [Act.put, List.setIfInBounds_toArray, List.set_cons_zero, List.set_cons_succ]
                refine wpAnyH_take (i := 48) (oi := { dst := some 104, op := Op.indexAddr 30 (Operand.tmp 102) (Operand.tmp 103), type := 0, pos := "bag.go:446", after := #[{ on := 46, ground := Ground.data }, { on := 47, ground := Ground.data }, { on := 42, ground := Ground.guard }], guard := some (42, true) }) (v := undef) rfl (by kernel_rfl) (by kernel_rfl) (by kernel_rfl) (fun _ _ _ h => h) (Or.inr ⟨by rfl, rfl⟩) (by assumption) ?_
                try simp only [Act.put, List.setIfInBounds_toArray, List.set_cons_zero, List.set_cons_succ]
                refine wpAnyH_take (i := 49) (oi := { dst := some 105, op := Op.fieldAddr 103 (Operand.tmp 104) 1, type := 0, pos := "bag.go:446", after := #[{ on := 48, ground := Ground.data }, { on := 42, ground := Ground.guard }], guard := some (42, true) }) (v := undef) rfl (by kernel_rfl) (by kernel_rfl) (by kernel_rfl) (fun _ _ _ h => h) (Or.inr ⟨by rfl, rfl⟩) (by assumption) ?_
                try simp only [Act.put, List.setIfInBounds_toArray, List.set_cons_zero, List.set_cons_succ]
                refine wpAnyH_take (i := 50) (oi := { dst := some 106, op := Op.load 9 (Operand.tmp 105), type := 9, pos := "bag.go:446", after := #[{ on := 49, ground := Ground.data }, { on := 42, ground := Ground.guard }], guard := some (42, true) }) (v := undef) rfl (by kernel_rfl) (by kernel_rfl) (by kernel_rfl) (fun _ _ _ h => h) (Or.inr ⟨by rfl, rfl⟩) (by assumption) ?_
                try simp only [Act.put, List.setIfInBounds_toArray, List.set_cons_zero, List.set_cons_succ]
                refine wpAnyH_take (i := 51) (oi := { dst := some 107, op := Op.move (Operand.tmp 9), type := 3, pos := "bag.go:446", after := #[{ on := 42, ground := Ground.guard }], guard := some (42, true) }) (v := undef) rfl (by kernel_rfl) (by kernel_rfl) (by kernel_rfl) (fun _ _ _ h => h) (Or.inr ⟨by rfl, rfl⟩) (by assumption) ?_
                try simp only [Act.put, List.setIfInBounds_toArray, List.set_cons_zero, List.set_cons_succ]
                refine wpAnyH_take (i := 52) (oi := { dst := some 108, op := Op.binOp BinOp.sub 3 (Operand.const (Value.int IntKind.i64 (-2000000))) (Operand.tmp 107) 3, type := 3, pos := "bag.go:446", after := #[{ on := 51, ground := Ground.data }, { on := 42, ground := Ground.guard }], guard := some (42, true) }) (v := undef) rfl (by kernel_rfl) (by kernel_rfl) (by kernel_rfl) (fun _ _ _ h => h) (Or.inr ⟨by rfl, rfl⟩) (by assumption) ?_
                try simp only [Act.put, List.setIfInBounds_toArray, List.set_cons_zero, List.set_cons_succ]
                refine wpAnyH_ready (rs := [53]) (by kernel_rfl) (by simp) ?_
                refine AllReadyH.cons (o := { dst := some 109, op := Op.call { callee := Callee.value (Operand.func 81), args := #[Operand.tmp 108], argTypes := #[3] }, type := 9, pos := "bag.go:446", after := #[{ on := 52, ground := Ground.data }, { on := 42, ground := Ground.chain }, { on := 42, ground := Ground.guard }], guard := some (42, true) }) rfl (fun K hK => ?_) AllReadyH.nil
                go_simp
                refine hK.out _ _ (by assumption) (fun _ => ?_)
                clear hK K
                refine wpAnyH_take (i := 54) (oi := { dst := some 110, op := Op.binOp BinOp.eql 9 (Operand.tmp 106) (Operand.tmp 109) 9, type := 4, pos := "bag.go:446", after := #[{ on := 50, ground := Ground.data }, { on := 53, ground := Ground.data }, { on := 42, ground := Ground.guard }], guard := some (42, true) }) (v := undef) rfl (by kernel_rfl) (by kernel_rfl) (by kernel_rfl) (fun _ _ _ h => h) (Or.inr ⟨by rfl, rfl⟩) (by assumption) ?_
                try simp only [Act.put, List.setIfInBounds_toArray, List.set_cons_zero, List.set_cons_succ]
                refine wpAnyH_take (i := 55) (oi := { dst := some 111, op := Op.unOp UnOp.not 4 (Operand.tmp 110), type := 4, pos := "bag.go:446", after := #[{ on := 54, ground := Ground.data }, { on := 42, ground := Ground.guard }], guard := some (42, true) }) (v := undef) rfl (by kernel_rfl) (by kernel_rfl) (by kernel_rfl) (fun _ _ _ h => h) (Or.inr ⟨by rfl, rfl⟩) (by assumption) ?_
                try simp only [Act.put, List.setIfInBounds_toArray, List.set_cons_zero, List.set_cons_succ]
                refine wpAnyH_take (i := 56) (oi := { dst := some 112, op := Op.pick (Operand.tmp 98) (Operand.tmp 111) (Operand.const (Value.bool false)), type := 4, pos := "bag.go:446", after := #[{ on := 42, ground := Ground.data }, { on := 55, ground := Ground.data }, { on := 38, ground := Ground.guard }], guard := some (38, false) }) (v := ?_) rfl (by kernel_rfl) (by kernel_rfl) (by kernel_rfl) (fun _ _ _ h => h) (Or.inl ⟨by rfl, ?_⟩) (by assumption) ?_
                rotate_left
                · (intro w hSw; (try dsimp only at hSw); go_simp) <;> with_reducible rfl
                try simp only [Act.put, List.setIfInBounds_toArray, List.set_cons_zero, List.set_cons_succ]
                refine wpAnyH_take (i := 57) (oi := { dst := some 113, op := Op.pick (Operand.tmp 94) (Operand.const (Value.bool true)) (Operand.tmp 112), type := 4, pos := "bag.go:446", after := #[{ on := 38, ground := Ground.data }, { on := 56, ground := Ground.data }], guard := none }) (v := ?_) rfl (by kernel_rfl) (by kernel_rfl) (by kernel_rfl) (fun _ _ _ h => h) (Or.inl ⟨by rfl, ?_⟩) (by assumption) ?_
                rotate_left
                · (intro w hSw; (try dsimp only at hSw); go_simp) <;> with_reducible rfl
                try simp only [Act.put, List.setIfInBounds_toArray, List.set_cons_zero, List.set_cons_succ]
                refine wpAnyH_done (by kernel_rfl) ?_ _
                go_wp2
                go_roundw
                case rel => exact ⟨k + 1, by omega, by go_num, HKc⟩
                case measure => simp [intOf]; omega
              · have b1 : decide ((k : Int) < (n : Int)) = false := by rw [decide_eq_false_iff_not]; omega
                have b2 : decide ((n : Int) ≤ (k : Int)) = true := by simp; omega
                have b3 : decide (k < n) = false := by rw [decide_eq_false_iff_not]; omega
                have b4 : decide (n ≤ k) = true := by simp; omega
                have b5 : decide ((k : Int) ≥ (n : Int)) = true := by simp; omega
                have HS : Hid (∀ V, Kept wo V (fun _ => False) → (fun V' => V'.cell? ⟨b, off + i, none⟩ = some (.slice va n vc) ∧ V'.cell? ⟨gm, i, none⟩ = some (.slice (some ⟨mb, 0, none⟩) (n + c) mc2) ∧ V'.cell? ⟨mb, k * 2 + 1, none⟩ = some (.string m2)) V) := fun V hk => ⟨HCl.out V hk, HGm.out V hk, hk.cell (by
                  rw [hmc _ (by have := Nat.mul_le_mul_right 2 (show k + 1 ≤ n + c from hkn); omega), hm2]
                  exact HRo.out.2.2.2.right HRo.out.1.1 (by omega) hkn) (fun h => h)⟩
                clear hm1 hm2 hmc
                go_wp2
                refine wp_region_held_drew (S := fun V' => V'.cell? ⟨b, off + i, none⟩ = some (.slice va n vc) ∧ V'.cell? ⟨gm, i, none⟩ = some (.slice (some ⟨mb, 0, none⟩) (n + c) mc2) ∧ V'.cell? ⟨mb, k * 2 + 1, none⟩ = some (.string m2)) (by kernel_rfl) ?_ (fun hHeld => ?_)
                · exact HS.out _ HKc.out
                refine wpAnyH_take (i := 0) (oi := { dst := some 56, op := Op.move (Operand.tmp 11), type := 3, pos := "bag.go:446", after := #[], guard := none }) (v := ?_) rfl (by kernel_rfl) (by kernel_rfl) (by kernel_rfl) (fun _ _ _ h => h) (Or.inl ⟨by rfl, ?_⟩) (by assumption) ?_
                rotate_left
                · (intro w hSw; (try dsimp only at hSw); go_simp) <;> with_reducible rfl
                try simp only [Act.put, List.setIfInBounds_toArray, List.set_cons_zero, List.set_cons_succ]
                refine wpAnyH_take (i := 1) (oi := { dst := some 57, op := Op.move (Operand.tmp 10), type := 3, pos := "bag.go:446", after := #[], guard := none }) (v := ?_) rfl (by kernel_rfl) (by kernel_rfl) (by kernel_rfl) (fun _ _ _ h => h) (Or.inl ⟨by rfl, ?_⟩) (by assumption) ?_
                rotate_left
                · (intro w hSw; (try dsimp only at hSw); go_simp) <;> with_reducible rfl
                try simp only [Act.put, List.setIfInBounds_toArray, List.set_cons_zero, List.set_cons_succ]
                refine wpAnyH_take (i := 2) (oi := { dst := some 58, op := Op.binOp BinOp.lss 3 (Operand.tmp 56) (Operand.tmp 57) 3, type := 4, pos := "bag.go:446", after := #[{ on := 0, ground := Ground.data }, { on := 1, ground := Ground.data }], guard := none }) (v := ?_) rfl (by kernel_rfl) (by kernel_rfl) (by kernel_rfl) (fun _ _ _ h => h) (Or.inl ⟨by rfl, ?_⟩) (by assumption) ?_
                rotate_left
                · (intro w hSw; (try dsimp only at hSw); go_simp) <;> with_reducible rfl
                try simp only [Act.put, List.setIfInBounds_toArray, List.set_cons_zero, List.set_cons_succ]
                refine wpAnyH_take (i := 3) (oi := { dst := some 59, op := Op.move (Operand.tmp 58), type := 4, pos := "bag.go:446", after := #[{ on := 2, ground := Ground.data }], guard := none }) (v := ?_) rfl (by kernel_rfl) (by kernel_rfl) (by kernel_rfl) (fun _ _ _ h => h) (Or.inl ⟨by rfl, ?_⟩) (by assumption) ?_
                rotate_left
                · (intro w hSw; (try dsimp only at hSw); go_simp) <;> with_reducible rfl
                try simp only [Act.put, List.setIfInBounds_toArray, List.set_cons_zero, List.set_cons_succ]
                refine wpAnyH_take (i := 4) (oi := { dst := some 60, op := Op.move (Operand.tmp 0), type := 45, pos := "bag.go:446", after := #[{ on := 3, ground := Ground.guard }], guard := some (3, true) }) (v := undef) rfl (by kernel_rfl) (by kernel_rfl) (by kernel_rfl) (fun _ _ _ h => h) (Or.inr ⟨by rfl, rfl⟩) (by assumption) ?_
                try simp only [Act.put, List.setIfInBounds_toArray, List.set_cons_zero, List.set_cons_succ]
                refine wpAnyH_take (i := 5) (oi := { dst := some 61, op := Op.move (Operand.tmp 9), type := 3, pos := "bag.go:446", after := #[{ on := 3, ground := Ground.guard }], guard := some (3, true) }) (v := undef) rfl (by kernel_rfl) (by kernel_rfl) (by kernel_rfl) (fun _ _ _ h => h) (Or.inr ⟨by rfl, rfl⟩) (by assumption) ?_
                try simp only [Act.put, List.setIfInBounds_toArray, List.set_cons_zero, List.set_cons_succ]
                refine wpAnyH_take (i := 6) (oi := { dst := some 62, op := Op.indexAddr 45 (Operand.tmp 60) (Operand.tmp 61), type := 0, pos := "bag.go:446", after := #[{ on := 4, ground := Ground.data }, { on := 5, ground := Ground.data }, { on := 3, ground := Ground.guard }], guard := some (3, true) }) (v := undef) rfl (by kernel_rfl) (by kernel_rfl) (by kernel_rfl) (fun _ _ _ h => h) (Or.inr ⟨by rfl, rfl⟩) (by assumption) ?_
                try simp only [Act.put, List.setIfInBounds_toArray, List.set_cons_zero, List.set_cons_succ]
                refine wpAnyH_take (i := 7) (oi := { dst := some 63, op := Op.load 30 (Operand.tmp 62), type := 30, pos := "bag.go:446", after := #[{ on := 6, ground := Ground.data }, { on := 3, ground := Ground.guard }], guard := some (3, true) }) (v := undef) rfl (by kernel_rfl) (by kernel_rfl) (by kernel_rfl) (fun _ _ _ h => h) (Or.inr ⟨by rfl, rfl⟩) (by assumption) ?_
                try simp only [Act.put, List.setIfInBounds_toArray, List.set_cons_zero, List.set_cons_succ]
                refine wpAnyH_take (i := 8) (oi := { dst := some 64, op := Op.move (Operand.tmp 11), type := 3, pos := "bag.go:446", after := #[{ on := 3, ground := Ground.guard }], guard := some (3, true) }) (v := undef) rfl (by kernel_rfl) (by kernel_rfl) (by kernel_rfl) (fun _ _ _ h => h) (Or.inr ⟨by rfl, rfl⟩) (by assumption) ?_
                try simp only [Act.put, List.setIfInBounds_toArray, List.set_cons_zero, List.set_cons_succ]
                refine wpAnyH_take (i := 9) (oi := { dst := some 65, op := Op.indexAddr 30 (Operand.tmp 63) (Operand.tmp 64), type := 0, pos := "bag.go:446", after := #[{ on := 7, ground := Ground.data }, { on := 8, ground := Ground.data }, { on := 3, ground := Ground.guard }], guard := some (3, true) }) (v := undef) rfl (by kernel_rfl) (by kernel_rfl) (by kernel_rfl) (fun _ _ _ h => h) (Or.inr ⟨by rfl, rfl⟩) (by assumption) ?_
                try simp only [Act.put, List.setIfInBounds_toArray, List.set_cons_zero, List.set_cons_succ]
                refine wpAnyH_take (i := 10) (oi := { dst := some 66, op := Op.fieldAddr 103 (Operand.tmp 65) 1, type := 0, pos := "bag.go:446", after := #[{ on := 9, ground := Ground.data }, { on := 3, ground := Ground.guard }], guard := some (3, true) }) (v := undef) rfl (by kernel_rfl) (by kernel_rfl) (by kernel_rfl) (fun _ _ _ h => h) (Or.inr ⟨by rfl, rfl⟩) (by assumption) ?_
                try simp only [Act.put, List.setIfInBounds_toArray, List.set_cons_zero, List.set_cons_succ]
                refine wpAnyH_take (i := 11) (oi := { dst := some 67, op := Op.load 9 (Operand.tmp 66), type := 9, pos := "bag.go:446", after := #[{ on := 10, ground := Ground.data }, { on := 3, ground := Ground.guard }], guard := some (3, true) }) (v := undef) rfl (by kernel_rfl) (by kernel_rfl) (by kernel_rfl) (fun _ _ _ h => h) (Or.inr ⟨by rfl, rfl⟩) (by assumption) ?_
                try simp only [Act.put, List.setIfInBounds_toArray, List.set_cons_zero, List.set_cons_succ]
                refine wpAnyH_take (i := 12) (oi := { dst := some 68, op := Op.move (Operand.tmp 9), type := 3, pos := "bag.go:446", after := #[{ on := 3, ground := Ground.guard }], guard := some (3, true) }) (v := undef) rfl (by kernel_rfl) (by kernel_rfl) (by kernel_rfl) (fun _ _ _ h => h) (Or.inr ⟨by rfl, rfl⟩) (by assumption) ?_
                try simp only [Act.put, List.setIfInBounds_toArray, List.set_cons_zero, List.set_cons_succ]
                refine wpAnyH_take (i := 13) (oi := { dst := some 69, op := Op.binOp BinOp.sub 3 (Operand.const (Value.int IntKind.i64 (-1000000))) (Operand.tmp 68) 3, type := 3, pos := "bag.go:446", after := #[{ on := 12, ground := Ground.data }, { on := 3, ground := Ground.guard }], guard := some (3, true) }) (v := undef) rfl (by kernel_rfl) (by kernel_rfl) (by kernel_rfl) (fun _ _ _ h => h) (Or.inr ⟨by rfl, rfl⟩) (by assumption) ?_
                try simp only [Act.put, List.setIfInBounds_toArray, List.set_cons_zero, List.set_cons_succ]
                refine wpAnyH_ready (rs := [14]) (by kernel_rfl) (by simp) ?_
                refine AllReadyH.cons (o := { dst := some 70, op := Op.call { callee := Callee.value (Operand.func 81), args := #[Operand.tmp 69], argTypes := #[3] }, type := 9, pos := "bag.go:446", after := #[{ on := 13, ground := Ground.data }, { on := 3, ground := Ground.chain }, { on := 3, ground := Ground.guard }], guard := some (3, true) }) rfl (fun K hK => ?_) AllReadyH.nil
                go_simp
                refine hK.out _ _ (by assumption) (fun _ => ?_)
                clear hK K
                refine wpAnyH_take (i := 15) (oi := { dst := some 71, op := Op.binOp BinOp.eql 9 (Operand.tmp 67) (Operand.tmp 70) 9, type := 4, pos := "bag.go:446", after := #[{ on := 11, ground := Ground.data }, { on := 14, ground := Ground.data }, { on := 3, ground := Ground.guard }], guard := some (3, true) }) (v := undef) rfl (by kernel_rfl) (by kernel_rfl) (by kernel_rfl) (fun _ _ _ h => h) (Or.inr ⟨by rfl, rfl⟩) (by assumption) ?_
                try simp only [Act.put, List.setIfInBounds_toArray, List.set_cons_zero, List.set_cons_succ]
                refine wpAnyH_take (i := 16) (oi := { dst := some 72, op := Op.unOp UnOp.not 4 (Operand.tmp 71), type := 4, pos := "bag.go:446", after := #[{ on := 15, ground := Ground.data }, { on := 3, ground := Ground.guard }], guard := some (3, true) }) (v := undef) rfl (by kernel_rfl) (by kernel_rfl) (by kernel_rfl) (fun _ _ _ h => h) (Or.inr ⟨by rfl, rfl⟩) (by assumption) ?_
                try simp only [Act.put, List.setIfInBounds_toArray, List.set_cons_zero, List.set_cons_succ]
                refine wpAnyH_take (i := 17) (oi := { dst := some 73, op := Op.pick (Operand.tmp 59) (Operand.tmp 72) (Operand.const (Value.bool false)), type := 4, pos := "bag.go:446", after := #[{ on := 3, ground := Ground.data }, { on := 16, ground := Ground.data }], guard := none }) (v := ?_) rfl (by kernel_rfl) (by kernel_rfl) (by kernel_rfl) (fun _ _ _ h => h) (Or.inl ⟨by rfl, ?_⟩) (by assumption) ?_
                rotate_left
                · (intro w hSw; (try dsimp only at hSw); go_simp) <;> with_reducible rfl
                try simp only [Act.put, List.setIfInBounds_toArray, List.set_cons_zero, List.set_cons_succ]
                refine wpAnyH_take (i := 18) (oi := { dst := some 74, op := Op.move (Operand.tmp 73), type := 4, pos := "bag.go:446", after := #[{ on := 17, ground := Ground.data }, { on := 14, ground := Ground.chain }], guard := none }) (v := ?_) rfl (by kernel_rfl) (by kernel_rfl) (by kernel_rfl) (fun _ _ _ h => h) (Or.inl ⟨by rfl, ?_⟩) (by assumption) ?_
                rotate_left
                · (intro w hSw; (try dsimp only at hSw); go_simp) <;> with_reducible rfl
                try simp only [Act.put, List.setIfInBounds_toArray, List.set_cons_zero, List.set_cons_succ]
                refine wpAnyH_take (i := 19) (oi := { dst := some 75, op := Op.move (Operand.tmp 11), type := 3, pos := "bag.go:446", after := #[{ on := 18, ground := Ground.guard }], guard := some (18, false) }) (v := ?_) rfl (by kernel_rfl) (by kernel_rfl) (by kernel_rfl) (fun _ _ _ h => h) (Or.inl ⟨by rfl, ?_⟩) (by assumption) ?_
                rotate_left
                · (intro w hSw; (try dsimp only at hSw); go_simp) <;> with_reducible rfl
                try simp only [Act.put, List.setIfInBounds_toArray, List.set_cons_zero, List.set_cons_succ]
                refine wpAnyH_take (i := 20) (oi := { dst := some 76, op := Op.move (Operand.tmp 10), type := 3, pos := "bag.go:446", after := #[{ on := 18, ground := Ground.guard }], guard := some (18, false) }) (v := ?_) rfl (by kernel_rfl) (by kernel_rfl) (by kernel_rfl) (fun _ _ _ h => h) (Or.inl ⟨by rfl, ?_⟩) (by assumption) ?_
                rotate_left
                · (intro w hSw; (try dsimp only at hSw); go_simp) <;> with_reducible rfl
                try simp only [Act.put, List.setIfInBounds_toArray, List.set_cons_zero, List.set_cons_succ]
                refine wpAnyH_take (i := 21) (oi := { dst := some 77, op := Op.binOp BinOp.lss 3 (Operand.tmp 75) (Operand.tmp 76) 3, type := 4, pos := "bag.go:446", after := #[{ on := 19, ground := Ground.data }, { on := 20, ground := Ground.data }, { on := 18, ground := Ground.guard }], guard := some (18, false) }) (v := ?_) rfl (by kernel_rfl) (by kernel_rfl) (by kernel_rfl) (fun _ _ _ h => h) (Or.inl ⟨by rfl, ?_⟩) (by assumption) ?_
                rotate_left
                · (intro w hSw; (try dsimp only at hSw); go_simp) <;> with_reducible rfl
                try simp only [Act.put, List.setIfInBounds_toArray, List.set_cons_zero, List.set_cons_succ]
                refine wpAnyH_take (i := 22) (oi := { dst := some 78, op := Op.move (Operand.tmp 77), type := 4, pos := "bag.go:446", after := #[{ on := 21, ground := Ground.data }, { on := 18, ground := Ground.chain }, { on := 18, ground := Ground.guard }], guard := some (18, false) }) (v := ?_) rfl (by kernel_rfl) (by kernel_rfl) (by kernel_rfl) (fun _ _ _ h => h) (Or.inl ⟨by rfl, ?_⟩) (by assumption) ?_
                rotate_left
                · (intro w hSw; (try dsimp only at hSw); go_simp) <;> with_reducible rfl
                try simp only [Act.put, List.setIfInBounds_toArray, List.set_cons_zero, List.set_cons_succ]
                refine wpAnyH_take (i := 23) (oi := { dst := some 79, op := Op.move (Operand.tmp 5), type := 45, pos := "bag.go:446", after := #[{ on := 22, ground := Ground.guard }], guard := some (22, true) }) (v := undef) rfl (by kernel_rfl) (by kernel_rfl) (by kernel_rfl) (fun _ _ _ h => h) (Or.inr ⟨by rfl, rfl⟩) (by assumption) ?_
                try simp only [Act.put, List.setIfInBounds_toArray, List.set_cons_zero, List.set_cons_succ]
                refine wpAnyH_take (i := 24) (oi := { dst := some 80, op := Op.move (Operand.tmp 9), type := 3, pos := "bag.go:446", after := #[{ on := 22, ground := Ground.guard }], guard := some (22, true) }) (v := undef) rfl (by kernel_rfl) (by kernel_rfl) (by kernel_rfl) (fun _ _ _ h => h) (Or.inr ⟨by rfl, rfl⟩) (by assumption) ?_
                try simp only [Act.put, List.setIfInBounds_toArray, List.set_cons_zero, List.set_cons_succ]
                refine wpAnyH_take (i := 25) (oi := { dst := some 81, op := Op.indexAddr 45 (Operand.tmp 79) (Operand.tmp 80), type := 0, pos := "bag.go:446", after := #[{ on := 23, ground := Ground.data }, { on := 24, ground := Ground.data }, { on := 22, ground := Ground.guard }], guard := some (22, true) }) (v := undef) rfl (by kernel_rfl) (by kernel_rfl) (by kernel_rfl) (fun _ _ _ h => h) (Or.inr ⟨by rfl, rfl⟩) (by assumption) ?_
                try simp only [Act.put, List.setIfInBounds_toArray, List.set_cons_zero, List.set_cons_succ]
                refine wpAnyH_take (i := 26) (oi := { dst := some 82, op := Op.load 30 (Operand.tmp 81), type := 30, pos := "bag.go:446", after := #[{ on := 25, ground := Ground.data }, { on := 22, ground := Ground.guard }], guard := some (22, true) }) (v := undef) rfl (by kernel_rfl) (by kernel_rfl) (by kernel_rfl) (fun _ _ _ h => h) (Or.inr ⟨by rfl, rfl⟩) (by assumption) ?_
                try simp only [Act.put, List.setIfInBounds_toArray, List.set_cons_zero, List.set_cons_succ]
                refine wpAnyH_take (i := 27) (oi := { dst := some 83, op := Op.move (Operand.tmp 11), type := 3, pos := "bag.go:446", after := #[{ on := 22, ground := Ground.guard }], guard := some (22, true) }) (v := undef) rfl (by kernel_rfl) (by kernel_rfl) (by kernel_rfl) (fun _ _ _ h => h) (Or.inr ⟨by rfl, rfl⟩) (by assumption) ?_
                try simp only [Act.put, List.setIfInBounds_toArray, List.set_cons_zero, List.set_cons_succ]
                refine wpAnyH_take (i := 28) (oi := { dst := some 84, op := Op.indexAddr 30 (Operand.tmp 82) (Operand.tmp 83), type := 0, pos := "bag.go:446", after := #[{ on := 26, ground := Ground.data }, { on := 27, ground := Ground.data }, { on := 22, ground := Ground.guard }], guard := some (22, true) }) (v := undef) rfl (by kernel_rfl) (by kernel_rfl) (by kernel_rfl) (fun _ _ _ h => h) (Or.inr ⟨by rfl, rfl⟩) (by assumption) ?_
                try simp only [Act.put, List.setIfInBounds_toArray, List.set_cons_zero, List.set_cons_succ]
                refine wpAnyH_take (i := 29) (oi := { dst := some 85, op := Op.fieldAddr 103 (Operand.tmp 84) 1, type := 0, pos := "bag.go:446", after := #[{ on := 28, ground := Ground.data }, { on := 22, ground := Ground.guard }], guard := some (22, true) }) (v := undef) rfl (by kernel_rfl) (by kernel_rfl) (by kernel_rfl) (fun _ _ _ h => h) (Or.inr ⟨by rfl, rfl⟩) (by assumption) ?_
                try simp only [Act.put, List.setIfInBounds_toArray, List.set_cons_zero, List.set_cons_succ]
                refine wpAnyH_take (i := 30) (oi := { dst := some 86, op := Op.load 9 (Operand.tmp 85), type := 9, pos := "bag.go:446", after := #[{ on := 29, ground := Ground.data }, { on := 22, ground := Ground.guard }], guard := some (22, true) }) (v := undef) rfl (by kernel_rfl) (by kernel_rfl) (by kernel_rfl) (fun _ _ _ h => h) (Or.inr ⟨by rfl, rfl⟩) (by assumption) ?_
                try simp only [Act.put, List.setIfInBounds_toArray, List.set_cons_zero, List.set_cons_succ]
                refine wpAnyH_take (i := 31) (oi := { dst := some 87, op := Op.move (Operand.tmp 9), type := 3, pos := "bag.go:446", after := #[{ on := 22, ground := Ground.guard }], guard := some (22, true) }) (v := undef) rfl (by kernel_rfl) (by kernel_rfl) (by kernel_rfl) (fun _ _ _ h => h) (Or.inr ⟨by rfl, rfl⟩) (by assumption) ?_
                try simp only [Act.put, List.setIfInBounds_toArray, List.set_cons_zero, List.set_cons_succ]
                refine wpAnyH_take (i := 32) (oi := { dst := some 88, op := Op.binOp BinOp.sub 3 (Operand.const (Value.int IntKind.i64 (-1000000))) (Operand.tmp 87) 3, type := 3, pos := "bag.go:446", after := #[{ on := 31, ground := Ground.data }, { on := 22, ground := Ground.guard }], guard := some (22, true) }) (v := undef) rfl (by kernel_rfl) (by kernel_rfl) (by kernel_rfl) (fun _ _ _ h => h) (Or.inr ⟨by rfl, rfl⟩) (by assumption) ?_
                try simp only [Act.put, List.setIfInBounds_toArray, List.set_cons_zero, List.set_cons_succ]
                refine wpAnyH_ready (rs := [33]) (by kernel_rfl) (by simp) ?_
                refine AllReadyH.cons (o := { dst := some 89, op := Op.call { callee := Callee.value (Operand.func 81), args := #[Operand.tmp 88], argTypes := #[3] }, type := 9, pos := "bag.go:446", after := #[{ on := 32, ground := Ground.data }, { on := 22, ground := Ground.chain }, { on := 22, ground := Ground.guard }], guard := some (22, true) }) rfl (fun K hK => ?_) AllReadyH.nil
                go_simp
                refine hK.out _ _ (by assumption) (fun _ => ?_)
                clear hK K
                refine wpAnyH_take (i := 34) (oi := { dst := some 90, op := Op.binOp BinOp.eql 9 (Operand.tmp 86) (Operand.tmp 89) 9, type := 4, pos := "bag.go:446", after := #[{ on := 30, ground := Ground.data }, { on := 33, ground := Ground.data }, { on := 22, ground := Ground.guard }], guard := some (22, true) }) (v := undef) rfl (by kernel_rfl) (by kernel_rfl) (by kernel_rfl) (fun _ _ _ h => h) (Or.inr ⟨by rfl, rfl⟩) (by assumption) ?_
                try simp only [Act.put, List.setIfInBounds_toArray, List.set_cons_zero, List.set_cons_succ]
                refine wpAnyH_take (i := 35) (oi := { dst := some 91, op := Op.unOp UnOp.not 4 (Operand.tmp 90), type := 4, pos := "bag.go:446", after := #[{ on := 34, ground := Ground.data }, { on := 22, ground := Ground.guard }], guard := some (22, true) }) (v := undef) rfl (by kernel_rfl) (by kernel_rfl) (by kernel_rfl) (fun _ _ _ h => h) (Or.inr ⟨by rfl, rfl⟩) (by assumption) ?_
                try simp only [Act.put, List.setIfInBounds_toArray, List.set_cons_zero, List.set_cons_succ]
                refine wpAnyH_take (i := 36) (oi := { dst := some 92, op := Op.pick (Operand.tmp 78) (Operand.tmp 91) (Operand.const (Value.bool false)), type := 4, pos := "bag.go:446", after := #[{ on := 22, ground := Ground.data }, { on := 35, ground := Ground.data }, { on := 18, ground := Ground.guard }], guard := some (18, false) }) (v := ?_) rfl (by kernel_rfl) (by kernel_rfl) (by kernel_rfl) (fun _ _ _ h => h) (Or.inl ⟨by rfl, ?_⟩) (by assumption) ?_
                rotate_left
                · (intro w hSw; (try dsimp only at hSw); go_simp) <;> with_reducible rfl
                try simp only [Act.put, List.setIfInBounds_toArray, List.set_cons_zero, List.set_cons_succ]
                refine wpAnyH_take (i := 37) (oi := { dst := some 93, op := Op.pick (Operand.tmp 74) (Operand.const (Value.bool true)) (Operand.tmp 92), type := 4, pos := "bag.go:446", after := #[{ on := 18, ground := Ground.data }, { on := 36, ground := Ground.data }], guard := none }) (v := ?_) rfl (by kernel_rfl) (by kernel_rfl) (by kernel_rfl) (fun _ _ _ h => h) (Or.inl ⟨by rfl, ?_⟩) (by assumption) ?_
                rotate_left
                · (intro w hSw; (try dsimp only at hSw); go_simp) <;> with_reducible rfl
                try simp only [Act.put, List.setIfInBounds_toArray, List.set_cons_zero, List.set_cons_succ]
                refine wpAnyH_take (i := 38) (oi := { dst := some 94, op := Op.move (Operand.tmp 93), type := 4, pos := "bag.go:446", after := #[{ on := 37, ground := Ground.data }, { on := 33, ground := Ground.chain }], guard := none }) (v := ?_) rfl (by kernel_rfl) (by kernel_rfl) (by kernel_rfl) (fun _ _ _ h => h) (Or.inl ⟨by rfl, ?_⟩) (by assumption) ?_
                rotate_left
                · (intro w hSw; (try dsimp only at hSw); go_simp) <;> with_reducible rfl
                try simp only [Act.put, List.setIfInBounds_toArray, List.set_cons_zero, List.set_cons_succ]
                refine wpAnyH_take (i := 39) (oi := { dst := some 95, op := Op.move (Operand.tmp 11), type := 3, pos := "bag.go:446", after := #[{ on := 38, ground := Ground.guard }], guard := some (38, false) }) (v := ?_) rfl (by kernel_rfl) (by kernel_rfl) (by kernel_rfl) (fun _ _ _ h => h) (Or.inl ⟨by rfl, ?_⟩) (by assumption) ?_
                rotate_left
                · (intro w hSw; (try dsimp only at hSw); go_simp) <;> with_reducible rfl
                try simp only [Act.put, List.setIfInBounds_toArray, List.set_cons_zero, List.set_cons_succ]
                refine wpAnyH_take (i := 40) (oi := { dst := some 96, op := Op.move (Operand.tmp 10), type := 3, pos := "bag.go:446", after := #[{ on := 38, ground := Ground.guard }], guard := some (38, false) }) (v := ?_) rfl (by kernel_rfl) (by kernel_rfl) (by kernel_rfl) (fun _ _ _ h => h) (Or.inl ⟨by rfl, ?_⟩) (by assumption) ?_
                rotate_left
                · (intro w hSw; (try dsimp only at hSw); go_simp) <;> with_reducible rfl
                try simp only [Act.put, List.setIfInBounds_toArray, List.set_cons_zero, List.set_cons_succ]
                refine wpAnyH_take (i := 41) (oi := { dst := some 97, op := Op.binOp BinOp.geq 3 (Operand.tmp 95) (Operand.tmp 96) 3, type := 4, pos := "bag.go:446", after := #[{ on := 39, ground := Ground.data }, { on := 40, ground := Ground.data }, { on := 38, ground := Ground.guard }], guard := some (38, false) }) (v := ?_) rfl (by kernel_rfl) (by kernel_rfl) (by kernel_rfl) (fun _ _ _ h => h) (Or.inl ⟨by rfl, ?_⟩) (by assumption) ?_
                rotate_left
                · (intro w hSw; (try dsimp only at hSw); go_simp) <;> with_reducible rfl
                try simp only [Act.put, List.setIfInBounds_toArray, List.set_cons_zero, List.set_cons_succ]
                refine wpAnyH_take (i := 42) (oi := { dst := some 98, op := Op.move (Operand.tmp 97), type := 4, pos := "bag.go:446", after := #[{ on := 41, ground := Ground.data }, { on := 38, ground := Ground.chain }, { on := 38, ground := Ground.guard }], guard := some (38, false) }) (v := ?_) rfl (by kernel_rfl) (by kernel_rfl) (by kernel_rfl) (fun _ _ _ h => h) (Or.inl ⟨by rfl, ?_⟩) (by assumption) ?_
                rotate_left
                · (intro w hSw; (try dsimp only at hSw); go_simp) <;> with_reducible rfl
                try simp only [Act.put, List.setIfInBounds_toArray, List.set_cons_zero, List.set_cons_succ]
                refine wpAnyH_take (i := 43) (oi := { dst := some 99, op := Op.move (Operand.tmp 5), type := 45, pos := "bag.go:446", after := #[{ on := 42, ground := Ground.guard }], guard := some (42, true) }) (v := ?_) rfl (by kernel_rfl) (by kernel_rfl) (by kernel_rfl) (fun _ _ _ h => h) (Or.inl ⟨by rfl, ?_⟩) (by assumption) ?_
                rotate_left
                · (intro w hSw; (try dsimp only at hSw); go_simp) <;> with_reducible rfl
                try simp only [Act.put, List.setIfInBounds_toArray, List.set_cons_zero, List.set_cons_succ]
                refine wpAnyH_take (i := 44) (oi := { dst := some 100, op := Op.move (Operand.tmp 9), type := 3, pos := "bag.go:446", after := #[{ on := 42, ground := Ground.guard }], guard := some (42, true) }) (v := ?_) rfl (by kernel_rfl) (by kernel_rfl) (by kernel_rfl) (fun _ _ _ h => h) (Or.inl ⟨by rfl, ?_⟩) (by assumption) ?_
                rotate_left
                · (intro w hSw; (try dsimp only at hSw); go_simp) <;> with_reducible rfl
                try simp only [Act.put, List.setIfInBounds_toArray, List.set_cons_zero, List.set_cons_succ]
                refine wpAnyH_take (i := 45) (oi := { dst := some 101, op := Op.indexAddr 45 (Operand.tmp 99) (Operand.tmp 100), type := 0, pos := "bag.go:446", after := #[{ on := 43, ground := Ground.data }, { on := 44, ground := Ground.data }, { on := 42, ground := Ground.guard }], guard := some (42, true) }) (v := ?_) rfl (by kernel_rfl) (by kernel_rfl) (by kernel_rfl) (fun _ _ _ h => h) (Or.inl ⟨by rfl, ?_⟩) (by assumption) ?_
                rotate_left
                · (intro w hSw; (try dsimp only at hSw); go_simp) <;> with_reducible rfl
                try simp only [Act.put, List.setIfInBounds_toArray, List.set_cons_zero, List.set_cons_succ]
                refine wpAnyH_take (i := 46) (oi := { dst := some 102, op := Op.load 30 (Operand.tmp 101), type := 30, pos := "bag.go:446", after := #[{ on := 45, ground := Ground.data }, { on := 42, ground := Ground.guard }], guard := some (42, true) }) (v := ?_) rfl (by kernel_rfl) (by kernel_rfl) (by kernel_rfl) (fun _ _ _ h => h) (Or.inl ⟨by rfl, ?_⟩) (by assumption) ?_
                rotate_left
                · (intro w hSw; (try dsimp only at hSw); go_simp) <;> with_reducible rfl
                try simp only [Act.put, List.setIfInBounds_toArray, List.set_cons_zero, List.set_cons_succ]
                refine wpAnyH_take (i := 47) (oi := { dst := some 103, op := Op.move (Operand.tmp 11), type := 3, pos := "bag.go:446", after := #[{ on := 42, ground := Ground.guard }], guard := some (42, true) }) (v := ?_) rfl (by kernel_rfl) (by kernel_rfl) (by kernel_rfl) (fun _ _ _ h => h) (Or.inl ⟨by rfl, ?_⟩) (by assumption) ?_
                rotate_left
                · (intro w hSw; (try dsimp only at hSw); go_simp) <;> with_reducible rfl
                try simp only [Act.put, List.setIfInBounds_toArray, List.set_cons_zero, List.set_cons_succ]
                refine wpAnyH_take (i := 48) (oi := { dst := some 104, op := Op.indexAddr 30 (Operand.tmp 102) (Operand.tmp 103), type := 0, pos := "bag.go:446", after := #[{ on := 46, ground := Ground.data }, { on := 47, ground := Ground.data }, { on := 42, ground := Ground.guard }], guard := some (42, true) }) (v := ?_) rfl (by kernel_rfl) (by kernel_rfl) (by kernel_rfl) (fun _ _ _ h => h) (Or.inl ⟨by rfl, ?_⟩) (by assumption) ?_
                rotate_left
                · (intro w hSw; (try dsimp only at hSw); go_simp) <;> with_reducible rfl
                try simp only [Act.put, List.setIfInBounds_toArray, List.set_cons_zero, List.set_cons_succ]
                refine wpAnyH_take (i := 49) (oi := { dst := some 105, op := Op.fieldAddr 103 (Operand.tmp 104) 1, type := 0, pos := "bag.go:446", after := #[{ on := 48, ground := Ground.data }, { on := 42, ground := Ground.guard }], guard := some (42, true) }) (v := ?_) rfl (by kernel_rfl) (by kernel_rfl) (by kernel_rfl) (fun _ _ _ h => h) (Or.inl ⟨by rfl, ?_⟩) (by assumption) ?_
                rotate_left
                · (intro w hSw; (try dsimp only at hSw); go_simp) <;> with_reducible rfl
                try simp only [Act.put, List.setIfInBounds_toArray, List.set_cons_zero, List.set_cons_succ]
                refine wpAnyH_take (i := 50) (oi := { dst := some 106, op := Op.load 9 (Operand.tmp 105), type := 9, pos := "bag.go:446", after := #[{ on := 49, ground := Ground.data }, { on := 42, ground := Ground.guard }], guard := some (42, true) }) (v := ?_) rfl (by kernel_rfl) (by kernel_rfl) (by kernel_rfl) (fun _ _ _ h => h) (Or.inl ⟨by rfl, ?_⟩) (by assumption) ?_
                rotate_left
                · (intro w hSw; (try dsimp only at hSw); go_simp) <;> with_reducible rfl
                try simp only [Act.put, List.setIfInBounds_toArray, List.set_cons_zero, List.set_cons_succ]
                refine wpAnyH_take (i := 51) (oi := { dst := some 107, op := Op.move (Operand.tmp 9), type := 3, pos := "bag.go:446", after := #[{ on := 42, ground := Ground.guard }], guard := some (42, true) }) (v := ?_) rfl (by kernel_rfl) (by kernel_rfl) (by kernel_rfl) (fun _ _ _ h => h) (Or.inl ⟨by rfl, ?_⟩) (by assumption) ?_
                rotate_left
                · (intro w hSw; (try dsimp only at hSw); go_simp) <;> with_reducible rfl
                try simp only [Act.put, List.setIfInBounds_toArray, List.set_cons_zero, List.set_cons_succ]
                refine wpAnyH_take (i := 52) (oi := { dst := some 108, op := Op.binOp BinOp.sub 3 (Operand.const (Value.int IntKind.i64 (-2000000))) (Operand.tmp 107) 3, type := 3, pos := "bag.go:446", after := #[{ on := 51, ground := Ground.data }, { on := 42, ground := Ground.guard }], guard := some (42, true) }) (v := ?_) rfl (by kernel_rfl) (by kernel_rfl) (by kernel_rfl) (fun _ _ _ h => h) (Or.inl ⟨by rfl, ?_⟩) (by assumption) ?_
                rotate_left
                · (intro w hSw; (try dsimp only at hSw); go_simp; (rw [HR2.out]) <;> with_reducible rfl)
                try simp only [Act.put, List.setIfInBounds_toArray, List.set_cons_zero, List.set_cons_succ]
                refine wpAnyH_ready (rs := [53]) (by kernel_rfl) (by simp) ?_
                refine AllReadyH.cons (o := { dst := some 109, op := Op.call { callee := Callee.value (Operand.func 81), args := #[Operand.tmp 108], argTypes := #[3] }, type := 9, pos := "bag.go:446", after := #[{ on := 52, ground := Ground.data }, { on := 42, ground := Ground.chain }, { on := 42, ground := Ground.guard }], guard := some (42, true) }) rfl (fun K hK => ?_) AllReadyH.nil
                go_simp
                refine (mark_is _ _ (by omega) (by omega) (HTb.out _ HKc.out)).mono ?_
                rintro e wc ⟨rfl, hb⟩
                have HKd : Hid (Kept wo wc (fun _ => False)) := HKc.out.trans (below_new hb) (fun _ _ h => h)
                clear hHeld hb HKc
                have HKc := HKd
                clear HKd
                refine hK.out _ _ (HS.out _ HKc.out) (fun hHeld => ?_)
                clear hK K
                refine wpAnyH_take (i := 54) (oi := { dst := some 110, op := Op.binOp BinOp.eql 9 (Operand.tmp 106) (Operand.tmp 109) 9, type := 4, pos := "bag.go:446", after := #[{ on := 50, ground := Ground.data }, { on := 53, ground := Ground.data }, { on := 42, ground := Ground.guard }], guard := some (42, true) }) (v := ?_) rfl (by kernel_rfl) (by kernel_rfl) (by kernel_rfl) (fun _ _ _ h => h) (Or.inl ⟨by rfl, ?_⟩) (by assumption) ?_
                rotate_left
                · (intro w hSw; (try dsimp only at hSw); go_simp) <;> with_reducible rfl
                try simp only [Act.put, List.setIfInBounds_toArray, List.set_cons_zero, List.set_cons_succ]
                refine wpAnyH_take (i := 55) (oi := { dst := some 111, op := Op.unOp UnOp.not 4 (Operand.tmp 110), type := 4, pos := "bag.go:446", after := #[{ on := 54, ground := Ground.data }, { on := 42, ground := Ground.guard }], guard := some (42, true) }) (v := ?_) rfl (by kernel_rfl) (by kernel_rfl) (by kernel_rfl) (fun _ _ _ h => h) (Or.inl ⟨by rfl, ?_⟩) (by assumption) ?_
                rotate_left
                · (intro w hSw; (try dsimp only at hSw); go_simp) <;> with_reducible rfl
                try simp only [Act.put, List.setIfInBounds_toArray, List.set_cons_zero, List.set_cons_succ]
                refine wpAnyH_take (i := 56) (oi := { dst := some 112, op := Op.pick (Operand.tmp 98) (Operand.tmp 111) (Operand.const (Value.bool false)), type := 4, pos := "bag.go:446", after := #[{ on := 42, ground := Ground.data }, { on := 55, ground := Ground.data }, { on := 38, ground := Ground.guard }], guard := some (38, false) }) (v := ?_) rfl (by kernel_rfl) (by kernel_rfl) (by kernel_rfl) (fun _ _ _ h => h) (Or.inl ⟨by rfl, ?_⟩) (by assumption) ?_
                rotate_left
                · (intro w hSw; (try dsimp only at hSw); go_simp) <;> with_reducible rfl
                try simp only [Act.put, List.setIfInBounds_toArray, List.set_cons_zero, List.set_cons_succ]
                refine wpAnyH_take (i := 57) (oi := { dst := some 113, op := Op.pick (Operand.tmp 94) (Operand.const (Value.bool true)) (Operand.tmp 112), type := 4, pos := "bag.go:446", after := #[{ on := 38, ground := Ground.data }, { on := 56, ground := Ground.data }], guard := none }) (v := ?_) rfl (by kernel_rfl) (by kernel_rfl) (by kernel_rfl) (fun _ _ _ h => h) (Or.inl ⟨by rfl, ?_⟩) (by assumption) ?_
                rotate_left
                · (intro w hSw; (try dsimp only at hSw); go_simp) <;> with_reducible rfl
                try simp only [Act.put, List.setIfInBounds_toArray, List.set_cons_zero, List.set_cons_succ]
                refine wpAnyH_done (by kernel_rfl) ?_ _
                go_wp2
                go_roundw
                case rel => exact ⟨k + 1, by omega, by go_num, HKc⟩
                case measure => simp [intOf]; omega
            · have d3 : decide ((k : Int) < (n : Int) + (c : Int)) = false := by rw [decide_eq_false_iff_not]; omega
              go_wp2
              go_roundw
              case rel => exact ⟨i + 1, by omega, by go_num, HK⟩
              case measure => simp [intOf]; omega
        · have d2 : decide ((i : Int) < (rs.length : Int)) = false := by simp; omega
          go_wp2
          go_ret
          exact ⟨rfl, HB.out.kept.trans HK.out (fun _ _ h => h.elim), fun j hj => row_kept (HB.out.rows j hj) HK.out (fun _ _ h => h)⟩

end Go.Proofs.YtoeialngbbfoeaaGreatDoor
