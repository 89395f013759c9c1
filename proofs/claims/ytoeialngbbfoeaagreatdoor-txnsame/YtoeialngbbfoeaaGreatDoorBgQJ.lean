/- lagoonref00's grownRequests, apartRequests: lists that lie apart, whose elements bear a number as their mark, share no memory. -/
import Derived.Test.YtoeialngbbfoeaaGreatDoorBqAJ
namespace Go.Proofs.YtoeialngbbfoeaaGreatDoor
open Go.RowKit Go.Shelf
set_option maxRecDepth 8000

theorem Tryz.infoRqL : (Tryz.prog.info? 31).map (fun i => (i.zero, i.size, i.bytes)) = some (some (.slice none 0 0), 1, 24) := by kernel_rfl
theorem Tryz.infoRqB : (Tryz.prog.info? 33).map (fun i => (i.zero, i.size, i.bytes)) = some (some (.agg #[.int .i8 0, .string ⟨#[]⟩, .slice none 0 0, .slice none 0 0, .int .i32 0, .bool false, .bool false, .int .i64 0, .int .i32 0, .slice none 0 0, .slice none 0 0]), 11, 144) := by kernel_rfl

set_option maxHeartbeats 4000000 in
theorem grownRequests_any (lv : Value) (rs : List Rw) (Xs : Nat → List Value) (c : Nat) (w : World) (hv : SeesL w 31 lv rs) (hr : RowsR w 33 11 rs Xs) (hap : ApartR rs) (hmk : ∀ j (hj : j < rs.length), Mk 11 7 rs[j].n (.int .i64 (-1000000 - (j : Int))) (Xs j)) (hc : c ≤ 64) (hn : rs.length ≤ 600) (hb : ∀ j (hj : j < rs.length), rs[j].n ≤ 1100000000) :
    Calls Tryz.prog 88 #[lv, .int .i64 (c : Int)] w fun e w' => e = .returned (.bool true) ∧ Kept w w' (BlkR rs) ∧ RowsR w' 33 11 rs Xs := by
  have HA : Hid (SeesL w 31 lv rs ∧ RowsR w 33 11 rs Xs ∧ ApartR rs ∧ (∀ j (hj : j < rs.length), Mk 11 7 rs[j].n (.int .i64 (-1000000 - (j : Int))) (Xs j)) ∧ (∀ j (hj : j < rs.length), rs[j].n ≤ 1100000000)) := ⟨hv, hr, hap, hmk, hb⟩
  obtain ⟨i0, hi, hz0, hz1, hz2⟩ := info3B Tryz.infoRqB
  obtain ⟨i1, gi, gz0, gz1, gz2⟩ := info3B Tryz.infoRqL
  obtain ⟨ao, cap, rfl, hlc, h3⟩ := hv
  have HC : Hid (∀ wr, Kept w wr (BlkR rs) → ∀ j (hj : j < rs.length), ∃ b off, ao = some ⟨b, off, none⟩ ∧ wr.cell? ⟨b, off + j, none⟩ = some rs[j].v) := fun wr hk j hj => by
    obtain ⟨ao', cap', e, _, h5⟩ := HA.out.1.kept HA.out.2.1 (by decide) hk
    obtain ⟨b, off, e2, _, h6⟩ := h5 (by intro e; rw [e] at hj; simp at hj)
    simp only [Value.slice.injEq, true_and] at e
    exact ⟨b, off, e.1.trans e2, h6 j hj⟩
  clear hr hap hmk hb h3
  go_enter Tryz.func88, Tryz.ntmps88
  go_wp2
  go_loopw [5, 6] (fun mv vi wr => ∃ (i : Nat) (ms : List Value), i ≤ rs.length ∧ vi = .int .i64 (i : Int) ∧ Hid (Bd w wr 33 31 11 7 rs Xs (fun j => .int .i64 (-2000000 - (j : Int))) c i mv ms)) (fun _ vi _ => rs.length - (intOf vi).toNat)
  case atStart => exact ⟨0, [], Nat.zero_le _, rfl, Bd.start HA.out.2.1⟩
  case round =>
    obtain ⟨i, ms, hil, rfl, HB⟩ := hrel
    obtain ⟨wo, hwo⟩ : ∃ wo, wo = wr := ⟨_, rfl⟩
    subst hwo
    obtain ⟨mo, mc, rfl⟩ := row_val HB.out.more
    by_cases hlt : i < rs.length
    · have d0 : decide ((i : Int) < (rs.length : Int)) = true := by simp; omega
      obtain ⟨b, off, rfl, hcl⟩ := HC.out wo HB.out.kept i hlt
      have hrow := HB.out.rows i hlt
      have hrow0 := HA.out.2.1 i hlt
      have hbn := HA.out.2.2.2.2 i hlt
      obtain ⟨va, vn, vc, hvv⟩ := row_form hrow
      have HV : Hid (rs[i].v = .slice va vn vc) := hvv
      rw [hvv] at hcl
      have HR0 : Hid (wo.ownsRow 0 33 11 rs[i].v rs[i].n (Xs i) ∧ w.ownsRow 0 33 11 rs[i].v rs[i].n (Xs i)) := ⟨hrow, hrow0⟩
      clear hrow hrow0 hvv
      go_wp2
      go_loopw [7, 8] (fun m vk wr => ∃ t : Nat, t ≤ c ∧ vk = .int .i64 (t : Int) ∧ Hid (Gw wo wr 33 11 7 rs[i].v rs[i].n (Xs i) (.int .i64 (-2000000 - (i : Int))) t m)) (fun _ vk _ => c - (intOf vk).toNat)
      case atStart => exact ⟨0, Nat.zero_le _, rfl, by rw [← HV.out]; exact Gw.start _ HR0.out.1⟩
      case round =>
        obtain ⟨t, htc, rfl, HG⟩ := hrel
        obtain ⟨xa, xn, xc, rfl⟩ : ∃ a n c, u7 = .slice a n c := by
          obtain ⟨ys, h1, _⟩ := HG.out.ys
          exact row_form h1
        by_cases htl : t < c
        · have d1 : decide ((t : Int) < (c : Int)) = true := by simp; omega
          have HG1 := HG.out.next ((Kept.refl wr _).alloc (.cells [.int .i8 0, .string ⟨#[]⟩, .slice none 0 0, .slice none 0 0, .int .i32 0, .bool false, .bool false, .int .i64 (-2000000 - (i : Int)), .int .i32 0, .slice none 0 0, .slice none 0 0].toArray 33))
          obtain ⟨ys, hy1, hy2, hy3⟩ := HG1.ys
          obtain ⟨v', w', hr, ho, hgr, hcase⟩ := app_row (P := Tryz.prog) 0 31 31 33 i0 (.agg #[.int .i8 0, .string ⟨#[]⟩, .slice none 0 0, .slice none 0 0, .int .i32 0, .bool false, .bool false, .int .i64 0, .int .i32 0, .slice none 0 0, .slice none 0 0]) 11 144 Tryz.underlying31 hi hz0 hz1 hz2 rfl (by decide) _ _ _ hy1 wr.heap.size [.int .i8 0, .string ⟨#[]⟩, .slice none 0 0, .slice none 0 0, .int .i32 0, .bool false, .bool false, .int .i64 (-2000000 - (i : Int)), .int .i32 0, .slice none 0 0, .slice none 0 0] rfl (heap_alloc_new _ _) (by simp [Value.oneCell']) (by omega) (by decide) (Nat.zero_le _)
          have HN : Hid (Gw wo w' 33 11 7 rs[i].v rs[i].n (Xs i) (.int .i64 (-2000000 - (i : Int))) (t + 1) v') := HG1.more (fun g hg => row_lt HR0.out.1 hg) HR0.out.1.1 rfl (by decide) rfl (fun ys' h' => by
            have e2 : ys' = ys := by
              have := own_same h' hy1
              exact List.append_cancel_left this
            rw [e2]
            exact ho) hgr hcase
          clear HG1 hy1 hy2 hy3 ho hgr hcase HG
          go_wp2_with (at_builtin; refine Lib.wpList_append_run_sl _ rfl _ _ 31 rfl _ _ rfl rfl hr ?_)
          go_roundw
          case rel => exact ⟨t + 1, by omega, by go_num, HN⟩
          case measure => simp [intOf]; omega
        · have d1 : decide ((t : Int) < (c : Int)) = false := by simp; omega
          obtain rfl : t = c := by omega
          have hk1 : Kept wr (wr.alloc (.cells #[.slice xa xn xc] 31)) (fun _ => False) := (Kept.refl wr _).alloc _
          have HG1 := HG.out.next hk1
          have hmo : (wr.alloc (.cells #[.slice xa xn xc] 31)).ownsRow w.heap.size 31 1 (.slice mo i mc) i ms := row_kept (row_kept HB.out.more HG.out.kept (fun g hg e => by
            have h1 := row_lt HR0.out.2 e
            have h2 := row_base HB.out.more hg
            omega)) hk1 (fun _ _ h => h)
          obtain ⟨v', w', hr, ho, hgr, _⟩ := app_row (P := Tryz.prog) w.heap.size 47 47 31 i1 (.slice none 0 0) 1 24 Tryz.underlying47 gi gz0 gz1 gz2 rfl (by decide) _ _ _ hmo wr.heap.size [.slice xa xn xc] rfl (heap_alloc_new _ _) (by simp [Value.oneCell']) (by omega) (by decide) (Nat.le_trans HB.out.kept.size (Nat.le_trans HG.out.kept.size hk1.size))
          have HN : Hid (Bd w w' 33 31 11 7 rs Xs (fun j => .int .i64 (-2000000 - (j : Int))) t (i + 1) v' (ms ++ [.slice xa xn xc])) := HB.out.step (by decide) HA.out.2.1 HA.out.2.2.1 hlt HG1 ho hgr
          clear hmo ho hgr HG1 hk1 HG
          go_wp2_with (at_builtin; refine Lib.wpList_append_run_sl _ rfl _ _ 47 rfl _ _ rfl rfl hr ?_)
          go_roundw
          case rel => exact ⟨i + 1, _, by omega, by go_num, HN⟩
          case measure => simp [intOf]; omega
    · have d0 : decide ((i : Int) < (rs.length : Int)) = false := by simp; omega
      obtain rfl : i = rs.length := by omega
      have HCo : Hid (∀ w', Kept wo w' (fun _ => False) → ∀ j (hj : j < rs.length), ∃ b off, ao = some ⟨b, off, none⟩ ∧ w'.cell? ⟨b, off + j, none⟩ = some rs[j].v) := fun w' hk => HC.out w' (HB.out.kept.trans hk (fun _ _ h => h.elim))
      go_wp2
      go_loopw [9] (fun vi wr => ∃ i : Nat, i ≤ rs.length ∧ vi = .int .i64 (i : Int) ∧ Hid (Kept wo wr (fun _ => False))) (fun vi _ => rs.length - (intOf vi).toNat)
      case atStart => exact ⟨0, Nat.zero_le _, rfl, Kept.refl _ _⟩
      case round =>
        obtain ⟨i, hil2, rfl, HK⟩ := hrel
        by_cases hlt2 : i < rs.length
        · have d2 : decide ((i : Int) < (rs.length : Int)) = true := by simp; omega
          have hml : i < ms.length := by rw [HB.out.len]; exact hlt2
          obtain ⟨b, off, rfl, hcl⟩ := HCo.out wr HK.out i hlt2
          have HCl : Hid (∀ w', Kept wo w' (fun _ => False) → w'.cell? ⟨b, off + i, none⟩ = some rs[i].v) := fun w' hk => by
            obtain ⟨b', off', e, h⟩ := HCo.out w' hk i hlt2
            simp only [Option.some.injEq, Addr.mk.injEq, and_true] at e
            rw [e.1, e.2]
            exact h
          obtain ⟨ys, hn1, hn2⟩ := HB.out.news i hlt2 hml
          have hr1 := HB.out.rows i hlt2
          have hmk1 := HA.out.2.2.2.1 i hlt2
          have hbn := HA.out.2.2.2.2 i hlt2
          obtain ⟨va, vc, hvv⟩ := row_val hr1
          obtain ⟨ma, mc2, hmm⟩ := row_val hn1
          obtain ⟨gm, hgm, hgc⟩ := row_first HB.out.more (by omega)
          have HGm : Hid (∀ w', Kept wo w' (fun _ => False) → w'.cell? ⟨gm, i, none⟩ = some ms[i]) := fun w' hk => hk.cell (by
            rw [hgc i (by omega), List.getElem?_eq_getElem hml]) (fun h => h)
          obtain ⟨mx, hmx⟩ : ∃ mx, mx = ms[i] := ⟨_, rfl⟩
          rw [← hmx] at HGm hn1 hmm
          obtain ⟨vx, hvx⟩ : ∃ vx, vx = rs[i].v := ⟨_, rfl⟩
          rw [← hvx] at HCl hcl hr1 hvv
          obtain ⟨n, hnn⟩ : ∃ n, n = rs[i].n := ⟨_, rfl⟩
          rw [← hnn] at hr1 hn1 hmk1 hbn hvv hmm
          subst hvv hmm hgm
          have HRo : Hid (wo.ownsRow 0 33 11 (.slice va n vc) n (Xs i) ∧ Mk 11 7 n (.int .i64 (-1000000 - (i : Int))) (Xs i) ∧ wo.ownsRow 0 33 11 (.slice ma (n + c) mc2) (n + c) (Xs i ++ ys) ∧ Mk 11 7 c (.int .i64 (-2000000 - (i : Int))) ys) := ⟨hr1, hmk1, hn1, hn2⟩
          clear hr1 hmk1 hn1 hn2 hmx hvx hnn hgc
          go_wp2
          go_loopw [11] (fun vk wr => ∃ k : Nat, k ≤ n + c ∧ vk = .int .i64 (k : Int) ∧ Hid (Kept wo wr (fun _ => False))) (fun vk _ => n + c - (intOf vk).toNat)
          case atStart => exact ⟨0, Nat.zero_le _, rfl, HK⟩
          case round =>
            clear hcl HK
            obtain ⟨k, hkl, rfl, HK⟩ := hrel
            by_cases hkn : k < n + c
            · have d3 : decide ((k : Int) < (n : Int) + (c : Int)) = true := by simp; omega
              obtain ⟨mb, hmb, hmc⟩ := row_first HRo.out.2.2.1 (by omega)
              subst hmb
              have s1 := HCl.out wr HK.out
              have s2 := HGm.out wr HK.out
              by_cases hkn2 : k < n
              · have b1 : decide ((k : Int) < (n : Int)) = true := by simp; omega
                have b2 : decide ((n : Int) ≤ (k : Int)) = false := by rw [decide_eq_false_iff_not]; omega
                obtain ⟨vb, hvb, hvc⟩ := row_first HRo.out.1 (by omega)
                subst hvb
                have s3 : wr.cell? ⟨vb, k * 11 + 7, none⟩ = some (.int .i64 (-1000000 - (i : Int))) := HK.out.cell (by
                  rw [hvc _ (by have := Nat.mul_le_mul_right 11 (show k + 1 ≤ n from hkn2); omega)]
                  exact HRo.out.2.1 k hkn2) (fun h => h)
                have s4 : wr.cell? ⟨mb, k * 11 + 7, none⟩ = some (.int .i64 (-1000000 - (i : Int))) := HK.out.cell (by
                  rw [hmc _ (by have := Nat.mul_le_mul_right 11 (show k + 1 ≤ n + c from hkn); omega)]
                  exact HRo.out.2.1.left HRo.out.1.1 (by decide) k hkn2) (fun h => h)
                clear hvc hmc
                go_wp2
                go_roundw
                case rel => exact ⟨k + 1, by omega, by go_num, HK⟩
                case measure => simp [intOf]; omega
              · have b1 : decide ((k : Int) < (n : Int)) = false := by rw [decide_eq_false_iff_not]; omega
                have b2 : decide ((n : Int) ≤ (k : Int)) = true := by simp; omega
                have s4 : wr.cell? ⟨mb, k * 11 + 7, none⟩ = some (.int .i64 (-2000000 - (i : Int))) := HK.out.cell (by
                  rw [hmc _ (by have := Nat.mul_le_mul_right 11 (show k + 1 ≤ n + c from hkn); omega)]
                  exact HRo.out.2.2.2.right HRo.out.1.1 (by omega) hkn) (fun h => h)
                clear hmc
                go_wp2
                go_roundw
                case rel => exact ⟨k + 1, by omega, by go_num, HK⟩
                case measure => simp [intOf]; omega
            · have d3 : decide ((k : Int) < (n : Int) + (c : Int)) = false := by rw [decide_eq_false_iff_not]; omega
              go_wp2
              go_roundw
              case rel => exact ⟨i + 1, by omega, by go_num, HK⟩
              case measure => simp [intOf]; omega
        · have d2 : decide ((i : Int) < (rs.length : Int)) = false := by simp; omega
          go_wp2
          go_ret
          exact ⟨rfl, HB.out.kept.trans HK.out (fun _ _ h => h.elim), fun j hj => row_kept (HB.out.rows j hj) HK.out (fun _ _ h => h)⟩

set_option maxHeartbeats 4000000 in
theorem apartRequests_any (lv : Value) (rs : List Rw) (Xs0 : Nat → List Value) (w : World) (hv : SeesL w 31 lv rs) (hr : RowsR w 33 11 rs Xs0) (hap : ApartR rs) (hn : rs.length ≤ 600) (hb : ∀ j (hj : j < rs.length), rs[j].n ≤ 1100000000) :
    Calls Tryz.prog 36 #[lv] w fun e w' => e = .returned (.bool true) ∧ Kept w w' (BlkR rs) ∧ ∃ Xs, RowsR w' 33 11 rs Xs := by
  have HA : Hid (SeesL w 31 lv rs ∧ RowsR w 33 11 rs Xs0 ∧ ApartR rs ∧ (∀ j (hj : j < rs.length), rs[j].n ≤ 1100000000)) := ⟨hv, hr, hap, hb⟩
  obtain ⟨ao, cap, rfl, hlc, h3⟩ := hv
  have HC : Hid (∀ wr, Kept w wr (BlkR rs) → ∀ j (hj : j < rs.length), ∃ b off, ao = some ⟨b, off, none⟩ ∧ wr.cell? ⟨b, off + j, none⟩ = some rs[j].v) := fun wr hk j hj => by
    obtain ⟨ao', cap', e, _, h5⟩ := HA.out.1.kept HA.out.2.1 (by decide) hk
    obtain ⟨b, off, e2, _, h6⟩ := h5 (by intro e; rw [e] at hj; simp at hj)
    simp only [Value.slice.injEq, true_and] at e
    exact ⟨b, off, e.1.trans e2, h6 j hj⟩
  clear hr hap hb h3
  go_enter Tryz.func36, Tryz.ntmps36
  go_wp2
  go_loopw [3] (fun vi wr => ∃ i : Nat, i ≤ rs.length ∧ vi = .int .i64 (i : Int) ∧ Hid (∃ Xs, Fd w wr 33 11 7 rs (fun j => .int .i64 (-1000000 - (j : Int))) i 0 Xs)) (fun vi _ => rs.length - (intOf vi).toNat)
  case atStart => exact ⟨0, Nat.zero_le _, rfl, _, Fd.start HA.out.2.1⟩
  case round =>
    obtain ⟨i, hil, rfl, HE⟩ := hrel
    by_cases hlt : i < rs.length
    · have d0 : decide ((i : Int) < (rs.length : Int)) = true := by simp; omega
      obtain ⟨wo, hwo⟩ : ∃ wo, wo = wr := ⟨_, rfl⟩
      subst hwo
      obtain ⟨b, off, rfl, hcl⟩ := HC.out wo HE.out.choose_spec.2.2.2 i hlt
      have HCl0 : Hid (∀ w', Kept w w' (BlkR rs) → w'.cell? ⟨b, off + i, none⟩ = some rs[i].v) := fun w' hk => by
        obtain ⟨b', off', e, h⟩ := HC.out w' hk i hlt
        simp only [Option.some.injEq, Addr.mk.injEq, and_true] at e
        rw [e.1, e.2]
        exact h
      obtain ⟨va, vc, hvv⟩ := row_val (HA.out.2.1 i hlt)
      have hbn := HA.out.2.2.2 i hlt
      obtain ⟨n, hnn⟩ : ∃ n, n = rs[i].n := ⟨_, rfl⟩
      rw [← hnn] at hvv hbn
      have HV0 : Hid (rs[i].v = .slice va n vc) := hvv
      have HN : Hid (n = rs[i].n) := hnn
      clear hcl hvv hnn
      go_wp2
      go_loopw [4] (fun vk wr => ∃ k : Nat, k ≤ n ∧ vk = .int .i64 (k : Int) ∧ Hid (∃ Xs, Fd w wr 33 11 7 rs (fun j => .int .i64 (-1000000 - (j : Int))) i k Xs)) (fun vk _ => n - (intOf vk).toNat)
      case atStart => exact ⟨0, Nat.zero_le _, rfl, HE.out⟩
      case round =>
        obtain ⟨k, hkn, rfl, HE2⟩ := hrel
        obtain ⟨Xs, hF⟩ := HE2.out
        have hcl := HCl0.out wr hF.2.2.2
        rw [HV0.out] at hcl
        by_cases hkl : k < n
        · have d1 : decide ((k : Int) < (n : Int)) = true := by simp; omega
          obtain ⟨g, hg, hrf⟩ := row_first (by have := hF.1 i hlt; rw [HV0.out, ← HN.out] at this; exact this) (show 0 < n by omega)
          subst hg
          clear hrf
          have hown := hF.1 i hlt
          rw [HV0.out, ← HN.out] at hown
          have hlen := hown.1
          obtain ⟨u0, hu0⟩ : ∃ u, wr.cell? ⟨g, k * 11, none⟩ = some u := ⟨(Xs i)[k * 11]'(by omega), by rw [hown.cellAt _ (by omega), List.getElem?_eq_getElem (by omega)]⟩
          have hfz0 := hown.frozenAt (k * 11)
          obtain ⟨u1, hu1⟩ : ∃ u, wr.cell? ⟨g, k * 11 + 1, none⟩ = some u := ⟨(Xs i)[k * 11 + 1]'(by omega), by rw [hown.cellAt _ (by omega), List.getElem?_eq_getElem (by omega)]⟩
          have hfz1 := hown.frozenAt (k * 11 + 1)
          obtain ⟨u2, hu2⟩ : ∃ u, wr.cell? ⟨g, k * 11 + 2, none⟩ = some u := ⟨(Xs i)[k * 11 + 2]'(by omega), by rw [hown.cellAt _ (by omega), List.getElem?_eq_getElem (by omega)]⟩
          have hfz2 := hown.frozenAt (k * 11 + 2)
          obtain ⟨u3, hu3⟩ : ∃ u, wr.cell? ⟨g, k * 11 + 3, none⟩ = some u := ⟨(Xs i)[k * 11 + 3]'(by omega), by rw [hown.cellAt _ (by omega), List.getElem?_eq_getElem (by omega)]⟩
          have hfz3 := hown.frozenAt (k * 11 + 3)
          obtain ⟨u4, hu4⟩ : ∃ u, wr.cell? ⟨g, k * 11 + 4, none⟩ = some u := ⟨(Xs i)[k * 11 + 4]'(by omega), by rw [hown.cellAt _ (by omega), List.getElem?_eq_getElem (by omega)]⟩
          have hfz4 := hown.frozenAt (k * 11 + 4)
          obtain ⟨u5, hu5⟩ : ∃ u, wr.cell? ⟨g, k * 11 + 5, none⟩ = some u := ⟨(Xs i)[k * 11 + 5]'(by omega), by rw [hown.cellAt _ (by omega), List.getElem?_eq_getElem (by omega)]⟩
          have hfz5 := hown.frozenAt (k * 11 + 5)
          obtain ⟨u6, hu6⟩ : ∃ u, wr.cell? ⟨g, k * 11 + 6, none⟩ = some u := ⟨(Xs i)[k * 11 + 6]'(by omega), by rw [hown.cellAt _ (by omega), List.getElem?_eq_getElem (by omega)]⟩
          have hfz6 := hown.frozenAt (k * 11 + 6)
          obtain ⟨u7, hu7⟩ : ∃ u, wr.cell? ⟨g, k * 11 + 7, none⟩ = some u := ⟨(Xs i)[k * 11 + 7]'(by omega), by rw [hown.cellAt _ (by omega), List.getElem?_eq_getElem (by omega)]⟩
          have hfz7 := hown.frozenAt (k * 11 + 7)
          obtain ⟨u8, hu8⟩ : ∃ u, wr.cell? ⟨g, k * 11 + 8, none⟩ = some u := ⟨(Xs i)[k * 11 + 8]'(by omega), by rw [hown.cellAt _ (by omega), List.getElem?_eq_getElem (by omega)]⟩
          have hfz8 := hown.frozenAt (k * 11 + 8)
          obtain ⟨u9, hu9⟩ : ∃ u, wr.cell? ⟨g, k * 11 + 9, none⟩ = some u := ⟨(Xs i)[k * 11 + 9]'(by omega), by rw [hown.cellAt _ (by omega), List.getElem?_eq_getElem (by omega)]⟩
          have hfz9 := hown.frozenAt (k * 11 + 9)
          obtain ⟨u10, hu10⟩ : ∃ u, wr.cell? ⟨g, k * 11 + 10, none⟩ = some u := ⟨(Xs i)[k * 11 + 10]'(by omega), by rw [hown.cellAt _ (by omega), List.getElem?_eq_getElem (by omega)]⟩
          have hfz10 := hown.frozenAt (k * 11 + 10)
          have R0 := hown.stored (k * 11) (.int .i8 0)
          have R1 := R0.1.stored (k * 11 + 1) (.string ⟨#[]⟩)
          have R2 := R1.1.stored (k * 11 + 2) (.slice none 0 0)
          have R3 := R2.1.stored (k * 11 + 3) (.slice none 0 0)
          have R4 := R3.1.stored (k * 11 + 4) (.int .i32 0)
          have R5 := R4.1.stored (k * 11 + 5) (.bool false)
          have R6 := R5.1.stored (k * 11 + 6) (.bool false)
          have R7 := R6.1.stored (k * 11 + 7) (.int .i64 (-1000000 - (i : Int)))
          have R8 := R7.1.stored (k * 11 + 8) (.int .i32 0)
          have R9 := R8.1.stored (k * 11 + 9) (.slice none 0 0)
          have R10 := R9.1.stored (k * 11 + 10) (.slice none 0 0)
          have hgr : wr.grownBy ((((((((((((wr.setCell ⟨g, k * 11, none⟩ (.int .i8 0)).setCell ⟨g, k * 11 + 1, none⟩ (.string ⟨#[]⟩)).setCell ⟨g, k * 11 + 2, none⟩ (.slice none 0 0)).setCell ⟨g, k * 11 + 3, none⟩ (.slice none 0 0)).setCell ⟨g, k * 11 + 4, none⟩ (.int .i32 0)).setCell ⟨g, k * 11 + 5, none⟩ (.bool false)).setCell ⟨g, k * 11 + 6, none⟩ (.bool false)).setCell ⟨g, k * 11 + 7, none⟩ (.int .i64 (-1000000 - (i : Int)))).setCell ⟨g, k * 11 + 8, none⟩ (.int .i32 0)).setCell ⟨g, k * 11 + 9, none⟩ (.slice none 0 0)).setCell ⟨g, k * 11 + 10, none⟩ (.slice none 0 0))) (some g) := ((((((((((R0.2).trans R1.2).trans R2.2).trans R3.2).trans R4.2).trans R5.2).trans R6.2).trans R7.2).trans R8.2).trans R9.2).trans R10.2
          have hMk : Mk 11 7 (k + 1) (.int .i64 (-1000000 - (i : Int))) ((((((((((((Xs i).set (k * 11) (.int .i8 0)).set (k * 11 + 1) (.string ⟨#[]⟩)).set (k * 11 + 2) (.slice none 0 0)).set (k * 11 + 3) (.slice none 0 0)).set (k * 11 + 4) (.int .i32 0)).set (k * 11 + 5) (.bool false)).set (k * 11 + 6) (.bool false)).set (k * 11 + 7) (.int .i64 (-1000000 - (i : Int)))).set (k * 11 + 8) (.int .i32 0)).set (k * 11 + 9) (.slice none 0 0)).set (k * 11 + 10) (.slice none 0 0)) := by
            intro j hj
            by_cases hjk : j < k
            · rw [List.getElem?_set_ne (by omega), List.getElem?_set_ne (by omega), List.getElem?_set_ne (by omega), List.getElem?_set_ne (by omega), List.getElem?_set_ne (by omega), List.getElem?_set_ne (by omega), List.getElem?_set_ne (by omega), List.getElem?_set_ne (by omega), List.getElem?_set_ne (by omega), List.getElem?_set_ne (by omega), List.getElem?_set_ne (by omega)]
              exact hF.2.2.1 j hjk
            · obtain rfl : j = k := by omega
              rw [List.getElem?_set_ne (by omega), List.getElem?_set_ne (by omega), List.getElem?_set_ne (by omega), List.getElem?_set_self (by (try simp only [List.length_set]); omega)]
          have HF2 : Hid (Fd w ((((((((((((wr.setCell ⟨g, k * 11, none⟩ (.int .i8 0)).setCell ⟨g, k * 11 + 1, none⟩ (.string ⟨#[]⟩)).setCell ⟨g, k * 11 + 2, none⟩ (.slice none 0 0)).setCell ⟨g, k * 11 + 3, none⟩ (.slice none 0 0)).setCell ⟨g, k * 11 + 4, none⟩ (.int .i32 0)).setCell ⟨g, k * 11 + 5, none⟩ (.bool false)).setCell ⟨g, k * 11 + 6, none⟩ (.bool false)).setCell ⟨g, k * 11 + 7, none⟩ (.int .i64 (-1000000 - (i : Int)))).setCell ⟨g, k * 11 + 8, none⟩ (.int .i32 0)).setCell ⟨g, k * 11 + 9, none⟩ (.slice none 0 0)).setCell ⟨g, k * 11 + 10, none⟩ (.slice none 0 0))) 33 11 7 rs (fun j => .int .i64 (-1000000 - (j : Int))) i (k + 1) (fun j => if j = i then _ else Xs j)) := hF.store HA.out.2.2.1 hlt (by rw [HV0.out]; rfl) (by rw [HV0.out, ← HN.out]; exact R10.1) hgr hMk
          clear hF HE2 HE hown hlen hgr hMk R0 R1 R2 R3 R4 R5 R6 R7 R8 R9 R10
          go_wp2
          go_roundw
          case rel => exact ⟨k + 1, by omega, by go_num, _, HF2.out⟩
          case measure => simp [intOf]; omega
        · have d1 : decide ((k : Int) < (n : Int)) = false := by simp; omega
          have HF2 : Hid (∃ Xs, Fd w wr 33 11 7 rs (fun j => .int .i64 (-1000000 - (j : Int))) (i + 1) 0 Xs) := ⟨Xs, hF.turn hlt (by rw [← HN.out]; omega)⟩
          clear hF
          go_wp2
          go_roundw
          case rel => exact ⟨i + 1, by omega, by go_num, HF2⟩
          case measure => simp [intOf]; omega
    · have d0 : decide ((i : Int) < (rs.length : Int)) = false := by simp; omega
      obtain rfl : i = rs.length := by omega
      obtain ⟨Xs, hF⟩ := HE.out
      have hmk : ∀ j (hj : j < rs.length), Mk 11 7 rs[j].n (.int .i64 (-1000000 - (j : Int))) (Xs j) := fun j hj => hF.2.1 j hj hj
      have G1 := grownRequests_any _ rs Xs 1 wr (HA.out.1.kept HA.out.2.1 (by decide) hF.2.2.2) hF.1 HA.out.2.2.1 hmk (by decide) hn HA.out.2.2.2
      have HF : Hid (Kept w wr (BlkR rs)) := hF.2.2.2
      clear hF
      go_wp2_with fail
      go_at_call 88
      refine G1.mono ?_
      rintro e w1 ⟨rfl, hk1, hr1⟩
      have HK1 : Hid (Kept w w1 (BlkR rs)) := HF.out.trans hk1 (fun _ _ h => h)
      have G2 := grownRequests_any _ rs Xs 24 w1 (HA.out.1.kept HA.out.2.1 (by decide) HK1.out) hr1 HA.out.2.2.1 hmk (by decide) hn HA.out.2.2.2
      clear G1 hk1 hr1 hmk
      go_wp2_with fail
      go_at_call 88
      refine G2.mono ?_
      rintro e w2 ⟨rfl, hk2, hr2⟩
      have HK2 : Hid (Kept w w2 (BlkR rs) ∧ ∃ Xs, RowsR w2 33 11 rs Xs) := ⟨HK1.out.trans hk2 (fun _ _ h => h), _, hr2⟩
      clear G2 hk2 hr2
      go_wp2
      go_ret
      exact ⟨rfl, HK2.out⟩

end Go.Proofs.YtoeialngbbfoeaaGreatDoor
