/- SessionLives' walk. -/
import Derived.Test.YtmohpcoiobcncaaSeJ
import Derived.Test.YtmohpcoiobcncaaSeO
import Derived.Deep.RegionHeld
import Derived.Deep.CutRange
namespace Go.Proofs.Ytmohpcoiobcncaa
open Go.RowKit Go.Shelf
set_option maxRecDepth 8000
set_option linter.unusedSimpArgs false

theorem tol_one {x : LfT} {T : Int} (h : x.2.2 ≠ T) : tolL [x] T = [] ∧ goL [x] T = [x] := by
  have : dueB T x = false := by simp [dueB, h]
  simp [tolL, goL, this, ids, srt]
theorem en_now {w wr : World} {c m s : Nat} {t span : Int} {l : List LfT} (h : En w wr c m s t span l) :
    Calls Try.prog 13 #[.pointer (some ⟨c, 0, none⟩)] wr fun e w' => e = .returned (.int .i64 t) ∧ w' = wr := now_any h.ck
theorem en_all {w wr : World} {c m s : Nat} {t span : Int} {x : LfT} (h : En w wr c m s t span [x]) :
    Calls Try.prog 14 #[.pointer (some ⟨c, 0, none⟩)] wr fun e w' => ∃ a cp, e = .returned (.slice a 1 cp) ∧ Hid (Below w.heap.size w w') := by
  refine (all_any h.ck (by simp [ids]) (by simp)).mono (fun e w' hh => ?_)
  obtain ⟨u, rfl, q1, q2⟩ := hh
  obtain ⟨a, cp, rfl⟩ := rowS q1
  exact ⟨a, cp, by simp [allL], h.bl.trans (q2.mono h.bl.size)⟩

set_option maxHeartbeats 1000000 in
theorem lives_no (span id tm : Int) (v : Value) (w : World) (h : span < 1 ∨ 1000 < span) : Calls Try.prog 4 #[.int .i64 span, .int .i64 id, .int .i32 tm, v] w fun e w' => e = .returned (.bool true) ∧ Below w.heap.size w w' := by
  have HW : Hid _ := works19 w
  go_enter Try.func4, Try.ntmps4
  go_wp2_with fail
  go_at_call 6
  refine Calls.mono HW.out ?_
  rintro e w1 ⟨rfl, hb1⟩
  have HN : Hid (Calls Try.prog 7 #[.int .i64 span] w1 fun e w' => e = .returned (.tuple #[.pointer none, .int .i64 1]) ∧ Hid (Below w.heap.size w w')) := (new_no span w1 h).mono (fun e w' hh => ⟨hh.1, hb1.trans (hh.2.mono hb1.size)⟩)
  clear HW hb1
  go_wp2_with fail
  go_at_call 7
  refine Calls.mono HN.out ?_
  rintro e w2 ⟨rfl, HB⟩
  clear HN
  by_cases h1 : span < 1
  · have d1 : decide (span < 1) = true := by simp; omega
    clear h h1
    go_wp2
    all_goals (go_ret; exact ⟨rfl, HB.out⟩)
  · have d1 : decide (span < 1) = false := by simp; omega
    have d2 : decide (span > 1000) = true := by simp; omega
    have d3 : decide (1000 < span) = true := by simp; omega
    clear h h1
    go_wp2
    all_goals (go_ret; exact ⟨rfl, HB.out⟩)

set_option maxHeartbeats 2000000 in
theorem lives_yes (span id tm : Int) (v : Value) (ks : List Int) (w : World) (hv : SeesI w v ks) (h1 : 1 ≤ span) (h2 : span ≤ 1000) (ht : -2147483648 ≤ tm ∧ tm ≤ 2147483647) : Calls Try.prog 4 #[.int .i64 span, .int .i64 id, .int .i32 tm, v] w fun e w' => e = .returned (.bool true) ∧ Below w.heap.size w w' := by
  have HW : Hid _ := works19 w
  obtain ⟨va, vc, rfl, hvc, -, hcl⟩ := hv
  have HV : Hid (ks = [] ∨ ∃ b off, va = some ⟨b, off, none⟩ ∧ ∀ (i : Nat) (h : i < ks.length), w.cell? ⟨b, off + i, none⟩ = some (.int .i64 ks[i])) := hcl
  clear hcl
  go_enter Try.func4, Try.ntmps4
  go_wp2_with fail
  go_at_call 6
  refine Calls.mono HW.out ?_
  rintro e w1 ⟨rfl, hb1⟩
  have HN : Hid _ := en_new span w w1 hb1 h1 h2
  clear HW hb1
  go_wp2_with fail
  go_at_call 7
  refine Calls.mono HN.out ?_
  rintro e w2 ⟨c, m, s, rfl, HE⟩
  have HA : Hid _ := en_add HE.out id tm h1 h2 (by omega) (by omega)
  clear HN HE
  by_cases hb : id < 1 ∨ tm < 1 ∨ 1000 < tm
  · have e1 : addE [] id tm = 1 := by unfold addE; rw [if_pos hb]
    rw [e1] at HA
    go_wp2_with fail
    go_at_call 10
    refine Calls.mono HA.out ?_
    rintro e w4 ⟨rfl, HB⟩
    clear HA e1
    by_cases q1 : id < 1
    · have d1 : decide (id < 1) = true := by simp; omega
      clear hb q1
      go_wp2
      all_goals (go_ret; exact ⟨rfl, HB.out.bl⟩)
    · have d1 : decide (id < 1) = false := by simp; omega
      by_cases q2 : tm < 1
      · have d2 : decide (tm < 1) = true := by simp; omega
        clear hb q1 q2
        go_wp2
        all_goals (go_ret; exact ⟨rfl, HB.out.bl⟩)
      · have d2 : decide (tm < 1) = false := by simp; omega
        have d3 : decide (tm > 1000) = true := by simp; omega
        have d4 : decide (1000 < tm) = true := by simp; omega
        clear hb q1 q2
        go_wp2
        all_goals (go_ret; exact ⟨rfl, HB.out.bl⟩)
  · have e1 : addE [] id tm = 0 := by unfold addE; rw [if_neg hb, if_neg (fun q => by simp at q)]
    have t1 : 1 ≤ tm := by omega
    have t2 : tm ≤ 1000 := by omega
    have e2 : addL [] id tm (upT (0 + tm) span) = [(id, tm, upT (0 + tm) span)] := by unfold addL; rw [if_pos e1]; rfl
    rw [e1, e2] at HA
    clear hb e1 e2
    go_wp2_with fail
    go_at_call 10
    refine Calls.mono HA.out ?_
    rintro e w4 ⟨rfl, HB⟩
    clear HA
    go_wp2
    go_loopw [12] (fun vi wr => ∃ (i : Nat) (t : Int), i ≤ ks.length ∧ i ≤ 20 ∧ 0 ≤ t ∧ t ≤ (i : Int) * 1000 ∧ vi = .int .i64 (i : Int) ∧ Hid (En w wr c m s t span [(id, tm, upT (t + tm) span)])) (fun vi _ => 20 - (intOf vi).toNat)
    case atStart => exact ⟨0, 0, by omega, by omega, by omega, by omega, rfl, HB⟩
    case round =>
      obtain ⟨i, t, hi1, hi2, ht1, ht2, rfl, HD⟩ := hrel
      clear HB
      by_cases hlt : i < ks.length ∧ i < 20
      · have hd1 : decide ((i : Int) < (ks.length : Int)) = true := by simp; omega
        have hd2 : decide ((i : Int) < 20) = true := by simp; omega
        obtain ⟨y, hy⟩ : ∃ y, y = ks[i]'hlt.1 := ⟨_, rfl⟩
        obtain ⟨vb, vo, rfl, hcell⟩ := HV.out.resolve_left (fun e => by rw [e] at hlt; simp at hlt)
        have k0 : w.cell? ⟨vb, vo + i, none⟩ = some (.int .i64 y) := by rw [hy]; exact hcell i hlt.1
        have k2 : wr.cell? ⟨vb, vo + i, none⟩ = some (.int .i64 y) := (Below.kept HD.out.bl).cell k0 (by have := World.block_lt_of_cell? w _ k0; simp at this ⊢; omega)
        have hz : vb < wr.heap.size := World.block_lt_of_cell? wr _ k2
        have jlt : (i : Int) < (ks.length : Int) := by omega
        have jge : (0 : Int) ≤ (i : Int) := by omega
        obtain ⟨U, hU⟩ : ∃ U, U = upT (t + tm) span := ⟨_, rfl⟩
        have hUb : t + tm ≤ U := by rw [hU]; exact (upT_bounds (by omega) h1).1
        rw [← hU] at HD
        clear hcell k0 hU hy
        by_cases hge : tm ≤ y
        · have d3 : decide (y ≥ tm) = true := by simp; omega
          have d4 : decide (tm ≤ y) = true := by simp; omega
          go_wp2
          go_loopw [14] (fun vk wz => ∃ k : Nat, (k = 0 ∨ (k : Int) ≤ tm - 1) ∧ vk = .int .i64 (k : Int) ∧ Hid (En w wz c m s (t + (k : Int)) span [(id, tm, U)])) (fun vk _ => 1000 - (intOf vk).toNat)
          case atStart => exact ⟨0, .inl rfl, rfl, by rw [show t + ((0 : Nat) : Int) = t by omega]; exact HD⟩
          case round =>
            obtain ⟨k, hk, rfl, HI⟩ := hrel
            clear HD
            by_cases hkn : (k : Int) < tm - 1
            · have hd : decide ((k : Int) < tm - 1) = true := by simp; omega
              have HT : Hid _ := en_tick HI.out (by simp [ids]) (by simp) (by omega) (by omega)
              rw [(tol_one (x := (id, tm, U)) (T := t + (k : Int) + 1) (show U ≠ _ by omega)).1, (tol_one (x := (id, tm, U)) (T := t + (k : Int) + 1) (show U ≠ _ by omega)).2] at HT
              rw [show (([] : List Int).length) = 0 from rfl] at HT
              go_wp2_with fail
              go_at_call 9
              refine Calls.mono HT.out ?_
              rintro e w5 ⟨ua, uc, rfl, HO⟩
              have HO2 : Hid (En w w5 c m s (t + ((k + 1 : Nat) : Int)) span [(id, tm, U)]) := by rw [show t + ((k + 1 : Nat) : Int) = t + (k : Int) + 1 by omega]; exact HO.out.2
              clear HT HO HI
              go_wp2
              go_roundw
              case rel => exact ⟨k + 1, by omega, by simp, HO2⟩
              case measure => simp [intOf] <;> omega
            · have hd : decide ((k : Int) < tm - 1) = false := by simp; omega
              have hk2 : (k : Int) < tm := by omega
              have HT : Hid _ := en_touch_yes HI.out id (id, tm, U) h1 h2 (by omega) (by omega) (by simp [getL]) t1 t2
              rw [show putL [(id, tm, U)] (id, (id, tm, U).2.1, upT (t + (k : Int) + (id, tm, U).2.1) span) = [(id, tm, upT (t + (k : Int) + tm) span)] by simp [putL]] at HT
              go_wp2_with fail
              go_at_call 12
              refine Calls.mono HT.out ?_
              rintro e w5 ⟨rfl, HO⟩
              clear HT HI
              go_wp2
              exact ⟨⟨i + 1, t + (k : Int), by omega, by omega, by omega, by omega, by simp, HO⟩, by simp [intOf] <;> omega⟩
        · have d3 : decide (y ≥ tm) = false := by simp; omega
          have d4 : decide (tm ≤ y) = false := by simp; omega
          have hNb : y < tm := by omega
          go_wp2
          go_loopw [14] (fun vk wz => ∃ k : Nat, (k = 0 ∨ (k : Int) ≤ y) ∧ vk = .int .i64 (k : Int) ∧ Hid (En w wz c m s (t + (k : Int)) span [(id, tm, U)])) (fun vk _ => 1000 - (intOf vk).toNat)
          case atStart => exact ⟨0, .inl rfl, rfl, by rw [show t + ((0 : Nat) : Int) = t by omega]; exact HD⟩
          case round =>
            obtain ⟨k, hk, rfl, HI⟩ := hrel
            clear HD
            by_cases hkn : (k : Int) < y
            · have hd : decide ((k : Int) < y) = true := by simp; omega
              have HT : Hid _ := en_tick HI.out (by simp [ids]) (by simp) (by omega) (by omega)
              rw [(tol_one (x := (id, tm, U)) (T := t + (k : Int) + 1) (show U ≠ _ by omega)).1, (tol_one (x := (id, tm, U)) (T := t + (k : Int) + 1) (show U ≠ _ by omega)).2] at HT
              rw [show (([] : List Int).length) = 0 from rfl] at HT
              go_wp2_with fail
              go_at_call 9
              refine Calls.mono HT.out ?_
              rintro e w5 ⟨ua, uc, rfl, HO⟩
              have HO2 : Hid (En w w5 c m s (t + ((k + 1 : Nat) : Int)) span [(id, tm, U)]) := by rw [show t + ((k + 1 : Nat) : Int) = t + (k : Int) + 1 by omega]; exact HO.out.2
              clear HT HO HI
              go_wp2
              go_roundw
              case rel => exact ⟨k + 1, by omega, by simp, HO2⟩
              case measure => simp [intOf] <;> omega
            · have hd : decide ((k : Int) < y) = false := by simp; omega
              have hk2 : (k : Int) < tm := by omega
              have HT : Hid _ := en_touch_yes HI.out id (id, tm, U) h1 h2 (by omega) (by omega) (by simp [getL]) t1 t2
              rw [show putL [(id, tm, U)] (id, (id, tm, U).2.1, upT (t + (k : Int) + (id, tm, U).2.1) span) = [(id, tm, upT (t + (k : Int) + tm) span)] by simp [putL]] at HT
              go_wp2_with fail
              go_at_call 12
              refine Calls.mono HT.out ?_
              rintro e w5 ⟨rfl, HO⟩
              clear HT HI
              go_wp2
              exact ⟨⟨i + 1, t + (k : Int), by omega, by omega, by omega, by omega, by simp, HO⟩, by simp [intOf] <;> omega⟩
      · have hd1 : (decide ((i : Int) < (ks.length : Int)) && decide ((i : Int) < 20)) = false := by simp; omega
        obtain ⟨U, hU⟩ : ∃ U, U = upT (t + tm) span := ⟨_, rfl⟩
        obtain ⟨hUb, hUc⟩ : t + tm ≤ U ∧ U % span = 0 := by
          rw [hU]
          have := upT_bounds (t := t + tm) (span := span) (by omega) h1
          exact ⟨this.1, this.2.2⟩
        rw [← hU] at HD
        have dU : decide (U ≥ t + tm) = true := by simp; omega
        have dU2 : decide (t + tm ≤ U) = true := by simp; omega
        have dR : (U % span == 0) = true := by simp; omega
        have hs0 : span ≠ 0 := by omega
        have hU2 : U ≤ 100000 := by rw [hU]; have := (upT_bounds (t := t + tm) (span := span) (by omega) h1).2.1; omega
        have HU : Hid _ := en_due HD.out id
        rw [show getL [(id, tm, U)] id = some (id, tm, U) by simp [getL], show lookV [(id, tm, U)] id = (id, tm, U) by simp [lookV, getL]] at HU
        clear hU hUc hd1
        by_cases hq : i < ks.length
        · have hd1 : decide ((i : Int) < (ks.length : Int)) = true := by simp; omega
          have hd2 : decide ((i : Int) < 20) = false := by simp; omega
          go_wp2_with fail
          go_at_call 11
          refine Calls.mono HU.out ?_
          rintro e w5 ⟨rfl, H5⟩
          have HN : Hid _ := en_now H5.out
          have HA : Hid _ := en_all H5.out
          clear HU HD
          go_wp2_with fail
          go_at_call 13
          refine Calls.mono HN.out ?_
          rintro e w6 ⟨rfl, hw6⟩
          rw [hw6]
          clear hw6 w6 HN
          go_wp2_with fail
          go_at_call 14
          refine Calls.mono HA.out ?_
          rintro e w6 ⟨ua, uc, rfl, H6⟩
          clear HA H5
          go_wp2
          all_goals (go_ret; exact ⟨rfl, H6.out⟩)
        · have hd1 : decide ((i : Int) < (ks.length : Int)) = false := by simp; omega
          go_wp2_with fail
          go_at_call 11
          refine Calls.mono HU.out ?_
          rintro e w5 ⟨rfl, H5⟩
          have HN : Hid _ := en_now H5.out
          have HA : Hid _ := en_all H5.out
          clear HU HD
          go_wp2_with fail
          go_at_call 13
          refine Calls.mono HN.out ?_
          rintro e w6 ⟨rfl, hw6⟩
          rw [hw6]
          clear hw6 w6 HN
          go_wp2_with fail
          go_at_call 14
          refine Calls.mono HA.out ?_
          rintro e w6 ⟨ua, uc, rfl, H6⟩
          clear HA H5
          go_wp2
          all_goals (go_ret; exact ⟨rfl, H6.out⟩)

end Go.Proofs.Ytmohpcoiobcncaa
