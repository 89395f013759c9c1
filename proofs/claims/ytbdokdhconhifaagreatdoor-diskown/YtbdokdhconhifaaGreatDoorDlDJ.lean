/- A file that is refused by a new disk: why, and nothing is changed. -/
import Derived.Test.YtbdokdhconhifaaGreatDoorDlCJ
namespace Go.Proofs.YtbdokdhconhifaaGreatDoor
open Go.RowKit Go.Shelf
set_option maxRecDepth 8000

/-- Why a file of an image is refused. -/
def DkD.errT (D : DkD) (f : FiD) : Int :=
  if isNm f.name = false ∨ hasF D.files f.name = true ∨ 64 ≤ D.files.length then 22
  else if f.dur < 0 ∨ (f.bytes.length : Int) < f.dur then 1
  else if (f.bytes.length : Int) ≤ D.room - usedD D.files then 0 else 21

set_option maxHeartbeats 2000000 in
theorem take_no {w : World} {p : Nat} {fv : Value} {ms : List FiM} {D : DkD} (h : IsDk w p fv ms D) (ok : DkOk D) (f : FiD) (u : Value) (hu : Sees w u f.bytes) (he : D.errT f ≠ 0) :
    Calls Tryz.prog 22 #[.pointer (some ⟨p, 0, none⟩), .agg #[.string f.name, u, .int .i64 f.dur]] w fun e w' => e = .returned (.int .i64 (D.errT f)) ∧ Below w.heap.size w w' := by
  obtain ⟨V, eV⟩ : ∃ V, V = w.alloc (.cells #[.string f.name, u, .int .i64 f.dur] 71) := ⟨_, rfl⟩
  have hbV : Below w.heap.size w V := by rw [eV]; exact one_allocK _ _
  have hrow : V.heap[w.heap.size]? = some (.cells #[.string f.name, u, .int .i64 f.dur] 71 (0, 0)) := by rw [eV]; exact heap_alloc_new w _
  have hszV : w.heap.size < V.heap.size := lt_of_block hrow
  have d0 : V.cell? ⟨w.heap.size, 0, none⟩ = some (.string f.name) := cell_of_row V _ 0 _ _ _ hrow
  have d1 : V.cell? ⟨w.heap.size, 1, none⟩ = some u := cell_of_row V _ 1 _ _ _ hrow
  have d2 : V.cell? ⟨w.heap.size, 2, none⟩ = some (.int .i64 f.dur) := cell_of_row V _ 2 _ _ _ hrow
  have hV : IsDk V p fv ms D := h.later hbV
  have hp0 := lt_of_block h.row
  have hpV := lt_of_block hV.row
  have hus : usedD D.files ≤ 1000000000000 := by have := ok.fits; have := ok.r1; omega
  obtain ⟨ua, uc, huv, huc, hum, _⟩ := id hu
  unfold maxLen at hum
  have HN : Hid (∀ wx : World, Calls Tryz.prog 64 #[.string f.name] wx fun e w' => e = .returned (.bool (isNm f.name)) ∧ w' = wx) := fun wx => dkName_any f.name wx
  have HE : Hid _ := eV
  have HBV : Hid _ := hbV

  subst huv
  by_cases hnm : isNm f.name = true
  · by_cases hh : hasF D.files f.name = true
    · have e22 : D.errT f = 22 := by unfold DkD.errT; rw [if_pos (.inr (.inl hh))]
      rw [e22]
      have h1 := ((hasF_iff _ _).1 hh).1
      have hm : pl D.files f.name < ms.length := by rw [h.len]; exact h1
      obtain ⟨mq, hmq⟩ : ∃ mq, (ms[pl D.files f.name]?).map (fun m => (⟨m.q, 0, none⟩ : Addr)) = some ⟨mq, 0, none⟩ := ⟨_, by rw [List.getElem?_eq_getElem hm]; rfl⟩
      have HF : Hid (∀ m, Calls Tryz.prog 65 #[.pointer (some ⟨p, 0, none⟩), .string f.name] (V.drewN m) fun e w' => e = .returned (.pointer (some ⟨mq, 0, none⟩)) ∧ w' = V.drewN m) := fun m => by
        have := find_any (hV.later (below_drewN (Below.refl _ _) m)) ok.rise ok.few f.name
        rw [if_pos hh, hmq] at this
        exact this
      rw [hnm] at HN
      clear h ok hu hV hbV eV hrow hus hh hnm hm h1 hmq e22 he
      go_enter Tryz.func22, Tryz.ntmps22
      go_upto_region 1 with fail
      rw [← HE.out]
      go_quiet ((first | (go_at_call 64; exact Calls.quiet_of_same (HN.out _)) | (go_at_call 65; exact Calls.quiet_of_same (HF.out _))))
      go_wp2_with fail
      go_ret
      exact ⟨rfl, below_drewN HBV.out _⟩
    · have hh' : hasF D.files f.name = false := by simpa using hh
      have HF : Hid (∀ m, Calls Tryz.prog 65 #[.pointer (some ⟨p, 0, none⟩), .string f.name] (V.drewN m) fun e w' => e = .returned (.pointer none) ∧ w' = V.drewN m) := fun m => by
        have := find_any (hV.later (below_drewN (Below.refl _ _) m)) ok.rise ok.few f.name
        rw [hh', if_neg (by simp)] at this
        exact this
      by_cases hc : 64 ≤ D.files.length
      · have e22 : D.errT f = 22 := by unfold DkD.errT; rw [if_pos (.inr (.inr hc))]
        rw [e22]
        have HC : Hid (∀ m, Calls Tryz.prog 66 #[.pointer (some ⟨p, 0, none⟩)] (V.drewN m) fun e w' => e = .returned (.bool true) ∧ w' = V.drewN m) := fun m => by
          have := crowded_any (hV.later (below_drewN (Below.refl _ _) m))
          rw [decide_eq_true (by omega)] at this
          exact this
        rw [hnm] at HN
        clear h ok hu hV hbV eV hrow hus hh hh' hnm e22 he hc
        go_enter Tryz.func22, Tryz.ntmps22
        go_upto_region 1 with fail
        rw [← HE.out]
        go_quiet ((first | (go_at_call 64; exact Calls.quiet_of_same (HN.out _)) | (go_at_call 65; exact Calls.quiet_of_same (HF.out _)) | (go_at_call 66; exact Calls.quiet_of_same (HC.out _))))
        go_wp2_with fail
        go_ret
        exact ⟨rfl, below_drewN HBV.out _⟩
      · have HC : Hid (∀ m, Calls Tryz.prog 66 #[.pointer (some ⟨p, 0, none⟩)] (V.drewN m) fun e w' => e = .returned (.bool false) ∧ w' = V.drewN m) := fun m => by
          have := crowded_any (hV.later (below_drewN (Below.refl _ _) m))
          rw [decide_eq_false (by omega)] at this
          exact this
        have hno : ¬ (isNm f.name = false ∨ hasF D.files f.name = true ∨ 64 ≤ D.files.length) := by
          rintro (e | e | e)
          · rw [hnm] at e; cases e
          · exact hh e
          · exact hc e
        by_cases hd : f.dur < 0 ∨ (f.bytes.length : Int) < f.dur
        · have e1 : D.errT f = 1 := by unfold DkD.errT; rw [if_neg hno, if_pos hd]
          rw [e1]
          have hor : decide (f.dur < 0) = true ∨ (decide (f.dur < 0) = false ∧ decide (f.dur > (f.bytes.length : Int)) = true) := by
            by_cases h0 : f.dur < 0
            · exact .inl (decide_eq_true h0)
            · exact .inr ⟨decide_eq_false h0, decide_eq_true (by omega)⟩
          rw [hnm] at HN
          clear h ok hu hV hbV eV hrow hus hh hh' hnm e1 he hc hno hd
          rcases hor with g0 | ⟨g0, g1⟩
          all_goals
            go_enter Tryz.func22, Tryz.ntmps22
            go_upto_region 1 with fail
            rw [← HE.out]
            go_quiet ((first | (go_at_call 64; exact Calls.quiet_of_same (HN.out _)) | (go_at_call 65; exact Calls.quiet_of_same (HF.out _)) | (go_at_call 66; exact Calls.quiet_of_same (HC.out _))))
            go_wp2_with fail
            go_ret
            exact ⟨rfl, below_drewN HBV.out _⟩
        · have hft : ¬ (f.bytes.length : Int) ≤ D.room - usedD D.files := fun e => he (by unfold DkD.errT; rw [if_neg hno, if_neg hd, if_pos e])
          have e21 : D.errT f = 21 := by unfold DkD.errT; rw [if_neg hno, if_neg hd, if_neg hft]
          rw [e21]
          have g0 : decide (f.dur < 0) = false := decide_eq_false (by omega)
          have g1 : decide (f.dur > (f.bytes.length : Int)) = false := decide_eq_false (by omega)
          have HT : Hid (∀ m, Calls Tryz.prog 67 #[.pointer (some ⟨p, 0, none⟩), .int .i64 f.bytes.length] (V.drewN m) fun e w' => e = .returned (.bool false) ∧ w' = (V.drewN m).drew) := fun m => by
            have := fits_any (hV.later (below_drewN (Below.refl _ _) m)) ok.few hus ok.r0 (by have := ok.r1; omega) f.bytes.length
            rw [decide_eq_false hft] at this
            exact this
          rw [hnm] at HN
          clear h ok hu hV hbV eV hrow hus hh hh' hnm e21 he hc hno hd hft
          go_enter Tryz.func22, Tryz.ntmps22
          go_upto_region 1 with fail
          rw [← HE.out]
          go_quiet ((first | (go_at_call 64; exact Calls.quiet_of_same (HN.out _)) | (go_at_call 65; exact Calls.quiet_of_same (HF.out _)) | (go_at_call 66; exact Calls.quiet_of_same (HC.out _))))
          go_wp2_with fail
          refine Calls.mono (HT.out _) ?_
          rintro e w1 ⟨rfl, hw1⟩
          subst w1
          go_wp2_with fail
          go_ret
          exact ⟨rfl, below_drewN (below_drewN HBV.out _) 1⟩
  · have hnm' : isNm f.name = false := by simpa using hnm
    have e22 : D.errT f = 22 := by unfold DkD.errT; rw [if_pos (.inl hnm')]
    rw [e22]
    rw [hnm'] at HN
    clear h ok hu hV hbV eV hrow hus hnm hnm' e22 he
    go_enter Tryz.func22, Tryz.ntmps22
    go_upto_region 1 with fail
    rw [← HE.out]
    go_quiet ((go_at_call 64; exact Calls.quiet_of_same (HN.out _)))
    go_wp2_with fail
    go_ret
    exact ⟨rfl, below_drewN HBV.out _⟩
end Go.Proofs.YtbdokdhconhifaaGreatDoor

/- From of an image of files that may be: a disk of these files. -/
namespace Go.Proofs.YtbdokdhconhifaaGreatDoor
open Go.RowKit Go.Shelf
set_option maxRecDepth 8000

abbrev imgD (fs : List FiD) (room : Int) : DkD := ⟨fs, room, true, -1, 0⟩

theorem FOk.ok {room : Int} {fs : List FiD} (h : FOk room fs) (h0 : 0 ≤ room) (h1 : room ≤ 16777216) : DkOk (imgD fs room) :=
  ⟨h.rise, h.few, h.nms, h.durs, h0, h1, h.fits, by simp, by simp, by simp⟩

theorem FOk.take {room : Int} {fs : List FiD} (h : FOk room fs) (i : Nat) : FOk room (fs.take i) :=
  ⟨h.rise.sublist (List.take_sublist _ _), by have := h.few; simp; omega, fun f hf => h.nms f (List.mem_of_mem_take hf), fun f hf => h.durs f (List.mem_of_mem_take hf), by
    have e : usedD (fs.take i) + usedD (fs.drop i) = usedD fs := by rw [← usedD_append, List.take_append_drop]
    have := h.fits
    omega⟩

theorem used_take' (fs : List FiD) (i : Nat) (hi : i < fs.length) : usedD (fs.take (i + 1)) = usedD (fs.take i) + fs[i].bytes.length := by
  rw [List.take_add_one, List.getElem?_eq_getElem hi, usedD_append]
  simp [usedD]

/-- The next file goes behind those that were taken. -/
theorem ins_next {fs : List FiD} (hr : Rise fs) (i : Nat) (hi : i < fs.length) : hasF (fs.take i) fs[i].name = false ∧ insF (fs.take i) fs[i] = fs.take (i + 1) := by
  have hr' : Rise (fs.take i) := hr.sublist (List.take_sublist _ _)
  have hlt : ∀ k (hk : k < (fs.take i).length), ncmp (fs.take i)[k].name fs[i].name < 0 := fun k hk => by
    have hk' : k < i := by simp at hk; omega
    rw [List.getElem_take]
    exact List.pairwise_iff_getElem.1 hr k i (by omega) hi hk'
  have hp : pl (fs.take i) fs[i].name = (fs.take i).length := by
    have h1 := pl_le (fs.take i) fs[i].name
    by_cases h2 : pl (fs.take i) fs[i].name < (fs.take i).length
    · have := (pl_iff hr' fs[i].name _ h2).1 (hlt _ h2)
      omega
    · omega
  refine ⟨?_, ?_⟩
  · rw [Bool.eq_false_iff]
    intro e
    obtain ⟨h, _⟩ := (hasF_iff _ _).1 e
    omega
  · unfold insF
    rw [hp, List.take_length, List.drop_length, List.take_add_one, List.getElem?_eq_getElem hi]
    rfl

set_option maxHeartbeats 1000000 in
theorem from_yes {w : World} {B g : Nat} {fs : List FiD} {vs : List Value} (room : Int) (him : ImgAt w B (.slice (some ⟨g, 0, none⟩) fs.length fs.length) fs vs) (hf : FOk room fs) (h0 : 0 ≤ room) (h1 : room ≤ 16777216) :
    Calls Tryz.prog 5 #[.int .i64 room, .slice (some ⟨g, 0, none⟩) fs.length fs.length] w fun e w' => e = .returned (.tuple #[.pointer (some ⟨w.heap.size, 0, none⟩), .int .i64 0]) ∧ ∃ fv ms, Run w w.heap.size w' fv ms (imgD fs room) 0 := by
  have hd1 : decide (room < 0) = false := decide_eq_false (by omega)
  have hd2 : decide (room > 16777216) = false := decide_eq_false (by omega)
  obtain ⟨N, hN⟩ : ∃ N, N = fs.length := ⟨_, rfl⟩
  have hfew := hf.few
  rw [← hN] at hfew ⊢
  have HN : Hid _ := hN
  have HI0 : Hid (ImgAt w B (.slice (some ⟨g, 0, none⟩) fs.length fs.length) fs vs ∧ FOk room fs ∧ 0 ≤ room ∧ room ≤ 16777216) := ⟨him, hf, h0, h1⟩
  obtain ⟨V, eV⟩ : ∃ V, V = w.alloc (.cells (dkQ (.slice none 0 0) room true (-1) 0) 76) := ⟨_, rfl⟩
  have H0 : Hid (Run w w.heap.size V (.slice none 0 0) [] (imgD [] room) 0) := by
    rw [eV]
    refine ⟨isDk_new w room, dkOk_new room h0 h1, by simp, one_allocK _ _, fun j hj => ?_⟩
    simp [foot, Value.ownBlock] at hj
    omega
  have HE : Hid _ := eV
  clear him hf h0 h1 hN eV
  go_enter Tryz.func5, Tryz.ntmps5
  go_wp2_with fail
  go_loopw [21] (fun vi wr => ∃ i : Nat, i ≤ N ∧ vi = .int .i64 i ∧ Hid (∃ fv ms, Run w w.heap.size wr fv ms (imgD (fs.take i) room) 0)) (fun vi _ => N - (intOf vi).toNat)
  case atStart => exact ⟨0, Nat.zero_le _, rfl, ⟨_, _, by have := H0.out; rw [HE.out] at this; exact this⟩⟩
  case round =>
    obtain ⟨i, hi, rfl, HI⟩ := hrel
    obtain ⟨fv, ms, hrun⟩ := HI.out
    have HU : Hid _ := hrun
    have hpw := lt_of_block hrun.is.row
    clear hrun HI H0 HE
    by_cases hlt : i < N
    · have hlt1 : i < fs.length := by rw [← HN.out]; exact hlt
      obtain ⟨u, _, a0, a1, a2, ho⟩ := (HI0.out.1.kept (Below.kept HU.out.bel) (fun j e => .inr e)).cells i hlt1
      obtain ⟨x2, y2, hu2, hx2, hy2⟩ := own_shape (owns_mono ho (Nat.zero_le _))
      unfold maxLen at hy2
      have hsee := Sees.own ho
      have hblk : ∀ k, u.ownBlock = some k → k < w.heap.size := fun k e => by
        obtain ⟨v0, _, _, b1, _, ho0⟩ := HI0.out.1.cells i hlt1
        have c1 := cell_later b1 HU.out.bel (Nat.le_refl _)
        rw [c1] at a1
        cases a1
        exact rows_ltK ho0 e
      rw [hu2] at a1 hsee hblk
      have hr3 : wr.rangeAt g (i * 3) [.string fs[i].name, .slice x2 fs[i].bytes.length y2, .int .i64 fs[i].dur] := fun j x hj => by
        match j, hj with
        | 0, hj => cases hj; exact a0
        | 1, hj => cases hj; exact a1
        | 2, hj => cases hj; exact a2
      obtain ⟨hno, hins⟩ := ins_next HI0.out.2.1.rise i hlt1
      have hb2 : Below wr.heap.size wr (wr.alloc (.cells #[.string fs[i].name, .slice x2 fs[i].bytes.length y2, .int .i64 fs[i].dur] 71)) := one_allocK _ _
      have hru := HU.out.later hb2
      have htk := take_yes hru.is hru.ok fs[i] (.slice x2 fs[i].bytes.length y2) (hsee.below hb2 (Nat.le_refl _)) (fun _ k e => hru.free k (hblk k e)) (HI0.out.2.1.nms _ (List.getElem_mem hlt1)) hno (by have := HI0.out.2.1.few; simp; omega) (HI0.out.2.1.durs _ (List.getElem_mem hlt1)) (by
        have e1 := used_take' fs i hlt1
        have e2 : usedD (fs.take (i + 1)) + usedD (fs.drop (i + 1)) = usedD fs := by rw [← usedD_append, List.take_append_drop]
        have := HI0.out.2.1.fits
        show (fs[i].bytes.length : Int) ≤ room - usedD (fs.take i)
        omega)
      have HT : Hid _ := htk
      have HR2 : Hid (Run w w.heap.size (wr.alloc (.cells #[.string fs[i].name, .slice x2 fs[i].bytes.length y2, .int .i64 fs[i].dur] 71)) fv ms (imgD (fs.take i) room) 0 ∧ insF (fs.take i) fs[i] = fs.take (i + 1)) := ⟨hru, hins⟩
      clear htk hru hb2 hno hins hblk hsee ho hu2 a0 a1 a2 HU
      go_wp2_with (refine wpList_load_mid rfl 71 _ rfl g (i * 3) rfl [.string fs[i].name, .slice x2 fs[i].bytes.length y2, .int .i64 fs[i].dur] _ hr3 Tryz.underlying71 rfl Tryz.fileSz ?_)
      refine Calls.mono HT.out ?_
      rintro e w4 ⟨rfl, fv4, ms4, ht4⟩
      have H4 : Hid (Run w w.heap.size w4 fv4 ms4 (imgD (fs.take (i + 1)) room) 0) := by
        have h := ht4
        rw [HR2.out.2] at h
        exact HR2.out.1.to h ((HI0.out.2.1.take (i + 1)).ok HI0.out.2.2.1 HI0.out.2.2.2) (by simp)
      clear ht4 HT HR2 hr3
      go_wp2_with fail
      go_roundw
      case rel => exact ⟨i + 1, by omega, by go_num, ⟨_, _, H4.out⟩⟩
      case measure => simp [intOf]; omega
    · obtain rfl : i = N := by omega
      go_wp2_with fail
      go_ret2
      refine ⟨rfl, fv, ms, ?_⟩
      have h := HU.out
      rw [List.take_of_length_le (by have := HN.out; omega)] at h
      exact h
end Go.Proofs.YtbdokdhconhifaaGreatDoor
