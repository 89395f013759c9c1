/- A disk's calls: Rename, Append. -/
import Derived.Test.YtdhnbgeijfgfaaaGreatDoorDkJJ
namespace Go.Proofs.YtdhnbgeijfgfaaaGreatDoor
open Go.RowKit Go.Shelf
set_option maxRecDepth 8000

def DkD.errR (D : DkD) (a b : ByteArray) : Int := if D.on then (if isNm a && isNm b then (if hasF D.files a then 0 else 20) else 22) else 23

def renF (fs : List FiD) (a b : ByteArray) : List FiD := match fs[pl fs a]? with
  | some f => movF fs a b f
  | none => fs

set_option maxHeartbeats 1000000 in
theorem rename_any {w : World} {p : Nat} {fv : Value} {ms : List FiM} {D : DkD} (h : IsDk w p fv ms D) (ok : DkOk D) (hw : D.writes ≤ 4611686018427387904) (a b : ByteArray) :
    Calls Tryz.prog 69 #[.pointer (some ⟨p, 0, none⟩), .string a, .string b] w (ActTo w p fv ms (D.act (D.errR a b) (renF D.files a b))) := by
  obtain ⟨V, eV⟩ : ∃ V, V = w.alloc (.cells #[.string a, .string b] 9) := ⟨_, rfl⟩
  have hbV : Below w.heap.size w V := by rw [eV]; exact one_allocK _ _
  have hV : IsDk V p fv ms D := h.later hbV
  have hR := ready_any hV w.heap.size [a, b] (fun k x hk => by
    match k, hk with
    | 0, hk => simp at hk; subst hk; rw [eV]; exact cell_of_row _ _ 0 _ _ _ (heap_alloc_new w _)
    | 1, hk => simp at hk; subst hk; rw [eV]; exact cell_of_row _ _ 1 _ _ _ (heap_alloc_new w _)
    | k + 2, hk => simp at hk) (by simp)
  have hF := find_any hV ok.rise ok.few a
  have hl := lt_of_block h.row
  have hlV := lt_of_block hV.row
  have HW : Hid _ := dkWrite_any hV ok.a0 ok.a1 ok.w0 hw
  have HE : Hid _ := eV
  simp only [List.all_cons, List.all_nil, Bool.and_true, List.length_cons, List.length_nil] at hR
  have HH : Hid (IsDk w p fv ms D ∧ DkOk D ∧ Below w.heap.size w V) := ⟨h, ok, hbV⟩
  obtain ⟨r, hr⟩ : ∃ r, r = D.act (D.errR a b) (renF D.files a b) := ⟨_, rfl⟩
  rw [← hr]
  have HRR : Hid _ := hr
  clear h hV ok eV hbV hr
  by_cases hq : D.on = true ∧ (isNm a && isNm b) = true
  · obtain ⟨hon, hnm⟩ := hq
    rw [hon, hnm] at hR
    have HR : Hid _ := hR
    clear hR
    cases hb : hasF D.files a
    · have e20 : D.errR a b = 20 := by unfold DkD.errR; rw [hon, hnm, hb]; rfl
      rw [e20, act_err (by decide)] at HRR
      rw [hb] at hF
      have HF : Hid _ := hF
      clear hF e20 hon hnm hb HW
      go_enter Tryz.func69, Tryz.ntmps69
      go_wp2_with fail
      rw [← HE.out]
      refine Calls.mono HR.out ?_
      rintro e w1 ⟨rfl, hw1⟩
      subst w1
      go_wp2_with fail
      refine Calls.mono HF.out ?_
      rintro e w1 ⟨rfl, hw1⟩
      subst w1
      go_wp2_with fail
      go_ret
      exact ⟨by rw [HRR.out]; rfl, _, _, by rw [HRR.out]; exact (DkTo.refl HH.out.1).then HH.out.2.2⟩
    · have e0 : D.errR a b = 0 := by unfold DkD.errR; rw [hon, hnm, hb]; rfl
      rw [e0] at HRR
      obtain ⟨hlt, hnn⟩ := (hasF_iff _ _).1 hb
      have hlm : pl D.files a < ms.length := by rw [HH.out.1.len]; exact hlt
      rw [if_pos hb, List.getElem?_eq_getElem hlm] at hF
      have HF : Hid _ := hF
      have HB : Hid (hasF D.files a = true ∧ ∃ f, D.files[pl D.files a]? = some f) := ⟨hb, _, List.getElem?_eq_getElem hlt⟩
      generalize ms[pl D.files a] = m at *
      clear hF e0 hon hnm hb hnn hlt hlm
      by_cases ha : D.armed = 0
      · rw [if_pos ha, wr_off ha] at HW
        rw [act_off ha] at HRR
        clear ha
        go_enter Tryz.func69, Tryz.ntmps69
        go_wp2_with fail
        rw [← HE.out]
        refine Calls.mono HR.out ?_
        rintro e w1 ⟨rfl, hw1⟩
        subst w1
        go_wp2_with fail
        refine Calls.mono HF.out ?_
        rintro e w1 ⟨rfl, hw1⟩
        subst w1
        go_wp2_with fail
        refine Calls.mono HW.out ?_
        rintro e w2 ⟨rfl, hw2⟩
        have H2 : Hid _ := hw2
        clear hw2 HW
        go_wp2_with fail
        go_ret
        exact ⟨by rw [HRR.out]; rfl, _, _, by rw [HRR.out]; exact DkTo.after HH.out.2.2 H2.out⟩
      · rw [if_neg ha, wr_done ha] at HW
        rw [act_done ha] at HRR
        clear ha
        go_enter Tryz.func69, Tryz.ntmps69
        go_wp2_with fail
        rw [← HE.out]
        refine Calls.mono HR.out ?_
        rintro e w1 ⟨rfl, hw1⟩
        subst w1
        go_wp2_with fail
        refine Calls.mono HF.out ?_
        rintro e w1 ⟨rfl, hw1⟩
        subst w1
        go_wp2_with fail
        refine Calls.mono HW.out ?_
        rintro e w2 ⟨rfl, hw2⟩
        obtain ⟨hb, f, hf⟩ := HB.out
        have HM : Hid _ := move_any hw2.is HH.out.2.1.rise HH.out.2.1.few a b hb f hf
        have H2 : Hid _ := hw2
        have HFF : Hid _ := hf
        have hl2 := lt_of_block hw2.is.row
        clear hw2 HW hf hb
        go_wp2_with fail
        refine Calls.mono HM.out ?_
        rintro e w3 ⟨rfl, fv3, ms3, ht⟩
        have H3 : Hid _ := ht
        clear ht HM
        go_wp2_with fail
        go_ret
        refine ⟨by rw [HRR.out]; rfl, fv3, ms3, ?_⟩
        rw [HRR.out]
        have e : renF D.files a b = movF D.files a b f := by unfold renF; rw [HFF.out]
        rw [e]
        exact DkTo.after HH.out.2.2 (H2.out.trans H3.out)
  · obtain ⟨E, hE⟩ : ∃ E : Int, E = if D.on = true then (if (isNm a && isNm b) = true then 0 else 22) else 23 := ⟨_, rfl⟩
    have hEn : D.errR a b = E ∧ E ≠ 0 := by
      rw [hE]
      unfold DkD.errR
      cases hon : D.on
      · simp
      · cases hnm : (isNm a && isNm b)
        · simp
        · exact absurd ⟨hon, hnm⟩ hq
    rw [← hE] at hR
    have HR : Hid _ := hR
    have hb : (E != 0) = true := by simpa using hEn.2
    rw [hEn.1, act_err hEn.2] at HRR
    clear hR hF hEn hq hE HW
    go_enter Tryz.func69, Tryz.ntmps69
    go_wp2_with fail
    rw [← HE.out]
    refine Calls.mono HR.out ?_
    rintro e w1 ⟨rfl, hw1⟩
    subst w1
    go_wp2_with fail
    go_ret
    exact ⟨by rw [HRR.out]; rfl, _, _, by rw [HRR.out]; exact (DkTo.refl HH.out.1).then HH.out.2.2⟩

def DkD.errA (D : DkD) (n : ByteArray) (k : Nat) : Int := if D.on then (if isNm n then (if hasF D.files n = false ∧ 64 ≤ D.files.length then 22 else (if (k : Int) ≤ D.room - usedD D.files then 0 else 21)) else 22) else 23

def appF (fs : List FiD) (n : ByteArray) (ys : List Int) : List FiD := if hasF fs n then updF fs n (fun f => ⟨f.name, f.bytes ++ ys, f.dur⟩) else insF fs ⟨n, ys, 0⟩

theorem ins_set {α : Type} (l : List α) (i : Nat) (x y : α) (hi : i ≤ l.length) : (l.take i ++ x :: l.drop i).set i y = l.take i ++ y :: l.drop i := by
  have hl : (l.take i).length = i := by simp; omega
  rw [List.set_append_right _ _ (by omega), hl, Nat.sub_self]
  rfl

set_option maxHeartbeats 2000000 in
theorem append_any {w : World} {p : Nat} {fv : Value} {ms : List FiM} {D : DkD} (h : IsDk w p fv ms D) (ok : DkOk D) (hw : D.writes ≤ 4611686018427387904) (n : ByteArray) (u : Value) (ys : List Int) (hu : Sees w u ys) (hap : ys ≠ [] → ∀ k, u.ownBlock = some k → k < w.heap.size ∧ k ∉ foot p fv ms) (hyl : ys.length ≤ 100000000000) :
    Calls Tryz.prog 30 #[.pointer (some ⟨p, 0, none⟩), .string n, u] w (ActTo w p fv ms (D.act (D.errA n ys.length) (appF D.files n ys))) := by
  obtain ⟨V, eV⟩ : ∃ V, V = w.alloc (.cells #[.string n] 9) := ⟨_, rfl⟩
  have hbV : Below w.heap.size w V := by rw [eV]; exact one_allocK _ _
  have hV : IsDk V p fv ms D := h.later hbV
  have hR := ready_any hV w.heap.size [n] (fun k x hk => by
    cases k with
    | zero => simp at hk; subst hk; rw [eV]; exact cell_of_row _ _ 0 _ _ _ (heap_alloc_new w _)
    | succ k => simp at hk) (by simp)
  have hF := find_any hV ok.rise ok.few n
  have hl := lt_of_block h.row
  have hlV := lt_of_block hV.row
  have hbD : Below V.heap.size V V.drew := below_drewN (Below.refl _ _) 1
  have hVD : IsDk V.drew p fv ms D := hV.later hbD
  have HW : Hid _ := dkWrite_any hVD ok.a0 ok.a1 ok.w0 hw
  have HC : Hid _ := crowded_any hV
  have hus : usedD D.files ≤ 1000000000000 := by have := ok.fits; have := ok.r1; omega
  have HT : Hid _ := fits_any hV ok.few hus ok.r0 (by have := ok.r1; omega) ys.length
  have HE : Hid _ := eV
  simp only [List.all_cons, List.all_nil, Bool.and_true, List.length_singleton] at hR
  obtain ⟨ua, uc, huv, _⟩ := id hu
  have HH : Hid (IsDk w p fv ms D ∧ DkOk D ∧ Below w.heap.size w V.drew ∧ Sees w u ys ∧ (ys ≠ [] → ∀ k, u.ownBlock = some k → k < w.heap.size ∧ k ∉ foot p fv ms) ∧ Below w.heap.size w V) := ⟨h, ok, Below.step hbV hbD, hu, hap, hbV⟩
  obtain ⟨r, hr⟩ : ∃ r, r = D.act (D.errA n ys.length) (appF D.files n ys) := ⟨_, rfl⟩
  rw [← hr]
  have HRR : Hid _ := hr
  have HLY : Hid _ := hyl
  subst huv
  clear h hV ok eV hbV hr hu hap hbD hVD hus hyl
  by_cases hq : D.on = true ∧ isNm n = true
  · obtain ⟨hon, hnm⟩ := hq
    rw [hon, hnm] at hR
    have HR : Hid _ := hR
    clear hR
    by_cases hcr : hasF D.files n = false ∧ 64 ≤ D.files.length
    · have e22 : D.errA n ys.length = 22 := by unfold DkD.errA; rw [hon, hnm, if_pos rfl, if_pos rfl, if_pos hcr]
      rw [e22, act_err (by decide)] at HRR
      rw [hcr.1] at hF
      have HF : Hid _ := hF
      rw [decide_eq_true (by omega : (64 : Int) ≤ D.files.length)] at HC
      clear hF e22 hon hnm hcr HW HT
      go_enter Tryz.func30, Tryz.ntmps30
      go_wp2_with fail
      rw [← HE.out]
      refine Calls.mono HR.out ?_
      rintro e w1 ⟨rfl, hw1⟩
      subst w1
      go_wp2_with fail
      refine Calls.mono HF.out ?_
      rintro e w1 ⟨rfl, hw1⟩
      subst w1
      go_wp2_with fail
      refine Calls.mono HC.out ?_
      rintro e w1 ⟨rfl, hw1⟩
      subst w1
      go_wp2_with fail
      go_ret
      exact ⟨by rw [HRR.out]; rfl, _, _, by rw [HRR.out]; exact (DkTo.refl HH.out.1).then HH.out.2.2.2.2.2⟩
    · by_cases hft : (ys.length : Int) ≤ D.room - usedD D.files
      · have e0 : D.errA n ys.length = 0 := by unfold DkD.errA; rw [hon, hnm, if_pos rfl, if_pos rfl, if_neg hcr, if_pos hft]
        rw [e0] at HRR
        rw [decide_eq_true hft] at HT
        have HFT : Hid _ := hft
        cases hb : hasF D.files n
        · have hlen : ¬ 64 ≤ D.files.length := fun e => hcr ⟨hb, e⟩
          rw [hb] at hF
          have HF : Hid _ := hF
          have HB : Hid (hasF D.files n = false ∧ D.files.length ≤ 63) := ⟨hb, by omega⟩
          rw [decide_eq_false (by omega : ¬ (64 : Int) ≤ D.files.length)] at HC
          clear hF e0 hon hnm hcr hft hb hlen
          by_cases ha : D.armed = 0
          · rw [if_pos ha, wr_off ha] at HW
            rw [act_off ha] at HRR
            clear ha
            go_enter Tryz.func30, Tryz.ntmps30
            go_wp2_with fail
            rw [← HE.out]
            refine Calls.mono HR.out ?_
            rintro e w1 ⟨rfl, hw1⟩
            subst w1
            go_wp2_with fail
            refine Calls.mono HF.out ?_
            rintro e w1 ⟨rfl, hw1⟩
            subst w1
            go_wp2_with fail
            refine Calls.mono HC.out ?_
            rintro e w1 ⟨rfl, hw1⟩
            subst w1
            go_wp2_with fail
            refine Calls.mono HT.out ?_
            rintro e w1 ⟨rfl, hw1⟩
            subst w1
            go_wp2_with fail
            refine Calls.mono HW.out ?_
            rintro e w2 ⟨rfl, hw2⟩
            have H2 : Hid _ := hw2
            clear hw2 HW
            go_wp2_with fail
            go_ret
            exact ⟨by rw [HRR.out]; rfl, _, _, by rw [HRR.out]; exact DkTo.after HH.out.2.2.1 H2.out⟩
          · rw [if_neg ha, wr_done ha] at HW
            rw [act_done ha] at HRR
            clear ha
            go_enter Tryz.func30, Tryz.ntmps30
            go_wp2_with fail
            rw [← HE.out]
            refine Calls.mono HR.out ?_
            rintro e w1 ⟨rfl, hw1⟩
            subst w1
            go_wp2_with fail
            refine Calls.mono HF.out ?_
            rintro e w1 ⟨rfl, hw1⟩
            subst w1
            go_wp2_with fail
            refine Calls.mono HC.out ?_
            rintro e w1 ⟨rfl, hw1⟩
            subst w1
            go_wp2_with fail
            refine Calls.mono HT.out ?_
            rintro e w1 ⟨rfl, hw1⟩
            subst w1
            go_wp2_with fail
            refine Calls.mono HW.out ?_
            rintro e w2 ⟨rfl, hw2⟩
            have HA : Hid _ := dkAdd_any hw2.is HH.out.2.1.rise HB.out.2 n
            have H2 : Hid _ := hw2
            have hl2 := lt_of_block hw2.is.row
            clear hw2 HW
            go_wp2_with fail
            refine Calls.mono HA.out ?_
            rintro e w3 ⟨rfl, fv3, ht3⟩
            have hP : pl D.files n ≤ ms.length := by rw [HH.out.1.len]; exact pl_le _ _
            have hPf : pl D.files n ≤ D.files.length := pl_le _ _
            have hm3 : (ms.take (pl D.files n) ++ ⟨w2.heap.size, .slice none 0 0⟩ :: ms.drop (pl D.files n))[pl D.files n]? = some (⟨w2.heap.size, .slice none 0 0⟩ : FiM) := by rw [getElem?_ins _ _ _ _ hP, if_neg (by omega), if_pos rfl]
            have hf3 : (insF D.files ⟨n, [], 0⟩)[pl D.files n]? = some (⟨n, [], 0⟩ : FiD) := by unfold insF; rw [getElem?_ins _ _ _ _ hPf, if_neg (by omega), if_pos rfl]
            have hfm : FileAt w3 ⟨w2.heap.size, .slice none 0 0⟩ ⟨n, [], 0⟩ := ht3.is.file _ _ _ hm3 hf3
            have hk23 : Kept w w3 (· ∈ foot p fv ms) := (DkTo.after HH.out.2.2.1 (H2.out.trans ht3)).kept
            have hsz : w.heap.size ≤ w2.heap.size := (DkTo.after HH.out.2.2.1 H2.out).kept.size
            have hP2 := fappend_any hfm (fun k e => by cases e) (.slice ua ys.length uc) ys (HH.out.2.2.2.1.keptN hk23 (fun hy k e => (HH.out.2.2.2.2.1 hy k e).2)) (fun hy k e e' => by
              simp [FiM.blks, Value.ownBlock] at e'
              have := (HH.out.2.2.2.2.1 hy k e).1
              omega) (by have := HLY.out; simp; omega)
            have HP : Hid _ := hP2
            have H3 : Hid _ := ht3
            have HM3 : Hid _ := And.intro hm3 (And.intro hP hPf)
            have hlm := lt_of_block hfm.row
            clear ht3 HA hP2 hfm hm3 hf3 hk23 hP hPf hsz
            go_wp2_with fail
            refine Calls.mono HP.out ?_
            rintro e w4 ⟨rfl, v', ht⟩
            have HR4 : Hid (∃ fv' ms', DkTo w p fv ms w4 (D.done (appF D.files n ys)) fv' ms') := by
              have h4 := H3.out.is.setFile HM3.out.1 ht
              have e : (insF D.files ⟨n, [], 0⟩).set (pl D.files n) ⟨n, [] ++ ys, 0⟩ = appF D.files n ys := by
                unfold appF
                rw [HB.out.1]
                exact ins_set _ _ _ _ HM3.out.2.2
              have h5 := h4
              simp only [DkD.done] at h5
              rw [e] at h5
              exact ⟨_, _, DkTo.after HH.out.2.2.1 (H2.out.trans (H3.out.trans h5))⟩
            clear ht HP
            go_wp2_with fail
            go_ret
            obtain ⟨fv', ms', h⟩ := HR4.out
            exact ⟨by rw [HRR.out]; rfl, fv', ms', by rw [HRR.out]; exact h⟩
        · obtain ⟨hlt, hnn⟩ := (hasF_iff _ _).1 hb
          have hlm : pl D.files n < ms.length := by rw [HH.out.1.len]; exact hlt
          have hm : ms[pl D.files n]? = some ms[pl D.files n] := List.getElem?_eq_getElem hlm
          rw [if_pos hb, hm] at hF
          have HF : Hid _ := hF
          have HB : Hid (hasF D.files n = true ∧ (∃ f, D.files[pl D.files n]? = some f) ∧ ms[pl D.files n]? = some ms[pl D.files n]) := ⟨hb, ⟨_, List.getElem?_eq_getElem hlt⟩, hm⟩
          generalize ms[pl D.files n] = m at *
          clear hF e0 hon hnm hcr hft hb hnn hlt hlm hm HC
          by_cases ha : D.armed = 0
          · rw [if_pos ha, wr_off ha] at HW
            rw [act_off ha] at HRR
            clear ha
            go_enter Tryz.func30, Tryz.ntmps30
            go_wp2_with fail
            rw [← HE.out]
            refine Calls.mono HR.out ?_
            rintro e w1 ⟨rfl, hw1⟩
            subst w1
            go_wp2_with fail
            refine Calls.mono HF.out ?_
            rintro e w1 ⟨rfl, hw1⟩
            subst w1
            go_wp2_with fail
            refine Calls.mono HT.out ?_
            rintro e w1 ⟨rfl, hw1⟩
            subst w1
            go_wp2_with fail
            refine Calls.mono HW.out ?_
            rintro e w2 ⟨rfl, hw2⟩
            have H2 : Hid _ := hw2
            clear hw2 HW
            go_wp2_with fail
            go_ret
            exact ⟨by rw [HRR.out]; rfl, _, _, by rw [HRR.out]; exact DkTo.after HH.out.2.2.1 H2.out⟩
          · rw [if_neg ha, wr_done ha] at HW
            rw [act_done ha] at HRR
            clear ha
            go_enter Tryz.func30, Tryz.ntmps30
            go_wp2_with fail
            rw [← HE.out]
            refine Calls.mono HR.out ?_
            rintro e w1 ⟨rfl, hw1⟩
            subst w1
            go_wp2_with fail
            refine Calls.mono HF.out ?_
            rintro e w1 ⟨rfl, hw1⟩
            subst w1
            go_wp2_with fail
            refine Calls.mono HT.out ?_
            rintro e w1 ⟨rfl, hw1⟩
            subst w1
            go_wp2_with fail
            refine Calls.mono HW.out ?_
            rintro e w2 ⟨rfl, hw2⟩
            obtain ⟨hb, ⟨f, hf⟩, hm⟩ := HB.out
            have hfm : FileAt w2 m f := hw2.is.file _ m f hm hf
            have hndm := nodup_blks hw2.is.nd (List.mem_of_getElem? hm)
            have hvq : ∀ k, m.v.ownBlock = some k → k ≠ m.q := fun k e e' => by
              have := (List.nodup_cons.1 hndm).1
              rw [e, e'] at this
              simp at this
            have hk2 : Kept w w2 (· ∈ foot p fv ms) := (DkTo.after HH.out.2.2.1 hw2).kept
            have hfl : f.bytes.length ≤ 16777216 := by
              have := len_used (List.mem_of_getElem? hf)
              have := HH.out.2.1.fits
              have := HH.out.2.1.r1
              omega
            have hP2 := fappend_any hfm hvq (.slice ua ys.length uc) ys (HH.out.2.2.2.1.keptN hk2 (fun hy k e => (HH.out.2.2.2.2.1 hy k e).2)) (fun hy k e e' => (HH.out.2.2.2.2.1 hy k e).2 (by
              rcases List.mem_cons.1 e' with rfl | e''
              · exact mem_foot_q (List.mem_of_getElem? hm)
              · cases hv : m.v.ownBlock with
                | none => rw [hv] at e''; simp at e''
                | some j => rw [hv] at e''; simp at e''; rw [e'']; exact mem_foot_v (List.mem_of_getElem? hm) hv)) (by have := HLY.out; omega)
            have HP : Hid _ := hP2
            have H2 : Hid _ := hw2
            have HM : Hid _ := And.intro hm (And.intro hf hb)
            have hlm := lt_of_block hfm.row
            clear hw2 HW hP2 hfm hndm hvq hk2 hfl hm hf hb
            go_wp2_with fail
            refine Calls.mono HP.out ?_
            rintro e w4 ⟨rfl, v', ht⟩
            have HR4 : Hid (∃ fv' ms', DkTo w p fv ms w4 (D.done (appF D.files n ys)) fv' ms') := by
              have h4 := H2.out.is.setFile HM.out.1 ht
              have e : D.files.set (pl D.files n) ⟨f.name, f.bytes ++ ys, f.dur⟩ = appF D.files n ys := by
                unfold appF updF
                rw [HM.out.2.2, HM.out.2.1]
                rfl
              have h5 := h4
              simp only [DkD.done] at h5
              rw [e] at h5
              exact ⟨_, _, DkTo.after HH.out.2.2.1 (H2.out.trans h5)⟩
            clear ht HP
            go_wp2_with fail
            go_ret
            obtain ⟨fv', ms', h⟩ := HR4.out
            exact ⟨by rw [HRR.out]; rfl, fv', ms', by rw [HRR.out]; exact h⟩
      · have e21 : D.errA n ys.length = 21 := by unfold DkD.errA; rw [hon, hnm, if_pos rfl, if_pos rfl, if_neg hcr, if_neg hft]
        rw [e21, act_err (by decide)] at HRR
        rw [decide_eq_false hft] at HT
        cases hb : hasF D.files n
        · have hlen : ¬ 64 ≤ D.files.length := fun e => hcr ⟨hb, e⟩
          rw [hb] at hF
          have HF : Hid _ := hF
          rw [decide_eq_false (by omega : ¬ (64 : Int) ≤ D.files.length)] at HC
          clear hF e21 hon hnm hcr hft hb hlen HW
          go_enter Tryz.func30, Tryz.ntmps30
          go_wp2_with fail
          rw [← HE.out]
          refine Calls.mono HR.out ?_
          rintro e w1 ⟨rfl, hw1⟩
          subst w1
          go_wp2_with fail
          refine Calls.mono HF.out ?_
          rintro e w1 ⟨rfl, hw1⟩
          subst w1
          go_wp2_with fail
          refine Calls.mono HC.out ?_
          rintro e w1 ⟨rfl, hw1⟩
          subst w1
          go_wp2_with fail
          refine Calls.mono HT.out ?_
          rintro e w1 ⟨rfl, hw1⟩
          subst w1
          go_wp2_with fail
          go_ret
          exact ⟨by rw [HRR.out]; rfl, _, _, by rw [HRR.out]; exact (DkTo.refl HH.out.1).then HH.out.2.2.1⟩
        · obtain ⟨hlt, hnn⟩ := (hasF_iff _ _).1 hb
          have hlm : pl D.files n < ms.length := by rw [HH.out.1.len]; exact hlt
          rw [if_pos hb, List.getElem?_eq_getElem hlm] at hF
          have HF : Hid _ := hF
          generalize ms[pl D.files n] = m at *
          clear hF e21 hon hnm hcr hft hb hnn hlt hlm HW HC
          go_enter Tryz.func30, Tryz.ntmps30
          go_wp2_with fail
          rw [← HE.out]
          refine Calls.mono HR.out ?_
          rintro e w1 ⟨rfl, hw1⟩
          subst w1
          go_wp2_with fail
          refine Calls.mono HF.out ?_
          rintro e w1 ⟨rfl, hw1⟩
          subst w1
          go_wp2_with fail
          refine Calls.mono HT.out ?_
          rintro e w1 ⟨rfl, hw1⟩
          subst w1
          go_wp2_with fail
          go_ret
          exact ⟨by rw [HRR.out]; rfl, _, _, by rw [HRR.out]; exact (DkTo.refl HH.out.1).then HH.out.2.2.1⟩
  · obtain ⟨E, hE⟩ : ∃ E : Int, E = if D.on = true then (if isNm n = true then 0 else 22) else 23 := ⟨_, rfl⟩
    have hEn : D.errA n ys.length = E ∧ E ≠ 0 := by
      rw [hE]
      unfold DkD.errA
      cases hon : D.on
      · simp
      · cases hnm : isNm n
        · simp
        · exact absurd ⟨hon, hnm⟩ hq
    rw [← hE] at hR
    have HR : Hid _ := hR
    have hb : (E != 0) = true := by simpa using hEn.2
    rw [hEn.1, act_err hEn.2] at HRR
    clear hR hF hEn hq hE HW HC HT
    go_enter Tryz.func30, Tryz.ntmps30
    go_wp2_with fail
    rw [← HE.out]
    refine Calls.mono HR.out ?_
    rintro e w1 ⟨rfl, hw1⟩
    subst w1
    go_wp2_with fail
    go_ret
    exact ⟨by rw [HRR.out]; rfl, _, _, by rw [HRR.out]; exact (DkTo.refl HH.out.1).then HH.out.2.2.2.2.2⟩
end Go.Proofs.YtdhnbgeijfgfaaaGreatDoor
