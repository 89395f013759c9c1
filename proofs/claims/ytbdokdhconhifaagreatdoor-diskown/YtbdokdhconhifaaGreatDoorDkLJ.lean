/- A disk's calls: Rename, Append. -/
import Derived.Test.YtbdokdhconhifaaGreatDoorDkJJ
namespace Go.Proofs.YtbdokdhconhifaaGreatDoor
open Go.RowKit Go.Shelf
set_option maxRecDepth 8000

def DkD.errR (D : DkD) (a b : ByteArray) : Int := if D.on then (if isNm a && isNm b then (if hasF D.files a then 0 else 20) else 22) else 23

def renF (fs : List FiD) (a b : ByteArray) : List FiD := match fs[pl fs a]? with
  | some f => movF fs a b f
  | none => fs

def DkD.errA (D : DkD) (n : ByteArray) (k : Nat) : Int := if D.on then (if isNm n then (if hasF D.files n = false ∧ 64 ≤ D.files.length then 22 else (if (k : Int) ≤ D.room - usedD D.files then 0 else 21)) else 22) else 23

def appF (fs : List FiD) (n : ByteArray) (ys : List Int) : List FiD := if hasF fs n then updF fs n (fun f => ⟨f.name, f.bytes ++ ys, f.dur⟩) else insF fs ⟨n, ys, 0⟩

theorem ins_set {α : Type} (l : List α) (i : Nat) (x y : α) (hi : i ≤ l.length) : (l.take i ++ x :: l.drop i).set i y = l.take i ++ y :: l.drop i := by
  have hl : (l.take i).length = i := by simp; omega
  rw [List.set_append_right _ _ (by omega), hl, Nat.sub_self]
  rfl

set_option maxHeartbeats 2000000 in
theorem append_any {w : World} {p : Nat} {fv : Value} {ms : List FiM} {D : DkD} (h : IsDk w p fv ms D) (ok : DkOk D) (hw : D.writes ≤ 4611686018427387904) (n : ByteArray) (u : Value) (ys : List Int) (hu : Sees w u ys) (hap : ys ≠ [] → ∀ k, u.ownBlock = some k → k < w.heap.size ∧ k ∉ foot p fv ms) (hyl : ys.length ≤ 100000000000) :
    Calls Tryz.prog 30 #[.pointer (some ⟨p, 0, none⟩), .string n, u] w (ActTo w p fv ms (D.act (D.errA n ys.length) (appF D.files n ys))) := by
  obtain ⟨V, eV⟩ : ∃ V, V = w.alloc (.cells #[.string n] 9) := ⟨_, rfl⟩
  have hbV : Below w.heap.size w V := by rw [eV]; exact one_allocK _ _
  have hV : IsDk V p fv ms D := h.later hbV
  have hR := ready_any hV w.heap.size [n] (fun k x hk => by
    cases k with
    | zero => simp at hk; subst hk; rw [eV]; exact cell_of_row _ _ 0 _ _ _ (heap_alloc_new w _)
    | succ k => simp at hk) (by simp)
  have hF := find_any hV ok.rise ok.few n
  have hl := lt_of_block h.row
  have hlV := lt_of_block hV.row
  have hbD : Below V.heap.size V V.drew := below_drewN (Below.refl _ _) 1
  have hVD : IsDk V.drew p fv ms D := hV.later hbD
  have HW : Hid _ := dkWrite_any hVD ok.a0 ok.a1 ok.w0 hw
  have HC : Hid _ := crowded_any hV
  have hus : usedD D.files ≤ 1000000000000 := by have := ok.fits; have := ok.r1; omega
  have HT : Hid _ := fits_any hV ok.few hus ok.r0 (by have := ok.r1; omega) ys.length
  have HE : Hid _ := eV
  simp only [List.all_cons, List.all_nil, Bool.and_true, List.length_singleton] at hR
  obtain ⟨ua, uc, huv, _⟩ := id hu
  have HH : Hid (IsDk w p fv ms D ∧ DkOk D ∧ Below w.heap.size w V.drew ∧ Sees w u ys ∧ (ys ≠ [] → ∀ k, u.ownBlock = some k → k < w.heap.size ∧ k ∉ foot p fv ms) ∧ Below w.heap.size w V) := ⟨h, ok, Below.step hbV hbD, hu, hap, hbV⟩
  obtain ⟨r, hr⟩ : ∃ r, r = D.act (D.errA n ys.length) (appF D.files n ys) := ⟨_, rfl⟩
  rw [← hr]
  have HRR : Hid _ := hr
  have HLY : Hid _ := hyl
  subst huv
  clear h hV ok eV hbV hr hu hap hbD hVD hus hyl
  by_cases hq : D.on = true ∧ isNm n = true
  · obtain ⟨hon, hnm⟩ := hq
    rw [hon, hnm] at hR
    have HR : Hid _ := hR
    clear hR
    by_cases hcr : hasF D.files n = false ∧ 64 ≤ D.files.length
    · have e22 : D.errA n ys.length = 22 := by unfold DkD.errA; rw [hon, hnm, if_pos rfl, if_pos rfl, if_pos hcr]
      rw [e22, act_err (by decide)] at HRR
      rw [hcr.1] at hF
      have HF : Hid _ := hF
      rw [decide_eq_true (by omega : (64 : Int) ≤ D.files.length)] at HC
      clear hF e22 hon hnm hcr HW HT
      go_enter Tryz.func30, Tryz.ntmps30
      go_wp2_with fail
      rw [← HE.out]
      refine Calls.mono HR.out ?_
      rintro e w1 ⟨rfl, hw1⟩
      subst w1
      go_wp2_with fail
      refine Calls.mono HF.out ?_
      rintro e w1 ⟨rfl, hw1⟩
      subst w1
      go_wp2_with fail
      refine Calls.mono HC.out ?_
      rintro e w1 ⟨rfl, hw1⟩
      subst w1
      go_wp2_with fail
      go_ret
      exact ⟨by rw [HRR.out]; rfl, _, _, by rw [HRR.out]; exact (DkTo.refl HH.out.1).then HH.out.2.2.2.2.2⟩
    · by_cases hft : (ys.length : Int) ≤ D.room - usedD D.files
      · have e0 : D.errA n ys.length = 0 := by unfold DkD.errA; rw [hon, hnm, if_pos rfl, if_pos rfl, if_neg hcr, if_pos hft]
        rw [e0] at HRR
        rw [decide_eq_true hft] at HT
        have HFT : Hid _ := hft
        cases hb : hasF D.files n
        · have hlen : ¬ 64 ≤ D.files.length := fun e => hcr ⟨hb, e⟩
          rw [hb] at hF
          have HF : Hid _ := hF
          have HB : Hid (hasF D.files n = false ∧ D.files.length ≤ 63) := ⟨hb, by omega⟩
          rw [decide_eq_false (by omega : ¬ (64 : Int) ≤ D.files.length)] at HC
          clear hF e0 hon hnm hcr hft hb hlen
          by_cases ha : D.armed = 0
          · rw [if_pos ha, wr_off ha] at HW
            rw [act_off ha] at HRR
            clear ha
            go_enter Tryz.func30, Tryz.ntmps30
            go_wp2_with fail
            rw [← HE.out]
            refine Calls.mono HR.out ?_
            rintro e w1 ⟨rfl, hw1⟩
            subst w1
            go_wp2_with fail
            refine Calls.mono HF.out ?_
            rintro e w1 ⟨rfl, hw1⟩
            subst w1
            go_wp2_with fail
            refine Calls.mono HC.out ?_
            rintro e w1 ⟨rfl, hw1⟩
            subst w1
            go_wp2_with fail
            refine Calls.mono HT.out ?_
            rintro e w1 ⟨rfl, hw1⟩
            subst w1
            go_wp2_with fail
            refine Calls.mono HW.out ?_
            rintro e w2 ⟨rfl, hw2⟩
            have H2 : Hid _ := hw2
            clear hw2 HW
            go_wp2_with fail
            go_ret
            exact ⟨by rw [HRR.out]; rfl, _, _, by rw [HRR.out]; exact DkTo.after HH.out.2.2.1 H2.out⟩
          · rw [if_neg ha, wr_done ha] at HW
            rw [act_done ha] at HRR
            clear ha
            go_enter Tryz.func30, Tryz.ntmps30
            go_wp2_with fail
            rw [← HE.out]
            refine Calls.mono HR.out ?_
            rintro e w1 ⟨rfl, hw1⟩
            subst w1
            go_wp2_with fail
            refine Calls.mono HF.out ?_
            rintro e w1 ⟨rfl, hw1⟩
            subst w1
            go_wp2_with fail
            refine Calls.mono HC.out ?_
            rintro e w1 ⟨rfl, hw1⟩
            subst w1
            go_wp2_with fail
            refine Calls.mono HT.out ?_
            rintro e w1 ⟨rfl, hw1⟩
            subst w1
            go_wp2_with fail
            refine Calls.mono HW.out ?_
            rintro e w2 ⟨rfl, hw2⟩
            have HA : Hid _ := dkAdd_any hw2.is HH.out.2.1.rise HB.out.2 n
            have H2 : Hid _ := hw2
            have hl2 := lt_of_block hw2.is.row
            clear hw2 HW
            go_wp2_with fail
            refine Calls.mono HA.out ?_
            rintro e w3 ⟨rfl, fv3, ht3⟩
            have hP : pl D.files n ≤ ms.length := by rw [HH.out.1.len]; exact pl_le _ _
            have hPf : pl D.files n ≤ D.files.length := pl_le _ _
            have hm3 : (ms.take (pl D.files n) ++ ⟨w2.heap.size, .slice none 0 0⟩ :: ms.drop (pl D.files n))[pl D.files n]? = some (⟨w2.heap.size, .slice none 0 0⟩ : FiM) := by rw [getElem?_ins _ _ _ _ hP, if_neg (by omega), if_pos rfl]
            have hf3 : (insF D.files ⟨n, [], 0⟩)[pl D.files n]? = some (⟨n, [], 0⟩ : FiD) := by unfold insF; rw [getElem?_ins _ _ _ _ hPf, if_neg (by omega), if_pos rfl]
            have hfm : FileAt w3 ⟨w2.heap.size, .slice none 0 0⟩ ⟨n, [], 0⟩ := ht3.is.file _ _ _ hm3 hf3
            have hk23 : Kept w w3 (· ∈ foot p fv ms) := (DkTo.after HH.out.2.2.1 (H2.out.trans ht3)).kept
            have hsz : w.heap.size ≤ w2.heap.size := (DkTo.after HH.out.2.2.1 H2.out).kept.size
            have hP2 := fappend_any hfm (fun k e => by cases e) (.slice ua ys.length uc) ys (HH.out.2.2.2.1.keptN hk23 (fun hy k e => (HH.out.2.2.2.2.1 hy k e).2)) (fun hy k e e' => by
              simp [FiM.blks, Value.ownBlock] at e'
              have := (HH.out.2.2.2.2.1 hy k e).1
              omega) (by have := HLY.out; simp; omega)
            have HP : Hid _ := hP2
            have H3 : Hid _ := ht3
            have HM3 : Hid _ := And.intro hm3 (And.intro hP hPf)
            have hlm := lt_of_block hfm.row
            clear ht3 HA hP2 hfm hm3 hf3 hk23 hP hPf hsz
            go_wp2_with fail
            refine Calls.mono HP.out ?_
            rintro e w4 ⟨rfl, v', ht⟩
            have HR4 : Hid (∃ fv' ms', DkTo w p fv ms w4 (D.done (appF D.files n ys)) fv' ms') := by
              have h4 := H3.out.is.setFile HM3.out.1 ht
              have e : (insF D.files ⟨n, [], 0⟩).set (pl D.files n) ⟨n, [] ++ ys, 0⟩ = appF D.files n ys := by
                unfold appF
                rw [HB.out.1]
                exact ins_set _ _ _ _ HM3.out.2.2
              have h5 := h4
              simp only [DkD.done] at h5
              rw [e] at h5
              exact ⟨_, _, DkTo.after HH.out.2.2.1 (H2.out.trans (H3.out.trans h5))⟩
            clear ht HP
            go_wp2_with fail
            go_ret
            obtain ⟨fv', ms', h⟩ := HR4.out
            exact ⟨by rw [HRR.out]; rfl, fv', ms', by rw [HRR.out]; exact h⟩
        · obtain ⟨hlt, hnn⟩ := (hasF_iff _ _).1 hb
          have hlm : pl D.files n < ms.length := by rw [HH.out.1.len]; exact hlt
          have hm : ms[pl D.files n]? = some ms[pl D.files n] := List.getElem?_eq_getElem hlm
          rw [if_pos hb, hm] at hF
          have HF : Hid _ := hF
          have HB : Hid (hasF D.files n = true ∧ (∃ f, D.files[pl D.files n]? = some f) ∧ ms[pl D.files n]? = some ms[pl D.files n]) := ⟨hb, ⟨_, List.getElem?_eq_getElem hlt⟩, hm⟩
          generalize ms[pl D.files n] = m at *
          clear hF e0 hon hnm hcr hft hb hnn hlt hlm hm HC
          by_cases ha : D.armed = 0
          · rw [if_pos ha, wr_off ha] at HW
            rw [act_off ha] at HRR
            clear ha
            go_enter Tryz.func30, Tryz.ntmps30
            go_wp2_with fail
            rw [← HE.out]
            refine Calls.mono HR.out ?_
            rintro e w1 ⟨rfl, hw1⟩
            subst w1
            go_wp2_with fail
            refine Calls.mono HF.out ?_
            rintro e w1 ⟨rfl, hw1⟩
            subst w1
            go_wp2_with fail
            refine Calls.mono HT.out ?_
            rintro e w1 ⟨rfl, hw1⟩
            subst w1
            go_wp2_with fail
            refine Calls.mono HW.out ?_
            rintro e w2 ⟨rfl, hw2⟩
            have H2 : Hid _ := hw2
            clear hw2 HW
            go_wp2_with fail
            go_ret
            exact ⟨by rw [HRR.out]; rfl, _, _, by rw [HRR.out]; exact DkTo.after HH.out.2.2.1 H2.out⟩
          · rw [if_neg ha, wr_done ha] at HW
            rw [act_done ha] at HRR
            clear ha
            go_enter Tryz.func30, Tryz.ntmps30
            go_wp2_with fail
            rw [← HE.out]
            refine Calls.mono HR.out ?_
            rintro e w1 ⟨rfl, hw1⟩
            subst w1
            go_wp2_with fail
            refine Calls.mono HF.out ?_
            rintro e w1 ⟨rfl, hw1⟩
            subst w1
            go_wp2_with fail
            refine Calls.mono HT.out ?_
            rintro e w1 ⟨rfl, hw1⟩
            subst w1
            go_wp2_with fail
            refine Calls.mono HW.out ?_
            rintro e w2 ⟨rfl, hw2⟩
            obtain ⟨hb, ⟨f, hf⟩, hm⟩ := HB.out
            have hfm : FileAt w2 m f := hw2.is.file _ m f hm hf
            have hndm := nodup_blks hw2.is.nd (List.mem_of_getElem? hm)
            have hvq : ∀ k, m.v.ownBlock = some k → k ≠ m.q := fun k e e' => by
              have := (List.nodup_cons.1 hndm).1
              rw [e, e'] at this
              simp at this
            have hk2 : Kept w w2 (· ∈ foot p fv ms) := (DkTo.after HH.out.2.2.1 hw2).kept
            have hfl : f.bytes.length ≤ 16777216 := by
              have := len_used (List.mem_of_getElem? hf)
              have := HH.out.2.1.fits
              have := HH.out.2.1.r1
              omega
            have hP2 := fappend_any hfm hvq (.slice ua ys.length uc) ys (HH.out.2.2.2.1.keptN hk2 (fun hy k e => (HH.out.2.2.2.2.1 hy k e).2)) (fun hy k e e' => (HH.out.2.2.2.2.1 hy k e).2 (by
              rcases List.mem_cons.1 e' with rfl | e''
              · exact mem_foot_q (List.mem_of_getElem? hm)
              · cases hv : m.v.ownBlock with
                | none => rw [hv] at e''; simp at e''
                | some j => rw [hv] at e''; simp at e''; rw [e'']; exact mem_foot_v (List.mem_of_getElem? hm) hv)) (by have := HLY.out; omega)
            have HP : Hid _ := hP2
            have H2 : Hid _ := hw2
            have HM : Hid _ := And.intro hm (And.intro hf hb)
            have hlm := lt_of_block hfm.row
            clear hw2 HW hP2 hfm hndm hvq hk2 hfl hm hf hb
            go_wp2_with fail
            refine Calls.mono HP.out ?_
            rintro e w4 ⟨rfl, v', ht⟩
            have HR4 : Hid (∃ fv' ms', DkTo w p fv ms w4 (D.done (appF D.files n ys)) fv' ms') := by
              have h4 := H2.out.is.setFile HM.out.1 ht
              have e : D.files.set (pl D.files n) ⟨f.name, f.bytes ++ ys, f.dur⟩ = appF D.files n ys := by
                unfold appF updF
                rw [HM.out.2.2, HM.out.2.1]
                rfl
              have h5 := h4
              simp only [DkD.done] at h5
              rw [e] at h5
              exact ⟨_, _, DkTo.after HH.out.2.2.1 (H2.out.trans h5)⟩
            clear ht HP
            go_wp2_with fail
            go_ret
            obtain ⟨fv', ms', h⟩ := HR4.out
            exact ⟨by rw [HRR.out]; rfl, fv', ms', by rw [HRR.out]; exact h⟩
      · have e21 : D.errA n ys.length = 21 := by unfold DkD.errA; rw [hon, hnm, if_pos rfl, if_pos rfl, if_neg hcr, if_neg hft]
        rw [e21, act_err (by decide)] at HRR
        rw [decide_eq_false hft] at HT
        cases hb : hasF D.files n
        · have hlen : ¬ 64 ≤ D.files.length := fun e => hcr ⟨hb, e⟩
          rw [hb] at hF
          have HF : Hid _ := hF
          rw [decide_eq_false (by omega : ¬ (64 : Int) ≤ D.files.length)] at HC
          clear hF e21 hon hnm hcr hft hb hlen HW
          go_enter Tryz.func30, Tryz.ntmps30
          go_wp2_with fail
          rw [← HE.out]
          refine Calls.mono HR.out ?_
          rintro e w1 ⟨rfl, hw1⟩
          subst w1
          go_wp2_with fail
          refine Calls.mono HF.out ?_
          rintro e w1 ⟨rfl, hw1⟩
          subst w1
          go_wp2_with fail
          refine Calls.mono HC.out ?_
          rintro e w1 ⟨rfl, hw1⟩
          subst w1
          go_wp2_with fail
          refine Calls.mono HT.out ?_
          rintro e w1 ⟨rfl, hw1⟩
          subst w1
          go_wp2_with fail
          go_ret
          exact ⟨by rw [HRR.out]; rfl, _, _, by rw [HRR.out]; exact (DkTo.refl HH.out.1).then HH.out.2.2.1⟩
        · obtain ⟨hlt, hnn⟩ := (hasF_iff _ _).1 hb
          have hlm : pl D.files n < ms.length := by rw [HH.out.1.len]; exact hlt
          rw [if_pos hb, List.getElem?_eq_getElem hlm] at hF
          have HF : Hid _ := hF
          generalize ms[pl D.files n] = m at *
          clear hF e21 hon hnm hcr hft hb hnn hlt hlm HW HC
          go_enter Tryz.func30, Tryz.ntmps30
          go_wp2_with fail
          rw [← HE.out]
          refine Calls.mono HR.out ?_
          rintro e w1 ⟨rfl, hw1⟩
          subst w1
          go_wp2_with fail
          refine Calls.mono HF.out ?_
          rintro e w1 ⟨rfl, hw1⟩
          subst w1
          go_wp2_with fail
          refine Calls.mono HT.out ?_
          rintro e w1 ⟨rfl, hw1⟩
          subst w1
          go_wp2_with fail
          go_ret
          exact ⟨by rw [HRR.out]; rfl, _, _, by rw [HRR.out]; exact (DkTo.refl HH.out.1).then HH.out.2.2.1⟩
  · obtain ⟨E, hE⟩ : ∃ E : Int, E = if D.on = true then (if isNm n = true then 0 else 22) else 23 := ⟨_, rfl⟩
    have hEn : D.errA n ys.length = E ∧ E ≠ 0 := by
      rw [hE]
      unfold DkD.errA
      cases hon : D.on
      · simp
      · cases hnm : isNm n
        · simp
        · exact absurd ⟨hon, hnm⟩ hq
    rw [← hE] at hR
    have HR : Hid _ := hR
    have hb : (E != 0) = true := by simpa using hEn.2
    rw [hEn.1, act_err hEn.2] at HRR
    clear hR hF hEn hq hE HW HC HT
    go_enter Tryz.func30, Tryz.ntmps30
    go_wp2_with fail
    rw [← HE.out]
    refine Calls.mono HR.out ?_
    rintro e w1 ⟨rfl, hw1⟩
    subst w1
    go_wp2_with fail
    go_ret
    exact ⟨by rw [HRR.out]; rfl, _, _, by rw [HRR.out]; exact (DkTo.refl HH.out.1).then HH.out.2.2.2.2.2⟩
end Go.Proofs.YtbdokdhconhifaaGreatDoor

/- A disk's Start: the power given back. -/
namespace Go.Proofs.YtbdokdhconhifaaGreatDoor
open Go.RowKit Go.Shelf
set_option maxRecDepth 8000

/-- A list of ints in memory. -/
def SeesN (w : World) (v : Value) (ks : List Int) : Prop :=
  ∃ ao cap, v = .slice ao ks.length cap ∧ ks.length ≤ cap ∧ cap ≤ maxLen ∧ (ks = [] ∨ ∃ b off, ao = some ⟨b, off, none⟩ ∧ ∀ i, i < ks.length → w.cell? ⟨b, off + i, none⟩ = some (.int .i64 (ks.getD i 0)))

theorem SeesN.kept {w w' : World} {S : Nat → Prop} {v : Value} {ks : List Int} (h : SeesN w v ks) (hk : Kept w w' S) (hn : ks ≠ [] → ∀ k, v.ownBlock = some k → ¬ S k) : SeesN w' v ks := by
  obtain ⟨ao, cap, rfl, g1, g2, g3⟩ := h
  refine ⟨ao, cap, rfl, g1, g2, ?_⟩
  rcases g3 with g3 | ⟨b, off, rfl, g3⟩
  · exact .inl g3
  · refine .inr ⟨b, off, rfl, fun i hi => ?_⟩
    have hc := g3 i hi
    rw [World.cell?_of_block (hk.block b (World.block_lt_of_cell? w ⟨b, off + i, none⟩ hc) (hn (fun e => by rw [e] at hi; simp at hi) b rfl))]
    exact hc

def lossAt (f : FiD) (k : Int) : FiD := ⟨f.name, f.bytes.take (leftN f k), leftN f k⟩
def lossK (fs : List FiD) (ks : List Int) (k : Nat) : List FiD := fs.mapIdx fun i f => if i < k then lossAt f (ks.getD i 0) else f
def lossF (fs : List FiD) (ks : List Int) : List FiD := fs.mapIdx fun i f => lossAt f (ks.getD i 0)

theorem lossK_len (fs : List FiD) (ks : List Int) (k : Nat) : (lossK fs ks k).length = fs.length := by simp [lossK]
theorem lossK_zero (fs : List FiD) (ks : List Int) : lossK fs ks 0 = fs := by
  apply List.ext_getElem?
  intro j
  simp [lossK, List.getElem?_mapIdx]
theorem lossK_all (fs : List FiD) (ks : List Int) : lossK fs ks fs.length = lossF fs ks := by
  apply List.ext_getElem?
  intro j
  simp only [lossK, lossF, List.getElem?_mapIdx]
  by_cases hj : j < fs.length
  · rw [List.getElem?_eq_getElem hj]
    simp [hj]
  · rw [List.getElem?_eq_none (by omega)]
    rfl
theorem lossK_at (fs : List FiD) (ks : List Int) (k : Nat) (hk : k < fs.length) : (lossK fs ks k)[k]? = some fs[k] := by
  simp [lossK, List.getElem?_mapIdx, List.getElem?_eq_getElem hk]
theorem lossK_next (fs : List FiD) (ks : List Int) (k : Nat) (hk : k < fs.length) : (lossK fs ks k).set k (lossAt fs[k] (ks.getD k 0)) = lossK fs ks (k + 1) := by
  apply List.ext_getElem?
  intro j
  rw [List.getElem?_set, lossK_len]
  by_cases hj : k = j
  · subst hj
    rw [if_pos rfl, if_pos hk]
    simp [lossK, List.getElem?_mapIdx, List.getElem?_eq_getElem hk]
  · rw [if_neg hj]
    simp only [lossK, List.getElem?_mapIdx]
    by_cases hl : j < k
    · simp [hl, show j < k + 1 by omega]
    · simp [hl, show ¬ j < k + 1 by omega]

def DkD.start (D : DkD) (ks : List Int) : DkD := if D.on then D else { D with on := true, files := lossF D.files ks }

set_option maxHeartbeats 2000000 in
theorem start_any {w : World} {p : Nat} {fv : Value} {ms : List FiM} {D : DkD} (h : IsDk w p fv ms D) (ok : DkOk D) (v : Value) (ks : List Int) (hv : SeesN w v ks) (hap : ks ≠ [] → ∀ k, v.ownBlock = some k → k ∉ foot p fv ms) :
    Calls Tryz.prog 33 #[.pointer (some ⟨p, 0, none⟩), v] w fun e w' => e = .returned (.tuple #[]) ∧ ∃ ms', DkTo w p fv ms w' (D.start ks) fv ms' := by
  obtain ⟨c0, c1, c2, c3, c4, c5⟩ := h.cells
  have hl := lt_of_block h.row
  obtain ⟨ka, kc, rfl, hkc, hkm, _⟩ := id hv
  unfold maxLen at hkm
  have HH : Hid (IsDk w p fv ms D ∧ DkOk D ∧ SeesN w (.slice ka ks.length kc) ks ∧ (ks ≠ [] → ∀ k, (Value.slice ka ks.length kc).ownBlock = some k → k ∉ foot p fv ms)) := ⟨h, ok, hv, hap⟩
  have f3 : w.frozen? ⟨p, 3, none⟩ = false := frozen_of_row w p 3 _ _ h.row
  obtain ⟨fa, fc, hfv, hfc, hfm⟩ := fv_shape h
  unfold maxLen at hfm
  have hlen := h.len
  have HFV : Hid _ := hfv
  rw [hfv, hlen] at c0
  rw [hlen] at hfc
  have HLN : Hid _ := hlen
  clear h ok hv hap hfv hlen
  cases hon : D.on
  · rw [hon] at c3
    have H0 : Hid (∃ ms', DkTo w p fv ms (w.setCell ⟨p, 3, none⟩ (.bool true)) { D with on := true, files := lossK D.files ks 0 } fv ms') := by
      rw [lossK_zero]
      exact ⟨ms, HH.out.1.fields (Kept.setCell (Kept.refl _ (fun k => k = p)) ⟨p, 3, none⟩ _ (fun _ => rfl)) (heap_setK _ HH.out.1.row) rfl⟩
    have HS : Hid (D.start ks = { D with on := true, files := lossF D.files ks }) := by show _ = _; unfold DkD.start; rw [hon]; rfl
    go_enter Tryz.func33, Tryz.ntmps33
    go_wp2_with fail
    go_loopw [31] (fun vi wr => ∃ k : Nat, k ≤ D.files.length ∧ vi = .int .i64 k ∧ Hid (∃ ms', DkTo w p fv ms wr { D with on := true, files := lossK D.files ks k } fv ms')) (fun vi _ => D.files.length - (intOf vi).toNat)
    case atStart => exact ⟨0, Nat.zero_le _, rfl, H0⟩
    case round =>
      obtain ⟨k, hk, rfl, HI⟩ := hrel
      clear c0 c1 c2 c3 c4 c5 f3 H0
      by_cases hlt : k < D.files.length
      · obtain ⟨ms1, ht1⟩ := HI.out
        have hl1 : ms1.length = D.files.length := by rw [ht1.is.len]; exact lossK_len _ _ _
        have hkm1 : k < ms1.length := by omega
        obtain ⟨g, cap, hfv1, hp1⟩ := ptr_at ht1.is k hkm1
        rw [HFV.out] at hfv1
        obtain ⟨rfl, _, rfl⟩ : fa = some ⟨g, 0, none⟩ ∧ ms.length = ms1.length ∧ fc = cap := by simpa using hfv1
        have hm1 : ms1[k]? = some ms1[k] := List.getElem?_eq_getElem hkm1
        have hf1 := ht1.is.file k _ _ hm1 (lossK_at D.files ks k hlt)
        have hmem : D.files[k] ∈ D.files := List.getElem_mem hlt
        have hd := HH.out.2.1.durs _ hmem
        have hsm : D.files[k].bytes.length ≤ 1000000000000 := by
          have := len_used hmem
          have := HH.out.2.1.fits
          have := HH.out.2.1.r1
          omega
        have hndm := nodup_blks ht1.is.nd (List.mem_of_getElem? hm1)
        have hvq : ∀ j, ms1[k].v.ownBlock = some j → j ≠ ms1[k].q := fun j e e' => by
          have := (List.nodup_cons.1 hndm).1
          rw [e, e'] at this
          simp at this
        have HLL : Hid (∀ keep : Int, keep = ks.getD k 0 → Calls Tryz.prog 72 #[.pointer (some ⟨ms1[k].q, 0, none⟩), .int .i64 keep] wr fun e w' => e = .returned (.tuple #[]) ∧ ∃ ms', DkTo w p (.slice (some ⟨g, 0, none⟩) ms.length fc) ms w' { D with on := true, files := lossK D.files ks (k + 1) } (.slice (some ⟨g, 0, none⟩) ms.length fc) ms') := fun keep e => by
          subst e
          refine (lose_any hf1 hvq (ks.getD k 0) hd.1 hd.2 hsm).mono ?_
          rintro e w' ⟨rfl, v', ht, _⟩
          refine ⟨rfl, ms1.set k ⟨ms1[k].q, v'⟩, ?_⟩
          have h3 := ht1.is.setFile hm1 ht
          have e2 := lossK_next D.files ks k hlt
          unfold lossAt at e2
          simp only at h3
          rw [e2] at h3
          have ht1' := ht1
          rw [HFV.out] at ht1' h3
          exact ht1'.trans h3
        have hks : SeesN wr (.slice ka ks.length kc) ks := HH.out.2.2.1.kept ht1.kept (fun hy j e => HH.out.2.2.2 hy j e)
        have hlm := lt_of_block hf1.row
        generalize ms1[k].q = mq at *
        clear ht1 hfv1 hm1 hf1 hmem hd hsm hndm hvq HI hkm1 hl1
        by_cases hkk : k < ks.length
        · have hd1 : decide ((k : Int) < (ks.length : Int)) = true := decide_eq_true (by omega)
          obtain ⟨_, _, e, _, _, h0 | ⟨b, off, e2, hc⟩⟩ := hks
          · rw [h0] at hkk; simp at hkk
          · have e3 : ka = some ⟨b, off, none⟩ := by
              have := (Value.slice.inj e).1
              rw [this]; exact e2
            have hck := hc k hkk
            subst e3
            clear hc e e2
            have HLX : Hid _ := HLL.out _ rfl
            clear HLL
            generalize ks.getD k 0 = kv at *
            go_wp2_with fail
            refine Calls.mono HLX.out ?_
            rintro e w2 ⟨rfl, hw2⟩
            have H2 : Hid _ := hw2
            clear hw2 HLX
            go_wp2_with fail
            go_roundw
            case rel => exact ⟨k + 1, by omega, by go_num, by rw [HFV.out]; exact H2.out⟩
            case measure => simp [intOf]; omega
        · have hd1 : decide ((k : Int) < (ks.length : Int)) = false := decide_eq_false (by omega)
          have HLX : Hid _ := HLL.out 0 (by rw [List.getD_eq_getElem?_getD, List.getElem?_eq_none (by omega)]; rfl)
          clear HLL hks
          go_wp2_with fail
          refine Calls.mono HLX.out ?_
          rintro e w2 ⟨rfl, hw2⟩
          have H2 : Hid _ := hw2
          clear hw2 HLX
          go_wp2_with fail
          go_roundw
          case rel => exact ⟨k + 1, by omega, by go_num, by rw [HFV.out]; exact H2.out⟩
          case measure => simp [intOf]; omega
      · obtain rfl : k = D.files.length := by omega
        go_wp2_with fail
        go_end0
        refine ⟨rfl, ?_⟩
        rw [HS.out, ← lossK_all]
        exact HI.out
  · rw [hon] at c3
    have HS : Hid (D.start ks = D) := by show _ = _; unfold DkD.start; rw [hon]; rfl
    go_enter Tryz.func33, Tryz.ntmps33
    go_wp2_with fail
    all_goals (first | go_end0 | refine bodyPost_ret (results_none rfl _ _ _) rfl ?_)
    refine ⟨rfl, ms, ?_⟩
    rw [HS.out]
    exact DkTo.refl HH.out.1
end Go.Proofs.YtbdokdhconhifaaGreatDoor
