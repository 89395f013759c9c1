/- The document's disk: Arm, write, Sum. -/
import Derived.Test.YtdhnbgeijfgfaaaGreatDoorRdCJ
import Derived.Deep.RegionHeld
namespace Go.Proofs.YtdhnbgeijfgfaaaGreatDoor
open Go.RowKit Go.Shelf
set_option maxRecDepth 8000

theorem refArm_any {w : World} {p : Nat} {fv : Value} {vs : List Value} {R : RD} (h : IsRd w p fv vs R) (n : Int) : Calls Tryz.prog 41 #[.pointer (some ⟨p, 0, none⟩), .int .i64 n] w fun e w' => e = .returned (.tuple #[]) ∧ RdTo w p fv vs w' (R.arm n) fv vs := by
  obtain ⟨c0, c1, c2, c3, c4, c5⟩ := h.cells
  have hl := lt_of_block h.row
  have f3 : w.frozen? ⟨p, 3, none⟩ = false := frozen_of_row w p 3 _ _ h.row
  have f4 : w.frozen? ⟨p, 4, none⟩ = false := frozen_of_row w p 4 _ _ h.row
  cases hp : R.power
  · have HR : Hid (RdTo w p fv vs w (R.arm n) fv vs) := by
      unfold RD.arm
      rw [hp]
      exact RdTo.refl h
    rw [hp] at c2
    clear h hp
    go_enter Tryz.func41, Tryz.ntmps41
    go_wp2_with fail
    go_end0
    exact ⟨rfl, HR.out⟩
  · obtain ⟨b, hb⟩ : ∃ b, b = decide (0 ≤ n) := ⟨_, rfl⟩
    have hb' : decide (n ≥ 0) = b := hb.symm
    have HR : Hid (RdTo w p fv vs ((w.setCell ⟨p, 3, none⟩ (.bool b)).setCell ⟨p, 4, none⟩ (.int .i64 n)) (R.arm n) fv vs) := by
      have e : R.arm n = { R with armed := b, more := n } := by
        unfold RD.arm
        rw [if_pos hp, hb]
      rw [e]
      exact h.fields (Kept.setCell (Kept.setCell (Kept.refl _ (fun k => k = p)) ⟨p, 3, none⟩ _ (fun _ => rfl)) ⟨p, 4, none⟩ _ (fun _ => rfl)) (heap_setK _ (heap_setK _ h.row)) rfl
    rw [hp] at c2
    clear h hp hb
    go_enter Tryz.func41, Tryz.ntmps41
    go_wp2_with fail
    go_end0
    exact ⟨rfl, HR.out⟩

theorem refWrite_any {w : World} {p : Nat} {fv : Value} {vs : List Value} {R : RD} (h : IsRd w p fv vs R) (hm : R.armed = true → 0 ≤ R.more) (hm' : R.more ≤ 9223372036854775807) (hd : 0 ≤ R.done) (hd' : R.done ≤ 4611686018427387904) : Calls Tryz.prog 83 #[.pointer (some ⟨p, 0, none⟩)] w fun e w' => e = .returned (.bool R.write.1) ∧ RdTo w p fv vs w' R.write.2 fv vs := by
  obtain ⟨c0, c1, c2, c3, c4, c5⟩ := h.cells
  have hl := lt_of_block h.row
  have f2 : w.frozen? ⟨p, 2, none⟩ = false := frozen_of_row w p 2 _ _ h.row
  have f3 : w.frozen? ⟨p, 3, none⟩ = false := frozen_of_row w p 3 _ _ h.row
  have f4 : w.frozen? ⟨p, 4, none⟩ = false := frozen_of_row w p 4 _ _ h.row
  have f5 : w.frozen? ⟨p, 5, none⟩ = false := frozen_of_row w p 5 _ _ h.row
  cases ha : R.armed
  · have e : R.write = (true, { R with done := R.done + 1 }) := by unfold RD.write; rw [if_neg (by rw [ha]; simp)]
    rw [e]
    have HR : Hid (RdTo w p fv vs (w.setCell ⟨p, 5, none⟩ (.int .i64 (R.done + 1))) { R with done := R.done + 1 } fv vs) := h.fields (Kept.setCell (Kept.refl _ (fun k => k = p)) ⟨p, 5, none⟩ _ (fun _ => rfl)) (heap_setK _ h.row) rfl
    rw [ha] at c3
    clear h e ha hm
    go_enter Tryz.func83, Tryz.ntmps83
    go_wp2_with fail
    go_ret
    exact ⟨rfl, HR.out⟩
  · have h0 := hm ha
    by_cases hz : R.more = 0
    · have e : R.write = (false, R.off) := by unfold RD.write; rw [if_pos ha, if_pos hz]
      rw [e]
      have hzb : (R.more == 0) = true := by simpa using hz
      have HR : Hid (RdTo w p fv vs ((w.setCell ⟨p, 3, none⟩ (.bool false)).setCell ⟨p, 2, none⟩ (.bool false)) R.off fv vs) := h.fields (Kept.setCell (Kept.setCell (Kept.refl _ (fun k => k = p)) ⟨p, 3, none⟩ _ (fun _ => rfl)) ⟨p, 2, none⟩ _ (fun _ => rfl)) (heap_setK _ (heap_setK _ h.row)) rfl
      rw [ha] at c3
      rw [hz] at c4
      clear h e ha hm hz hzb
      go_enter Tryz.func83, Tryz.ntmps83
      go_wp2_with fail
      go_ret
      exact ⟨rfl, HR.out⟩
    · have e : R.write = (true, { R with more := R.more - 1, done := R.done + 1 }) := by unfold RD.write; rw [if_pos ha, if_neg hz]
      rw [e]
      have hzb : (R.more == 0) = false := by simpa using hz
      have HR : Hid (RdTo w p fv vs ((w.setCell ⟨p, 4, none⟩ (.int .i64 (R.more - 1))).setCell ⟨p, 5, none⟩ (.int .i64 (R.done + 1))) { R with more := R.more - 1, done := R.done + 1 } fv vs) := h.fields (Kept.setCell (Kept.setCell (Kept.refl _ (fun k => k = p)) ⟨p, 4, none⟩ _ (fun _ => rfl)) ⟨p, 5, none⟩ _ (fun _ => rfl)) (heap_setK _ (heap_setK _ h.row)) rfl
      rw [ha] at c3
      clear h e ha hm hz
      go_enter Tryz.func83, Tryz.ntmps83
      go_wp2_with fail
      go_ret
      exact ⟨rfl, HR.out⟩

set_option maxHeartbeats 400000 in
theorem refSum_any {w : World} {B : Nat} {v : Value} {fs : List FiD} {vs : List Value} (h : ImgAt w B v fs vs) (hfew : fs.length ≤ 64) (hu : usedD fs ≤ 1000000000000) :
    Calls Tryz.prog 26 #[v] w fun e w' => e = .returned (.int .i64 (usedD fs)) ∧ w' = w := by
  have HH : Hid _ := h
  obtain ⟨N, hN⟩ : ∃ N, N = fs.length := ⟨_, rfl⟩
  obtain ⟨fa, fc, rfl, hfc, hfm⟩ : ∃ fa fc, v = .slice fa N fc ∧ N ≤ fc ∧ fc ≤ 9223372036854775807 := by
    rw [hN]
    obtain ⟨_, ⟨e, e0⟩ | ⟨g, cap, cur, e, _, _, h4, h5, _⟩⟩ := h.own
    · exact ⟨none, 0, by rw [e, e0], by rw [e0]; omega, by omega⟩
    · unfold maxLen at h5
      exact ⟨_, _, e, h4, by omega⟩
  rw [← hN] at hfew
  have HN : Hid _ := hN
  have HU : Hid _ := hu
  clear h hN hu
  go_enter Tryz.func26, Tryz.ntmps26
  go_wp2_with fail
  go_loopw [3, 4] (fun vc vi wr => ∃ k : Nat, k ≤ N ∧ vi = .int .i64 k ∧ vc = .int .i64 (usedD (fs.take k)) ∧ wr = w) (fun _ vi _ => N - (intOf vi).toNat)
  case atStart => exact ⟨0, Nat.zero_le _, rfl, by simp [usedD], rfl⟩
  case round =>
    obtain ⟨k, hk, rfl, rfl, rfl⟩ := hrel
    by_cases hlt : k < N
    · have hlt1 : k < fs.length := by rw [← HN.out]; exact hlt
      obtain ⟨_, ⟨_, e0⟩ | ⟨g, cap, cur, e, _⟩⟩ := HH.out.own
      · rw [e0] at hlt1; simp at hlt1
      obtain ⟨rfl, _, rfl⟩ := Value.slice.inj e
      have himg := HH.out
      obtain ⟨u, _, _, a1, _, ho⟩ := himg.cells k hlt1
      obtain ⟨x, y, hu2, _, _⟩ := own_shape (owns_mono ho (Nat.zero_le _))
      rw [hu2] at a1
      have hut := used_take fs k hlt1
      have hsm : usedD (fs.take k) + fs[k].bytes.length ≤ 1000000000000 := by
        have h1 : usedD (fs.take (k + 1)) + usedD (fs.drop (k + 1)) = usedD fs := by rw [← usedD_append, List.take_append_drop]
        have := HU.out
        omega
      have HUT : Hid _ := hut
      generalize fs[k].bytes.length = L at *
      generalize usedD (fs.take k) = S at *
      clear himg ho hu2 hut e
      go_wp2_with fail
      go_roundw
      case rel => exact ⟨k + 1, by omega, by go_num, by rw [HUT.out]; go_num, by trivial⟩
      case measure => simp [intOf]; omega
    · obtain rfl : k = N := by omega
      have e : fs.take k = fs := List.take_of_length_le (by have := HN.out; omega)
      rw [e]
      go_wp2_with fail
      go_ret
      exact ⟨rfl, rfl⟩
end Go.Proofs.YtdhnbgeijfgfaaaGreatDoor

/- The document's disk: found. -/
namespace Go.Proofs.YtdhnbgeijfgfaaaGreatDoor
open Go.RowKit Go.Shelf
set_option maxRecDepth 8000

/-- Why a call that names a file is refused. -/
def RD.errO (R : RD) (n : ByteArray) : Int := if R.power then (if isNm n then (if hasF R.files n then 0 else 20) else 22) else 23

set_option maxHeartbeats 400000 in
theorem refFound_any {w : World} {p : Nat} {fv : Value} {vs : List Value} {R : RD} (h : IsRd w p fv vs R) (hr : Rise R.files) (hfew : R.files.length ≤ 64) (n : ByteArray) (hn : n.size ≤ 140737488355328) :
    Calls Tryz.prog 62 #[.pointer (some ⟨p, 0, none⟩), .string n] w fun e w' => e = .returned (.tuple #[.int .i64 (if R.errO n = 0 then (pl R.files n : Int) else 0), .int .i64 (R.errO n)]) ∧ w' = w := by
  obtain ⟨c0, c1, c2, c3, c4, c5⟩ := h.cells
  have hl := lt_of_block h.row
  have hA := refAt_any h hr hfew n
  have hN := refName_any n hn w
  cases hp : R.power
  · have e : R.errO n = 23 := by unfold RD.errO; rw [hp]; rfl
    rw [e, if_neg (by decide)]
    rw [hp] at c2
    clear h hA hN hp e
    go_enter Tryz.func62, Tryz.ntmps62
    go_wp2_with fail
    go_ret2
    exact ⟨rfl, rfl⟩
  · rw [hp] at c2
    cases hm : isNm n
    · have e : R.errO n = 22 := by unfold RD.errO; rw [if_pos hp, hm]; rfl
      rw [e, if_neg (by decide)]
      rw [hm] at hN
      have HN : Hid _ := hN
      clear h hA hN hp e hm
      go_enter Tryz.func62, Tryz.ntmps62
      go_wp2_with fail
      refine Calls.mono HN.out ?_
      rintro e w1 ⟨rfl, hw1⟩
      subst w1
      go_wp2_with fail
      go_ret2
      exact ⟨rfl, rfl⟩
    · rw [hm] at hN
      have HN : Hid _ := hN
      cases hh : hasF R.files n
      · have e : R.errO n = 20 := by unfold RD.errO; rw [if_pos hp, if_pos hm, hh]; rfl
        have ea : atI R.files n = -1 := by unfold atI; rw [hh]; rfl
        rw [e, if_neg (by decide)]
        rw [ea] at hA
        have HA : Hid _ := hA
        clear h hA hN hp e hm ea hh
        go_enter Tryz.func62, Tryz.ntmps62
        go_wp2_with fail
        refine Calls.mono HN.out ?_
        rintro e w1 ⟨rfl, hw1⟩
        subst w1
        go_wp2_with fail
        refine Calls.mono HA.out ?_
        rintro e w1 ⟨rfl, hw1⟩
        subst w1
        go_wp2_with fail
        go_ret2
        exact ⟨rfl, rfl⟩
      · have e : R.errO n = 0 := by unfold RD.errO; rw [if_pos hp, if_pos hm, if_pos hh]
        have ea : atI R.files n = (pl R.files n : Int) := by unfold atI; rw [hh]; rfl
        rw [e, if_pos rfl]
        rw [ea] at hA
        have HA : Hid _ := hA
        have hlt : decide ((pl R.files n : Int) < 0) = false := decide_eq_false (by omega)
        generalize pl R.files n = P at *
        clear h hA hN hp e hm ea hh
        go_enter Tryz.func62, Tryz.ntmps62
        go_wp2_with fail
        refine Calls.mono HN.out ?_
        rintro e w1 ⟨rfl, hw1⟩
        subst w1
        go_wp2_with fail
        refine Calls.mono HA.out ?_
        rintro e w1 ⟨rfl, hw1⟩
        subst w1
        go_wp2_with fail
        go_ret2
        exact ⟨rfl, rfl⟩
end Go.Proofs.YtdhnbgeijfgfaaaGreatDoor

/- One cell of a file in a list of files is set. -/
namespace Go.Proofs.YtdhnbgeijfgfaaaGreatDoor
open Go.RowKit Go.Shelf
set_option maxRecDepth 8000

theorem imgC_get (fs : List FiD) (vs : List Value) (h : vs.length = fs.length) (m : Nat) : (imgC fs vs)[m]? = (fs[m / 3]?).bind fun f => (vs[m / 3]?).bind fun u => (fiC f u)[m % 3]? := by
  by_cases hm : m / 3 < fs.length
  · have e : m = m / 3 * 3 + m % 3 := by omega
    have h2 : m / 3 < vs.length := by rw [h]; exact hm
    rw [List.getElem?_eq_getElem hm, List.getElem?_eq_getElem h2]
    simp only [Option.bind_some]
    rw [← imgC_at fs vs h (m / 3) hm (m % 3) (by omega), ← e]
  · rw [List.getElem?_eq_none (by rw [imgC_len fs vs h]; omega), List.getElem?_eq_none (l := fs) (by omega)]
    rfl

/-- The durable length of a file is set. -/
theorem ImgAt.setDur {w : World} {B g n c : Nat} {fs : List FiD} {vs : List Value} (h : ImgAt w B (.slice (some ⟨g, 0, none⟩) n c) fs vs) (i : Nat) (hi : i < fs.length) (d : Int) (hne : ∀ u ∈ vs, ∀ k, u.ownBlock = some k → k ≠ g) : ImgAt (w.setCell ⟨g, i * 3 + 2, none⟩ (.int .i64 d)) B (.slice (some ⟨g, 0, none⟩) n c) (fs.set i ⟨fs[i].name, fs[i].bytes, d⟩) vs := by
  have hk : Kept w (w.setCell ⟨g, i * 3 + 2, none⟩ (.int .i64 d)) (fun k => k = g) := Kept.setCell (Kept.refl _ (fun k => k = g)) ⟨g, i * 3 + 2, none⟩ _ (fun _ => rfl)
  have hl : (fs.set i ⟨fs[i].name, fs[i].bytes, d⟩).length = fs.length := by simp
  refine ⟨by rw [hl]; exact h.len, ?_, fun j u f hu hf => ?_⟩
  · obtain ⟨h0, ⟨e, _⟩ | ⟨g', cap, cur, e, h2, h3, h4, h5, h6, h7⟩⟩ := h.own
    · cases e
    obtain ⟨rfl, _, rfl⟩ : g = g' ∧ n = fs.length ∧ c = cap := by simpa using e
    rw [hl]
    refine ⟨by rw [imgC_len _ _ (by rw [hl]; exact h.len), hl], .inr ⟨g, c, cur.setIfInBounds (i * 3 + 2) (.int .i64 d), e, h2, heap_setK _ h3, h4, h5, by simpa using h6, ?_⟩⟩
    rw [Array.toList_setIfInBounds]
    apply List.ext_getElem?
    intro m
    have h7' := congrArg (fun l => l[m]?) h7
    simp only [List.getElem?_take] at h7' ⊢
    rw [List.getElem?_set, imgC_get _ _ (by rw [hl]; exact h.len)]
    rw [imgC_get _ _ h.len] at h7'
    by_cases hm : m < fs.length * 3
    · rw [if_pos hm] at h7' ⊢
      by_cases hmi : m / 3 = i
      · have hv : i < vs.length := by rw [h.len]; exact hi
        rw [hmi, List.getElem?_eq_getElem hi, List.getElem?_eq_getElem hv] at h7'
        rw [hmi, List.getElem?_set, if_pos rfl, if_pos hi, List.getElem?_eq_getElem hv]
        simp only [Option.bind_some] at h7' ⊢
        by_cases h2' : m % 3 = 2
        · have em : i * 3 + 2 = m := by omega
          rw [if_pos em, if_pos (by rw [em]; simp; omega), h2']
          rfl
        · have em : ¬ i * 3 + 2 = m := by omega
          rw [if_neg em, h7']
          match hq : m % 3, h2' with
          | 0, _ => rfl
          | 1, _ => rfl
          | 2, hx => exact absurd rfl hx
          | q + 3, _ => omega
      · rw [if_neg (by omega), h7', List.getElem?_set, if_neg (by omega)]
    · rw [if_neg hm, List.getElem?_eq_none (by rw [hl]; omega)]
      rfl
  · by_cases hj : j = i
    · subst hj
      rw [List.getElem?_set, if_pos rfl, if_pos hi] at hf
      cases hf
      exact (h.bys j u _ hu (List.getElem?_eq_getElem hi)).kept hk (fun k e => hne u (List.mem_of_getElem? hu) k e)
    · rw [List.getElem?_set, if_neg (by omega)] at hf
      exact (h.bys j u _ hu hf).kept hk (fun k e => hne u (List.mem_of_getElem? hu) k e)
end Go.Proofs.YtdhnbgeijfgfaaaGreatDoor

/- The document's disk: Sync. -/
namespace Go.Proofs.YtdhnbgeijfgfaaaGreatDoor
open Go.RowKit Go.Shelf
set_option maxRecDepth 8000

/-- What a call that writes gives. -/
abbrev RctTo (w : World) (p : Nat) (fv : Value) (vs : List Value) (r : Int × RD) (e : Ending) (w' : World) : Prop := e = .returned (.int .i64 r.1) ∧ ∃ fv' vs', RdTo w p fv vs w' r.2 fv' vs'

/-- What holds of a document's disk. -/
structure RdOk (R : RD) : Prop where
  rise : Rise R.files
  few : R.files.length ≤ 64
  used : usedD R.files ≤ 1000000000
  m0 : R.armed = true → 0 ≤ R.more
  m1 : R.more ≤ 9223372036854775807
  d0 : 0 ≤ R.done
  d1 : R.done ≤ 4611686018427387904

theorem RD.errO_zero {R : RD} {n : ByteArray} (h : R.errO n = 0) : hasF R.files n = true := by
  unfold RD.errO at h
  cases h1 : R.power <;> rw [h1] at h
  · simp at h
  · cases h2 : isNm n <;> rw [h2] at h
    · simp at h
    · cases h3 : hasF R.files n
      · rw [h3] at h; simp at h
      · rfl

theorem RD.write_files (R : RD) : R.write.2.files = R.files := by
  unfold RD.write
  split
  · split <;> rfl
  · rfl

set_option maxHeartbeats 1000000 in
theorem refSync_any {w : World} {p : Nat} {fv : Value} {vs : List Value} {R : RD} (h : IsRd w p fv vs R) (ok : RdOk R) (n : ByteArray) (hn : n.size ≤ 140737488355328) :
    Calls Tryz.prog 72 #[.pointer (some ⟨p, 0, none⟩), .string n] w (RctTo w p fv vs (R.act (R.errO n) (updF R.files n durF))) := by
  have hF := refFound_any h ok.rise ok.few n hn
  have hl := lt_of_block h.row
  have HW : Hid _ := refWrite_any h ok.m0 ok.m1 ok.d0 ok.d1
  have HH : Hid (IsRd w p fv vs R ∧ RdOk R) := ⟨h, ok⟩
  obtain ⟨r, hr⟩ : ∃ r, r = R.act (R.errO n) (updF R.files n durF) := ⟨_, rfl⟩
  rw [← hr]
  clear h ok
  by_cases he : R.errO n = 0
  · have hh := RD.errO_zero he
    rw [he, if_pos rfl] at hF
    unfold RD.act at hr
    rw [if_pos he] at hr
    have h1 := ((hasF_iff _ _).1 hh).1
    have HF : Hid _ := hF
    have HP : Hid _ := h1
    obtain ⟨P, hP⟩ : ∃ P, P = pl R.files n := ⟨_, rfl⟩
    rw [← hP] at HF HP
    have hP64 : P < 64 := Nat.lt_of_lt_of_le HP.out HH.out.2.few
    have HPP : Hid _ := hP
    obtain ⟨q, R', hq⟩ : ∃ q R', R.write = (q, R') := ⟨_, _, rfl⟩
    have hwf := R.write_files
    rw [hq] at HW hr hwf
    have HR : Hid _ := hr
    have HWF : Hid (R'.files = R.files) := hwf
    clear hF hh h1 hP hr he hq hwf
    cases q
    · go_enter Tryz.func72, Tryz.ntmps72
      go_wp2_with fail
      refine Calls.mono HF.out ?_
      rintro e w1 ⟨rfl, hw1⟩
      subst w1
      go_wp2_with fail
      refine Calls.mono HW.out ?_
      rintro e w2 ⟨rfl, ht2⟩
      have H2 : Hid _ := ht2
      clear ht2
      go_wp2_with fail
      go_ret
      exact ⟨by rw [HR.out]; rfl, _, _, by rw [HR.out]; exact H2.out⟩
    · go_enter Tryz.func72, Tryz.ntmps72
      go_wp2_with fail
      refine Calls.mono HF.out ?_
      rintro e w1 ⟨rfl, hw1⟩
      subst w1
      go_wp2_with fail
      refine Calls.mono HW.out ?_
      rintro e w2 ⟨rfl, ht2⟩
      have h2 : IsRd w2 p fv vs R' := ht2.is
      have hP' : P < R'.files.length := by rw [HWF.out]; exact HP.out
      obtain ⟨g, c, u, e0, hc1, hc2, hu, a0, a1, a2, ho⟩ := h2.file P hP'
      obtain ⟨x, y, hu2, hx1, hx2⟩ := own_shape ho
      unfold maxLen at hc2 hx2
      have c1 := h2.cells.2.1
      have hl2 := lt_of_block h2.row
      have hlen64 : R'.files.length ≤ 64 := by rw [HWF.out]; exact HH.out.2.few
      subst e0
      have hg2 : ∃ cur, w2.heap[g]? = some (.cells cur 38 (0, 0)) := by
        obtain ⟨_, ⟨e, _⟩ | ⟨g', cap, cur, e, _, h3, _⟩⟩ := h2.img.own
        · cases e
        · obtain ⟨rfl, _⟩ : g = g' ∧ c = cap := by simpa using e
          exact ⟨cur, h3⟩
      obtain ⟨cur, hg2⟩ := hg2
      have fz : w2.frozen? ⟨g, P * 3 + 2, none⟩ = false := frozen_of_row w2 g _ _ _ hg2
      have hlg := lt_of_block hg2
      have hgp : g ≠ p := fun e => by
        have := (List.nodup_cons.1 h2.nd).1
        exact this (List.mem_append.2 (.inl (by rw [e]; simp [Value.ownBlock])))
      rw [hu2] at a1
      have hne : ∀ u ∈ vs, ∀ k, u.ownBlock = some k → k ≠ g := fun u' hu' k e e' => by
        have h3 := (List.nodup_cons.1 h2.nd).2
        have h4 := (List.nodup_append.1 h3).2.2
        exact h4 g (by simp [Value.ownBlock]) g (List.mem_flatMap.2 ⟨u', hu', by rw [e, e']; simp⟩) rfl
      have HFIN : Hid (∃ fv' vs', RdTo w p (.slice (some ⟨g, 0, none⟩) R'.files.length c) vs (w2.drew.setCell ⟨g, P * 3 + 2, none⟩ (.int .i64 R'.files[P].bytes.length)) r.2 fv' vs') := by
        have hbd : Below w2.heap.size w2 w2.drew := below_drewN (Below.refl _ _) 1
        have h3 : IsRd w2.drew p (.slice (some ⟨g, 0, none⟩) R'.files.length c) vs R' := h2.later hbd
        have hk : Kept w2.drew (w2.drew.setCell ⟨g, P * 3 + 2, none⟩ (.int .i64 R'.files[P].bytes.length)) (fun k => k = g) := Kept.setCell (Kept.refl _ (fun k => k = g)) ⟨g, P * 3 + 2, none⟩ _ (fun _ => rfl)
        have e : r.2 = { R' with files := R'.files.set P ⟨R'.files[P].name, R'.files[P].bytes, R'.files[P].bytes.length⟩ } := by
          rw [HR.out]
          have hup : updF R.files n durF = R'.files.set P ⟨R'.files[P].name, R'.files[P].bytes, R'.files[P].bytes.length⟩ := by
            unfold updF
            rw [← HPP.out, ← HWF.out, List.getElem?_eq_getElem hP']
            rfl
          simp [hup]
        rw [e]
        have h4 : RdTo w2.drew p (.slice (some ⟨g, 0, none⟩) R'.files.length c) vs (w2.drew.setCell ⟨g, P * 3 + 2, none⟩ (.int .i64 R'.files[P].bytes.length)) { R' with files := R'.files.set P ⟨R'.files[P].name, R'.files[P].bytes, R'.files[P].bytes.length⟩ } (.slice (some ⟨g, 0, none⟩) R'.files.length c) vs :=
          ⟨⟨hk.heap h3.row (fun e => hgp e.symm), h3.img.setDur P hP' _ hne, h3.nd⟩, hk.mono (fun k _ e => by rw [e]; exact mem_rfoot_fv rfl), fun k hk => .inl hk⟩
        have h5 : RdTo w2 p (.slice (some ⟨g, 0, none⟩) R'.files.length c) vs w2.drew R' (.slice (some ⟨g, 0, none⟩) R'.files.length c) vs := ⟨h3, (Below.kept hbd).mono (fun k hk e => by omega), fun k hk => .inl hk⟩
        exact ⟨_, _, ht2.trans (h5.trans h4)⟩
      have HR1 : Hid (r.1 = 0) := by show _ = _; rw [HR.out]; rfl
      generalize R'.files[P].bytes.length = L at *
      generalize R'.files[P].dur = du at *
      clear hne ht2 h2 ho hu hu2 hg2 a0 HWF HPP HP HH HR HW HF
      generalize R'.files.length = FL at *
      have k0 : w2.drew.cell? ⟨p, 1, none⟩ = some (.slice (some ⟨g, 0, none⟩) FL c) ∧ w2.drew.cell? ⟨g, P * 3 + 1, none⟩ = some (.slice x L y) := ⟨c1, a1⟩
      have f0 : w2.drew.frozen? ⟨g, P * 3 + 2, none⟩ = false := fz
      have a2' : w2.drew.cell? ⟨g, P * 3 + 2, none⟩ = some (.int .i64 du) := a2
      have k1 : (w2.setCell ⟨g, P * 3 + 2, none⟩ (.int .i64 L)).drew.cell? ⟨p, 1, none⟩ = some (.slice (some ⟨g, 0, none⟩) FL c) ∧ (w2.setCell ⟨g, P * 3 + 2, none⟩ (.int .i64 L)).drew.cell? ⟨g, P * 3 + 1, none⟩ = some (.slice x L y) := by
        refine ⟨?_, ?_⟩
        · show (w2.setCell ⟨g, P * 3 + 2, none⟩ (.int .i64 L)).cell? ⟨p, 1, none⟩ = _
          rw [World.cell?_setCell_other (a := ⟨g, P * 3 + 2, none⟩) (b := ⟨p, 1, none⟩) (h := fun e => hgp (congrArg Addr.block e))]
          exact c1
        · show (w2.setCell ⟨g, P * 3 + 2, none⟩ (.int .i64 L)).cell? ⟨g, P * 3 + 1, none⟩ = _
          rw [World.cell?_setCell_other (a := ⟨g, P * 3 + 2, none⟩) (b := ⟨g, P * 3 + 1, none⟩) (h := fun e => by have := congrArg Addr.off e; simp at this)]
          exact a1
      go_upto_region 6 with fail
      go_region_held (fun w' => w'.cell? ⟨p, 1, none⟩ = some (.slice (some ⟨g, 0, none⟩) FL c) ∧ w'.cell? ⟨g, P * 3 + 1, none⟩ = some (.slice x L y)) (first | exact k0 | exact k1 | go_keep) (fail)
      go_wp2_with fail
      go_ret
      exact ⟨by rw [HR1.out]; rfl, HFIN.out⟩
  · rw [if_neg he] at hF
    unfold RD.act at hr
    rw [if_neg he] at hr
    have HR : Hid _ := hr
    have HF : Hid _ := hF
    obtain ⟨E, hE⟩ : ∃ E, E = R.errO n := ⟨_, rfl⟩
    rw [← hE] at HF he HR
    have hb : (E != 0) = true := by simpa using he
    clear hF hr he hE
    go_enter Tryz.func72, Tryz.ntmps72
    go_wp2_with fail
    refine Calls.mono HF.out ?_
    rintro e w1 ⟨rfl, hw1⟩
    subst w1
    go_wp2_with fail
    go_ret
    exact ⟨by rw [HR.out]; rfl, _, _, by rw [HR.out]; exact RdTo.refl HH.out.1⟩
end Go.Proofs.YtdhnbgeijfgfaaaGreatDoor
