/- What always holds of a disk's data stays so behind every call. -/
import Derived.Test.YtbdokdhconhifaaGreatDoorDoEJ
namespace Go.Proofs.YtbdokdhconhifaaGreatDoor
open Go.RowKit
set_option maxRecDepth 8000

/-- What always holds of a disk's files. -/
structure FOk (room : Int) (fs : List FiD) : Prop where
  rise : Rise fs
  few : fs.length ≤ 64
  nms : ∀ f ∈ fs, isNm f.name = true
  durs : ∀ f ∈ fs, 0 ≤ f.dur ∧ f.dur ≤ f.bytes.length
  fits : (usedD fs : Int) ≤ room

theorem DkOk.fok {D : DkD} (h : DkOk D) : FOk D.room D.files := ⟨h.rise, h.few, h.nms, h.durs, h.fits⟩
theorem DkOk.with {D D' : DkD} (h : DkOk D) (hr : D'.room = D.room) (hf : FOk D'.room D'.files) (ha : -1 ≤ D'.armed) (ha' : D'.armed ≤ 9223372036854775807) (hw : 0 ≤ D'.writes) : DkOk D' :=
  ⟨hf.rise, hf.few, hf.nms, hf.durs, by rw [hr]; exact h.r0, by rw [hr]; exact h.r1, hf.fits, ha, ha', hw⟩

theorem usedD_append (a b : List FiD) : usedD (a ++ b) = usedD a + usedD b := by simp [usedD]
theorem usedD_cons (f : FiD) (b : List FiD) : usedD (f :: b) = f.bytes.length + usedD b := by simp [usedD]

theorem used_split (fs : List FiD) (i : Nat) (hi : i < fs.length) : usedD fs = usedD (fs.eraseIdx i) + fs[i].bytes.length := by
  rw [List.eraseIdx_eq_take_drop_succ, usedD_append]
  have e : fs = fs.take i ++ fs[i] :: fs.drop (i + 1) := by rw [← List.drop_eq_getElem_cons hi, List.take_append_drop]
  have h := congrArg usedD e
  rw [usedD_append, usedD_cons] at h
  omega

theorem used_set (fs : List FiD) (i : Nat) (hi : i < fs.length) (f : FiD) : usedD (fs.set i f) = usedD (fs.eraseIdx i) + f.bytes.length := by
  rw [set_eq fs i f hi, usedD_append, usedD_cons]
  have h := congrArg usedD (List.take_append_drop i (fs.eraseIdx i))
  rw [usedD_append] at h
  omega

theorem used_ins (fs : List FiD) (f : FiD) : usedD (insF fs f) = usedD fs + f.bytes.length := by
  unfold insF
  rw [usedD_append, usedD_cons]
  have h := congrArg usedD (List.take_append_drop (pl fs f.name) fs)
  rw [usedD_append] at h
  omega

theorem used_erase_le (fs : List FiD) (i : Nat) : usedD (fs.eraseIdx i) ≤ usedD fs := by
  by_cases hi : i < fs.length
  · have := used_split fs i hi; omega
  · rw [List.eraseIdx_of_length_le (by omega)]; omega

theorem ncmp_self (n : ByteArray) : ncmp n n = 0 := (ncmp_eq n n).2 rfl

/-- A file of a name lies where the search says. -/
theorem at_pl {fs : List FiD} (hr : Rise fs) {n : ByteArray} {k : Nat} (hk : k < fs.length) (hn : fs[k].name = n) : pl fs n = k := by
  have h1 : ¬ k < pl fs n := fun e => by
    have := (pl_iff hr n k hk).2 e
    rw [hn, ncmp_self] at this
    omega
  by_cases h2 : pl fs n = k
  · exact h2
  · have h3 := List.pairwise_iff_getElem.1 hr (pl fs n) k (by omega) hk (by omega)
    rw [hn] at h3
    have := (pl_iff hr n (pl fs n) (by omega)).1 h3
    omega

theorem hasF_mem {fs : List FiD} (hr : Rise fs) (n : ByteArray) : hasF fs n = true ↔ ∃ f ∈ fs, f.name = n := by
  rw [hasF_iff]
  constructor
  · rintro ⟨h, e⟩; exact ⟨_, List.getElem_mem h, e⟩
  · rintro ⟨f, hf, e⟩
    obtain ⟨k, hk, rfl⟩ := List.getElem_of_mem hf
    have := at_pl hr hk e
    subst this
    exact ⟨hk, e⟩

theorem hasF_erase {fs : List FiD} (hr : Rise fs) (n : ByteArray) : hasF (fs.eraseIdx (dropI fs n)) n = false := by
  rw [Bool.eq_false_iff]
  intro h
  obtain ⟨f, hf, e⟩ := (hasF_mem (rise_erase hr _) n).1 h
  have hmem : f ∈ fs := List.mem_of_mem_eraseIdx hf
  have hh : hasF fs n = true := (hasF_mem hr n).2 ⟨f, hmem, e⟩
  have hd : dropI fs n = pl fs n := by unfold dropI; rw [hh]; rfl
  rw [hd] at hf
  obtain ⟨j, hj⟩ := List.mem_iff_getElem?.1 hf
  rw [getElem?_erase] at hj
  by_cases hjp : j < pl fs n
  · rw [if_pos hjp] at hj
    obtain ⟨hj1, hj2⟩ := List.getElem?_eq_some_iff.1 hj
    have := at_pl (n := n) hr hj1 (by rw [hj2]; exact e)
    omega
  · rw [if_neg hjp] at hj
    obtain ⟨hj1, hj2⟩ := List.getElem?_eq_some_iff.1 hj
    have := at_pl (n := n) hr hj1 (by rw [hj2]; exact e)
    omega

/-- One file turned, its name kept. -/
theorem FOk.set {room : Int} {fs : List FiD} (h : FOk room fs) {i : Nat} {f g : FiD} (hf : fs[i]? = some f) (hn : g.name = f.name) (hd : 0 ≤ g.dur ∧ g.dur ≤ g.bytes.length) (hu : (usedD fs : Int) + g.bytes.length - f.bytes.length ≤ room) : FOk room (fs.set i g) := by
  obtain ⟨hi, hfi⟩ := List.getElem?_eq_some_iff.1 hf
  have hnm : ∀ (j : Nat) (hj : j < fs.length), ((fs.set i g)[j]'(by simpa using hj)).name = fs[j].name := fun j hj => by
    rw [List.getElem_set]
    split
    · rename_i e; subst e; rw [hn, ← hfi]
    · rfl
  refine ⟨?_, by simpa using h.few, fun x hx => ?_, fun x hx => ?_, ?_⟩
  · unfold Rise
    rw [List.pairwise_iff_getElem]
    intro a b ha hb hab
    rw [hnm a (by simpa using ha), hnm b (by simpa using hb)]
    exact List.pairwise_iff_getElem.1 h.rise a b (by simpa using ha) (by simpa using hb) hab
  · rcases List.mem_or_eq_of_mem_set hx with hx | rfl
    · exact h.nms x hx
    · rw [hn, ← hfi]; exact h.nms _ (List.getElem_mem hi)
  · rcases List.mem_or_eq_of_mem_set hx with hx | rfl
    · exact h.durs x hx
    · exact hd
  · have h1 := used_split fs i hi
    have h2 := used_set fs i hi g
    rw [hfi] at h1
    omega

theorem FOk.erase {room : Int} {fs : List FiD} (h : FOk room fs) (i : Nat) : FOk room (fs.eraseIdx i) :=
  ⟨rise_erase h.rise i, Nat.le_trans (List.length_eraseIdx_le ..) h.few, fun f hf => h.nms f (List.mem_of_mem_eraseIdx hf), fun f hf => h.durs f (List.mem_of_mem_eraseIdx hf), by have := used_erase_le fs i; have := h.fits; omega⟩

theorem FOk.ins {room : Int} {fs : List FiD} (h : FOk room fs) (f : FiD) (hh : hasF fs f.name = false) (hl : fs.length ≤ 63) (hn : isNm f.name = true) (hd : 0 ≤ f.dur ∧ f.dur ≤ f.bytes.length) (hu : (usedD fs : Int) + f.bytes.length ≤ room) : FOk room (insF fs f) := by
  have hple := pl_le fs f.name
  refine ⟨rise_insert h.rise f hh, by unfold insF; simp; omega, fun x hx => ?_, fun x hx => ?_, by rw [used_ins]; omega⟩
  · rcases insM_mem hx with rfl | hx
    · exact hn
    · exact h.nms x hx
  · rcases insM_mem hx with rfl | hx
    · exact hd
    · exact h.durs x hx

theorem FOk.dur {room : Int} {fs : List FiD} (h : FOk room fs) (n : ByteArray) : FOk room (updF fs n durF) := by
  unfold updF
  cases hf : fs[pl fs n]? with
  | none => exact h
  | some f => exact h.set hf rfl ⟨by simp [durF], by simp [durF]⟩ (by have := h.fits; simp [durF]; omega)

theorem FOk.cut {room : Int} {fs : List FiD} (h : FOk room fs) (n : ByteArray) (k : Nat) (hk : ∀ f, fs[pl fs n]? = some f → k ≤ f.bytes.length) : FOk room (updF fs n (cutF k)) := by
  unfold updF
  cases hf : fs[pl fs n]? with
  | none => exact h
  | some f =>
    have := hk f hf
    exact h.set hf rfl ⟨by simp [cutF], by simp [cutF]; omega⟩ (by have := h.fits; simp [cutF]; omega)

theorem FOk.app {room : Int} {fs : List FiD} (h : FOk room fs) (n : ByteArray) (ys : List Int) (hn : isNm n = true) (hc : ¬ (hasF fs n = false ∧ 64 ≤ fs.length)) (hu : (ys.length : Int) ≤ room - usedD fs) : FOk room (appF fs n ys) := by
  unfold appF
  cases hb : hasF fs n
  · rw [if_neg (by simp)]
    exact h.ins ⟨n, ys, 0⟩ hb (by by_cases hl : 64 ≤ fs.length; exact absurd ⟨hb, hl⟩ hc; omega) hn ⟨by simp, by simp⟩ (by simp only; omega)
  · rw [if_pos rfl]
    unfold updF
    cases hf : fs[pl fs n]? with
    | none => exact h
    | some f =>
      have hd := h.durs f (List.mem_of_getElem? hf)
      exact h.set hf rfl ⟨hd.1, by simp; omega⟩ (by simp; omega)

theorem used_erase_eq {fs : List FiD} {i : Nat} {f : FiD} (hf : fs[i]? = some f) : usedD (fs.eraseIdx i) + f.bytes.length = usedD fs := by
  obtain ⟨hi, hfi⟩ := List.getElem?_eq_some_iff.1 hf
  have := used_split fs i hi
  rw [hfi] at this
  omega

theorem FOk.ren {room : Int} {fs : List FiD} (h : FOk room fs) (a b : ByteArray) (ha : hasF fs a = true) (hb : isNm b = true) : FOk room (renF fs a b) := by
  unfold renF
  cases hf : fs[pl fs a]? with
  | none => exact h
  | some f =>
    unfold movF
    have hd : dropI fs a = pl fs a := by unfold dropI; rw [ha]; rfl
    have hlt := (List.getElem?_eq_some_iff.1 hf).1
    have hdf := h.durs f (List.mem_of_getElem? hf)
    have h1 := h.erase (dropI fs a)
    have h2 := h1.erase (dropI (fs.eraseIdx (dropI fs a)) b)
    refine h2.ins ⟨b, f.bytes, f.dur⟩ (hasF_erase h1.rise b) ?_ hb hdf ?_
    · have hl1 : (fs.eraseIdx (dropI fs a)).length ≤ 63 := by rw [hd, List.length_eraseIdx, if_pos hlt]; have := h.few; omega
      exact Nat.le_trans (List.length_eraseIdx_le ..) hl1
    · have e1 := used_erase_eq hf
      have e2 := used_erase_le (fs.eraseIdx (dropI fs a)) (dropI (fs.eraseIdx (dropI fs a)) b)
      rw [hd] at e2 ⊢
      have := h.fits
      simp only
      omega

theorem lossF_at {fs : List FiD} {ks : List Int} {j : Nat} {f : FiD} (h : (lossF fs ks)[j]? = some f) : ∃ g, fs[j]? = some g ∧ f = lossAt g (ks.getD j 0) := by
  unfold lossF at h
  rw [List.getElem?_mapIdx] at h
  cases hg : fs[j]? with
  | none => rw [hg] at h; cases h
  | some g => rw [hg] at h; cases h; exact ⟨g, rfl, rfl⟩

theorem used_loss (fs : List FiD) (ks : List Int) : usedD (lossF fs ks) ≤ usedD fs := by
  have key : ∀ (l : List FiD) (f : Nat → FiD → FiD), (∀ i x, (f i x).bytes.length ≤ x.bytes.length) → usedD (l.mapIdx f) ≤ usedD l := by
    intro l
    induction l with
    | nil => intro f _; simp
    | cons a l ih =>
      intro f hf
      rw [List.mapIdx_cons, usedD_cons, usedD_cons]
      have h1 := hf 0 a
      have h2 := ih (fun i => f (i + 1)) (fun i x => hf (i + 1) x)
      omega
  exact key fs _ (fun i x => by simp only [lossAt, List.length_take]; omega)

theorem FOk.loss {room : Int} {fs : List FiD} (h : FOk room fs) (ks : List Int) : FOk room (lossF fs ks) := by
  have hl : (lossF fs ks).length = fs.length := by simp [lossF]
  have hnm : ∀ (j : Nat) (hj : j < fs.length), ((lossF fs ks)[j]'(by omega)).name = fs[j].name := fun j hj => by simp [lossF, lossAt]
  refine ⟨?_, by rw [hl]; exact h.few, fun f hf => ?_, fun f hf => ?_, by have := used_loss fs ks; have := h.fits; omega⟩
  · unfold Rise
    rw [List.pairwise_iff_getElem]
    intro a b ha hb hab
    rw [hnm a (by omega), hnm b (by omega)]
    exact List.pairwise_iff_getElem.1 h.rise a b (by omega) (by omega) hab
  · obtain ⟨j, hj⟩ := List.mem_iff_getElem?.1 hf
    obtain ⟨g, hg, rfl⟩ := lossF_at hj
    exact h.nms g (List.mem_of_getElem? hg)
  · obtain ⟨j, hj⟩ := List.mem_iff_getElem?.1 hf
    obtain ⟨g, hg, rfl⟩ := lossF_at hj
    have hd := h.durs g (List.mem_of_getElem? hg)
    have := leftN_le g (ks.getD j 0) hd.1 hd.2
    exact ⟨by simp only [lossAt]; omega, by simp only [lossAt, List.length_take]; omega⟩

theorem DkOk.off {D : DkD} (h : DkOk D) : DkOk D.off := by
  unfold DkD.off
  split
  · exact h.with rfl h.fok (by simp) (by simp) h.w0
  · exact h

theorem DkOk.arm {D : DkD} (h : DkOk D) (n : Int) (hn : n ≤ 9223372036854775807) : DkOk (D.arm n) := by
  unfold DkD.arm
  split
  · exact h.with rfl h.fok (by simp only; omega) (by simp only; omega) h.w0
  · exact h

theorem DkOk.start {D : DkD} (h : DkOk D) (ks : List Int) : DkOk (D.start ks) := by
  unfold DkD.start
  split
  · exact h
  · exact h.with rfl (h.fok.loss ks) h.a0 h.a1 h.w0

theorem DkOk.act {D : DkD} (h : DkOk D) (e : Int) (fs : List FiD) (hf : e = 0 → FOk D.room fs) : DkOk (D.act e fs).2 := by
  unfold DkD.act
  split
  · rename_i he
    split
    · exact h.off
    · exact h.with rfl (hf he) (by have := h.a0; simp only [DkD.done]; omega) (by have := h.a1; have := h.a0; simp only [DkD.done]; omega) (by have := h.w0; simp only [DkD.done]; omega)
  · exact h

theorem act_writes (D : DkD) (e : Int) (fs : List FiD) : (D.act e fs).2.writes ≤ D.writes + 1 := by
  unfold DkD.act
  split
  · split
    · unfold DkD.off; split <;> (simp only; omega)
    · simp only [DkD.done]; omega
  · simp only; omega

theorem act_room (D : DkD) (e : Int) (fs : List FiD) : (D.act e fs).2.room = D.room := by
  unfold DkD.act
  split
  · split
    · unfold DkD.off; split <;> rfl
    · rfl
  · rfl
end Go.Proofs.YtbdokdhconhifaaGreatDoor
