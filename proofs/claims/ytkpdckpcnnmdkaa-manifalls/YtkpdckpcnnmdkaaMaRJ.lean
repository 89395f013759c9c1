/- A Put over a manifest, as data: wherever the power goes, the one or the other is left; a Put behind it is as good as ever. -/
import Derived.Test.YtkpdckpcnnmdkaaMaXJ
namespace Go.Proofs.Ytkpdckpcnnmdkaa
open Go.RowKit Go.Shelf
set_option maxRecDepth 8000

theorem lt_mn : ncmp manN newN < 0 := by decide
theorem nn_mm : ¬ ncmp manN manN < 0 := by decide
theorem nn_nn : ¬ ncmp newN newN < 0 := by decide

theorem pl_m1 (a : List Int) (d : Int) : pl [(⟨manN, a, d⟩ : FiD)] newN = 1 := by
  rw [pl_cons, if_pos lt_mn, pl_nil]
theorem pl_m2 (a b : List Int) (d e : Int) : pl [(⟨manN, a, d⟩ : FiD), ⟨newN, b, e⟩] newN = 1 := by
  rw [pl_cons, if_pos lt_mn, pl_cons, if_neg nn_nn]
theorem pl_m0 (a : List Int) (d : Int) (fs : List FiD) : pl ((⟨manN, a, d⟩ : FiD) :: fs) manN = 0 := by
  rw [pl_cons, if_neg nn_mm]
theorem has_m1 (a : List Int) (d : Int) : hasF [(⟨manN, a, d⟩ : FiD)] newN = false := by
  rw [Bool.eq_false_iff]
  intro e
  obtain ⟨h1, _⟩ := (hasF_iff _ _).1 e
  rw [pl_m1] at h1
  simp at h1
theorem has_m2 (a b : List Int) (d e : Int) : hasF [(⟨manN, a, d⟩ : FiD), ⟨newN, b, e⟩] newN = true := by
  rw [hasF_iff]
  have h0 := pl_m2 a b d e
  refine ⟨by rw [h0]; simp, ?_⟩
  simp only [h0]
  rfl
theorem has_m0 (a : List Int) (d : Int) (fs : List FiD) : hasF ((⟨manN, a, d⟩ : FiD) :: fs) manN = true := by
  rw [hasF_iff]
  have h0 := pl_m0 a d fs
  refine ⟨by rw [h0]; simp, ?_⟩
  simp only [h0]
  rfl

abbrev mF (bs : List Int) : FiD := ⟨manN, bs, 38⟩

theorem stepA (D : DkD) (zs bs : List Int) (hf : D.files = [mF zs]) (hon : D.on = true) (hr : D.room = 1000) (ha : zs.length = 38) (hb : bs.length = 38) : stepK bs 0 D = if D.armed = 0 then (23, D.off) else (0, D.done [mF zs, ⟨newN, bs, 0⟩]) := by
  have he : D.errA newN bs.length = 0 := by
    unfold DkD.errA
    rw [hon, isNm_new, hf, has_m1, hr, hb]
    have hu : usedD [mF zs] = 38 := by simp [usedD, ha]
    rw [hu]
    simp
  have hap : appF D.files newN bs = [mF zs, ⟨newN, bs, 0⟩] := by
    rw [hf]
    unfold appF insF
    rw [has_m1]
    simp only [pl_m1]
    rfl
  show D.act _ _ = _
  rw [he, hap]
  rfl

theorem stepB (D : DkD) (zs bs : List Int) (d : Int) (hf : D.files = [mF zs, ⟨newN, bs, d⟩]) (hon : D.on = true) (hb : bs.length = 38) : stepK bs 1 D = if D.armed = 0 then (23, D.off) else (0, D.done [mF zs, ⟨newN, bs, 38⟩]) := by
  have he : D.errO newN = 0 := by
    unfold DkD.errO
    rw [hon, isNm_new, hf, has_m2]
    rfl
  have hap : updF D.files newN durF = [mF zs, ⟨newN, bs, 38⟩] := by
    rw [hf]
    unfold updF
    rw [pl_m2]
    show [mF zs, ⟨newN, bs, (bs.length : Int)⟩] = _
    rw [hb]
    rfl
  show D.act _ _ = _
  rw [he, hap]
  rfl

theorem stepC (D : DkD) (zs bs : List Int) (hf : D.files = [mF zs, ⟨newN, bs, 38⟩]) (hon : D.on = true) : stepK bs 2 D = if D.armed = 0 then (23, D.off) else (0, D.done [mF bs]) := by
  have he : D.errR newN manN = 0 := by
    unfold DkD.errR
    rw [hon, isNm_new, isNm_man, hf, has_m2]
    rfl
  have hap : renF D.files newN manN = [mF bs] := by
    rw [hf]
    unfold renF
    rw [pl_m2]
    show movF [mF zs, ⟨newN, bs, 38⟩] newN manN ⟨newN, bs, 38⟩ = _
    unfold movF
    have h1 : dropI [mF zs, ⟨newN, bs, 38⟩] newN = 1 := by
      unfold dropI
      rw [has_m2, if_pos rfl, pl_m2]
    rw [h1]
    have h2 : [mF zs, (⟨newN, bs, 38⟩ : FiD)].eraseIdx 1 = [mF zs] := rfl
    rw [h2]
    have h3 : dropI [mF zs] manN = 0 := by
      unfold dropI
      rw [has_m0, if_pos rfl, pl_m0]
    rw [h3]
    have h4 : [mF zs].eraseIdx 0 = [] := rfl
    rw [h4]
    unfold insF
    simp
  show D.act _ _ = _
  rw [he, hap]
  rfl

theorem stepR (D : DkD) (zs bs : List Int) (d : Int) (hf : D.files = [mF zs, ⟨newN, bs, d⟩]) (hon : D.on = true) : remK D = if D.armed = 0 then (23, D.off) else (0, D.done [mF zs]) := by
  have he : D.errO newN = 0 := by
    unfold DkD.errO
    rw [hon, isNm_new, hf, has_m2]
    rfl
  have hap : D.files.eraseIdx (dropI D.files newN) = [mF zs] := by
    rw [hf]
    have h1 : dropI [mF zs, ⟨newN, bs, d⟩] newN = 1 := by
      unfold dropI
      rw [has_m2, if_pos rfl, pl_m2]
    rw [h1]
    rfl
  show D.act _ _ = _
  rw [he, hap]
  rfl

/-- What a loss of power leaves beside the files. -/
theorem left_more (D : DkD) (ks : List Int) (h : D.on = true ∨ D.armed = -1) : (leftM D ks).armed = -1 ∧ (leftM D ks).room = D.room := by
  unfold leftM DkD.start
  obtain ⟨h1, h2, h3⟩ := off_files D
  rw [h2]
  refine ⟨?_, h3⟩
  show D.off.armed = -1
  unfold DkD.off
  cases h9 : D.on
  · rcases h with h | h
    · rw [h9] at h; cases h
    · exact h
  · rfl

theorem off_armed (D : DkD) (h : D.on = true) : D.off.armed = -1 := by
  unfold DkD.off
  rw [if_pos h]

theorem loss_m (zs : List Int) (ha : zs.length = 38) (k : Int) : lossAt (mF zs) k = mF zs := by
  have h9 := loss_full zs manN k
  rw [ha] at h9
  exact h9

/-- The files behind a Put over a manifest that did not come through. -/
def Kept1 (zs : List Int) (D : DkD) : Prop := D.files = [mF zs] ∨ ∃ b d, D.files = [mF zs, ⟨newN, b, d⟩]
structure Fine (D : DkD) : Prop where
  on : D.on = true
  armed : D.armed = -1
  room : D.room = 1000

theorem left_fine (D : DkD) (ks : List Int) (h : D.on = true ∨ D.armed = -1) (hr : D.room = 1000) : Fine (leftM D ks) :=
  ⟨(left_files D ks).2, (left_more D ks h).1, by rw [(left_more D ks h).2]; exact hr⟩

theorem left_kept (zs : List Int) (ha : zs.length = 38) (D : DkD) (ks : List Int) (h : Kept1 zs D) : Kept1 zs (leftM D ks) := by
  unfold Kept1 at *
  rw [(left_files D ks).1]
  rcases h with h | ⟨b, d, h⟩
  · left
    rw [h]
    show [lossAt (mF zs) (ks.getD 0 0)] = _
    rw [loss_m zs ha]
  · right
    rw [h]
    exact ⟨_, _, by show [lossAt (mF zs) (ks.getD 0 0), lossAt ⟨newN, b, d⟩ (ks.getD 1 0)] = _; rw [loss_m zs ha]; rfl⟩

theorem left_one (bs : List Int) (hb : bs.length = 38) (D : DkD) (ks : List Int) (h : D.files = [mF bs]) : (leftM D ks).files = [mF bs] := by
  rw [(left_files D ks).1, h]
  show [lossAt (mF bs) (ks.getD 0 0)] = _
  rw [loss_m bs hb]

theorem put_over (D : DkD) (zs bs : List Int) (hf : D.files = [mF zs]) (hon : D.on = true) (hr : D.room = 1000) (ha : zs.length = 38) (hb : bs.length = 38) (ks : List Int) :
    Fine (leftM (tailK bs 3 D).2 ks) ∧ (((tailK bs 3 D).1 ≠ 0 ∧ Kept1 zs (leftM (tailK bs 3 D).2 ks)) ∨ ((tailK bs 3 D).1 = 0 ∧ (leftM (tailK bs 3 D).2 ks).files = [mF bs])) := by
  have h3 : tailK bs 3 D = thenK (stepK bs 0 D) (tailK bs 2) := rfl
  have h2 : ∀ D, tailK bs 2 D = thenK (stepK bs 1 D) (tailK bs 1) := fun _ => rfl
  have h1 : ∀ D, tailK bs 1 D = thenK (stepK bs 2 D) (tailK bs 0) := fun _ => rfl
  have hoff : ∀ D : DkD, D.on = true → D.room = 1000 → Kept1 zs D → Fine (leftM D.off ks) ∧ (((23 : Int) ≠ 0 ∧ Kept1 zs (leftM D.off ks)) ∨ ((23 : Int) = 0 ∧ (leftM D.off ks).files = [mF bs])) := fun D ho hr hk => by
    obtain ⟨q1, q2, q3⟩ := off_files D
    refine ⟨left_fine _ ks (.inr (off_armed D ho)) (by rw [q3]; exact hr), .inl ⟨by decide, left_kept zs ha _ ks ?_⟩⟩
    unfold Kept1
    rw [q1]
    exact hk
  rw [h3, stepA D zs bs hf hon hr ha hb]
  by_cases c1 : D.armed = 0
  · rw [if_pos c1]
    exact hoff D hon hr (.inl hf)
  · rw [if_neg c1]
    obtain ⟨D1, hD1⟩ : ∃ D1, D1 = D.done [mF zs, ⟨newN, bs, 0⟩] := ⟨_, rfl⟩
    have f1 : D1.files = [mF zs, ⟨newN, bs, 0⟩] := by rw [hD1]; rfl
    have o1 : D1.on = true := by rw [hD1]; exact hon
    have r1 : D1.room = 1000 := by rw [hD1]; exact hr
    rw [← hD1]
    have e1 : thenK (0, D1) (tailK bs 2) = tailK bs 2 D1 := rfl
    rw [e1, h2, stepB D1 zs bs 0 f1 o1 hb]
    by_cases c2 : D1.armed = 0
    · rw [if_pos c2]
      exact hoff D1 o1 r1 (.inr ⟨_, _, f1⟩)
    · rw [if_neg c2]
      obtain ⟨D2, hD2⟩ : ∃ D2, D2 = D1.done [mF zs, ⟨newN, bs, 38⟩] := ⟨_, rfl⟩
      have f2 : D2.files = [mF zs, ⟨newN, bs, 38⟩] := by rw [hD2]; rfl
      have o2 : D2.on = true := by rw [hD2]; exact o1
      have r2 : D2.room = 1000 := by rw [hD2]; exact r1
      rw [← hD2]
      have e2 : thenK (0, D2) (tailK bs 1) = tailK bs 1 D2 := rfl
      rw [e2, h1, stepC D2 zs bs f2 o2]
      by_cases c3 : D2.armed = 0
      · rw [if_pos c3]
        exact hoff D2 o2 r2 (.inr ⟨_, _, f2⟩)
      · rw [if_neg c3]
        exact ⟨left_fine _ ks (.inl o2) r2, .inr ⟨rfl, left_one bs hb _ ks rfl⟩⟩

theorem done_armed (D : DkD) (fs : List FiD) (h : D.armed = -1) : (D.done fs).armed = -1 := by
  show max (D.armed - 1) (-1) = -1
  rw [h]; decide

theorem put_again (D : DkD) (zs bs : List Int) (hf : D.files = [mF zs]) (hd : Fine D) (ha : zs.length = 38) (hb : bs.length = 38) :
    (tailK bs 3 D).1 = 0 ∧ (tailK bs 3 D).2.files = [mF bs] ∧ (tailK bs 3 D).2.on = true := by
  have h3 : tailK bs 3 D = thenK (stepK bs 0 D) (tailK bs 2) := rfl
  have h2 : ∀ D, tailK bs 2 D = thenK (stepK bs 1 D) (tailK bs 1) := fun _ => rfl
  have h1 : ∀ D, tailK bs 1 D = thenK (stepK bs 2 D) (tailK bs 0) := fun _ => rfl
  rw [h3, stepA D zs bs hf hd.on hd.room ha hb, if_neg (by rw [hd.armed]; decide)]
  obtain ⟨D1, hD1⟩ : ∃ D1, D1 = D.done [mF zs, ⟨newN, bs, 0⟩] := ⟨_, rfl⟩
  have f1 : D1.files = [mF zs, ⟨newN, bs, 0⟩] := by rw [hD1]; rfl
  have o1 : D1.on = true := by rw [hD1]; exact hd.on
  have a1 : D1.armed = -1 := by rw [hD1]; exact done_armed _ _ hd.armed
  rw [← hD1]
  have e1 : thenK (0, D1) (tailK bs 2) = tailK bs 2 D1 := rfl
  rw [e1, h2, stepB D1 zs bs 0 f1 o1 hb, if_neg (by rw [a1]; decide)]
  obtain ⟨D2, hD2⟩ : ∃ D2, D2 = D1.done [mF zs, ⟨newN, bs, 38⟩] := ⟨_, rfl⟩
  have f2 : D2.files = [mF zs, ⟨newN, bs, 38⟩] := by rw [hD2]; rfl
  have o2 : D2.on = true := by rw [hD2]; exact o1
  have a2 : D2.armed = -1 := by rw [hD2]; exact done_armed _ _ a1
  rw [← hD2]
  have e2 : thenK (0, D2) (tailK bs 1) = tailK bs 1 D2 := rfl
  rw [e2, h1, stepC D2 zs bs f2 o2, if_neg (by rw [a2]; decide)]
  exact ⟨rfl, rfl, o2⟩

theorem put_clean (D : DkD) (zs bs b : List Int) (d : Int) (hf : D.files = [mF zs, ⟨newN, b, d⟩]) (hd : Fine D) (ha : zs.length = 38) (hb : bs.length = 38) :
    (tail4 bs D).1 = 0 ∧ (tail4 bs D).2.files = [mF bs] ∧ (tail4 bs D).2.on = true := by
  unfold tail4
  rw [stepR D zs b d hf hd.on, if_neg (by rw [hd.armed]; decide)]
  show (tailK bs 3 (D.done [mF zs])).1 = 0 ∧ _
  exact put_again (D.done [mF zs]) zs bs rfl ⟨hd.on, done_armed _ _ hd.armed, hd.room⟩ ha hb
end Go.Proofs.Ytkpdckpcnnmdkaa
