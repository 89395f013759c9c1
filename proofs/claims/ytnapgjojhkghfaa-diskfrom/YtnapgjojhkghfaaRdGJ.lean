/- The document's disk: Sync. -/
import Derived.Test.YtnapgjojhkghfaaRdFJ
import Derived.Deep.RegionHeld
namespace Go.Proofs.Ytnapgjojhkghfaa
open Go.RowKit Go.Shelf
set_option maxRecDepth 8000

/-- What a call that writes gives. -/
abbrev RctTo (w : World) (p : Nat) (fv : Value) (vs : List Value) (r : Int × RD) (e : Ending) (w' : World) : Prop := e = .returned (.int .i64 r.1) ∧ ∃ fv' vs', RdTo w p fv vs w' r.2 fv' vs'

/-- What holds of a document's disk. -/
structure RdOk (R : RD) : Prop where
  rise : Rise R.files
  few : R.files.length ≤ 64
  used : usedD R.files ≤ 1000000000
  m0 : R.armed = true → 0 ≤ R.more
  m1 : R.more ≤ 9223372036854775807
  d0 : 0 ≤ R.done
  d1 : R.done ≤ 4611686018427387904

theorem RD.errO_zero {R : RD} {n : ByteArray} (h : R.errO n = 0) : hasF R.files n = true := by
  unfold RD.errO at h
  cases h1 : R.power <;> rw [h1] at h
  · simp at h
  · cases h2 : isNm n <;> rw [h2] at h
    · simp at h
    · cases h3 : hasF R.files n
      · rw [h3] at h; simp at h
      · rfl

theorem RD.write_files (R : RD) : R.write.2.files = R.files := by
  unfold RD.write
  split
  · split <;> rfl
  · rfl

set_option maxHeartbeats 1000000 in
theorem refSync_any {w : World} {p : Nat} {fv : Value} {vs : List Value} {R : RD} (h : IsRd w p fv vs R) (ok : RdOk R) (n : ByteArray) (hn : n.size ≤ 140737488355328) :
    Calls Try.prog 62 #[.pointer (some ⟨p, 0, none⟩), .string n] w (RctTo w p fv vs (R.act (R.errO n) (updF R.files n durF))) := by
  have hF := refFound_any h ok.rise ok.few n hn
  have hl := lt_of_block h.row
  have HW : Hid _ := refWrite_any h ok.m0 ok.m1 ok.d0 ok.d1
  have HH : Hid (IsRd w p fv vs R ∧ RdOk R) := ⟨h, ok⟩
  obtain ⟨r, hr⟩ : ∃ r, r = R.act (R.errO n) (updF R.files n durF) := ⟨_, rfl⟩
  rw [← hr]
  clear h ok
  by_cases he : R.errO n = 0
  · have hh := RD.errO_zero he
    rw [he, if_pos rfl] at hF
    unfold RD.act at hr
    rw [if_pos he] at hr
    have h1 := ((hasF_iff _ _).1 hh).1
    have HF : Hid _ := hF
    have HP : Hid _ := h1
    obtain ⟨P, hP⟩ : ∃ P, P = pl R.files n := ⟨_, rfl⟩
    rw [← hP] at HF HP
    have hP64 : P < 64 := Nat.lt_of_lt_of_le HP.out HH.out.2.few
    have HPP : Hid _ := hP
    obtain ⟨q, R', hq⟩ : ∃ q R', R.write = (q, R') := ⟨_, _, rfl⟩
    have hwf := R.write_files
    rw [hq] at HW hr hwf
    have HR : Hid _ := hr
    have HWF : Hid (R'.files = R.files) := hwf
    clear hF hh h1 hP hr he hq hwf
    cases q
    · go_enter Try.func62, Try.ntmps62
      go_wp2_with fail
      refine Calls.mono HF.out ?_
      rintro e w1 ⟨rfl, hw1⟩
      subst w1
      go_wp2_with fail
      refine Calls.mono HW.out ?_
      rintro e w2 ⟨rfl, ht2⟩
      have H2 : Hid _ := ht2
      clear ht2
      go_wp2_with fail
      go_ret
      exact ⟨by rw [HR.out]; rfl, _, _, by rw [HR.out]; exact H2.out⟩
    · go_enter Try.func62, Try.ntmps62
      go_wp2_with fail
      refine Calls.mono HF.out ?_
      rintro e w1 ⟨rfl, hw1⟩
      subst w1
      go_wp2_with fail
      refine Calls.mono HW.out ?_
      rintro e w2 ⟨rfl, ht2⟩
      have h2 : IsRd w2 p fv vs R' := ht2.is
      have hP' : P < R'.files.length := by rw [HWF.out]; exact HP.out
      obtain ⟨g, c, u, e0, hc1, hc2, hu, a0, a1, a2, ho⟩ := h2.file P hP'
      obtain ⟨x, y, hu2, hx1, hx2⟩ := own_shape ho
      unfold maxLen at hc2 hx2
      have c1 := h2.cells.2.1
      have hl2 := lt_of_block h2.row
      have hlen64 : R'.files.length ≤ 64 := by rw [HWF.out]; exact HH.out.2.few
      subst e0
      have hg2 : ∃ cur, w2.heap[g]? = some (.cells cur 63 (0, 0)) := by
        obtain ⟨_, ⟨e, _⟩ | ⟨g', cap, cur, e, _, h3, _⟩⟩ := h2.img.own
        · cases e
        · obtain ⟨rfl, _⟩ : g = g' ∧ c = cap := by simpa using e
          exact ⟨cur, h3⟩
      obtain ⟨cur, hg2⟩ := hg2
      have fz : w2.frozen? ⟨g, P * 3 + 2, none⟩ = false := frozen_of_row w2 g _ _ _ hg2
      have hlg := lt_of_block hg2
      have hgp : g ≠ p := fun e => by
        have := (List.nodup_cons.1 h2.nd).1
        exact this (List.mem_append.2 (.inl (by rw [e]; simp [Value.ownBlock])))
      rw [hu2] at a1
      have hne : ∀ u ∈ vs, ∀ k, u.ownBlock = some k → k ≠ g := fun u' hu' k e e' => by
        have h3 := (List.nodup_cons.1 h2.nd).2
        have h4 := (List.nodup_append.1 h3).2.2
        exact h4 g (by simp [Value.ownBlock]) g (List.mem_flatMap.2 ⟨u', hu', by rw [e, e']; simp⟩) rfl
      have HFIN : Hid (∃ fv' vs', RdTo w p (.slice (some ⟨g, 0, none⟩) R'.files.length c) vs (w2.drew.setCell ⟨g, P * 3 + 2, none⟩ (.int .i64 R'.files[P].bytes.length)) r.2 fv' vs') := by
        have hbd : Below w2.heap.size w2 w2.drew := below_drewN (Below.refl _ _) 1
        have h3 : IsRd w2.drew p (.slice (some ⟨g, 0, none⟩) R'.files.length c) vs R' := h2.later hbd
        have hk : Kept w2.drew (w2.drew.setCell ⟨g, P * 3 + 2, none⟩ (.int .i64 R'.files[P].bytes.length)) (fun k => k = g) := Kept.setCell (Kept.refl _ (fun k => k = g)) ⟨g, P * 3 + 2, none⟩ _ (fun _ => rfl)
        have e : r.2 = { R' with files := R'.files.set P ⟨R'.files[P].name, R'.files[P].bytes, R'.files[P].bytes.length⟩ } := by
          rw [HR.out]
          have hup : updF R.files n durF = R'.files.set P ⟨R'.files[P].name, R'.files[P].bytes, R'.files[P].bytes.length⟩ := by
            unfold updF
            rw [← HPP.out, ← HWF.out, List.getElem?_eq_getElem hP']
            rfl
          simp [hup]
        rw [e]
        have h4 : RdTo w2.drew p (.slice (some ⟨g, 0, none⟩) R'.files.length c) vs (w2.drew.setCell ⟨g, P * 3 + 2, none⟩ (.int .i64 R'.files[P].bytes.length)) { R' with files := R'.files.set P ⟨R'.files[P].name, R'.files[P].bytes, R'.files[P].bytes.length⟩ } (.slice (some ⟨g, 0, none⟩) R'.files.length c) vs :=
          ⟨⟨hk.heap h3.row (fun e => hgp e.symm), h3.img.setDur P hP' _ hne, h3.nd⟩, hk.mono (fun k _ e => by rw [e]; exact mem_rfoot_fv rfl), fun k hk => .inl hk⟩
        have h5 : RdTo w2 p (.slice (some ⟨g, 0, none⟩) R'.files.length c) vs w2.drew R' (.slice (some ⟨g, 0, none⟩) R'.files.length c) vs := ⟨h3, (Below.kept hbd).mono (fun k hk e => by omega), fun k hk => .inl hk⟩
        exact ⟨_, _, ht2.trans (h5.trans h4)⟩
      have HR1 : Hid (r.1 = 0) := by show _ = _; rw [HR.out]; rfl
      generalize R'.files[P].bytes.length = L at *
      generalize R'.files[P].dur = du at *
      clear hne ht2 h2 ho hu hu2 hg2 a0 HWF HPP HP HH HR HW HF
      generalize R'.files.length = FL at *
      have k0 : w2.drew.cell? ⟨p, 1, none⟩ = some (.slice (some ⟨g, 0, none⟩) FL c) ∧ w2.drew.cell? ⟨g, P * 3 + 1, none⟩ = some (.slice x L y) := ⟨c1, a1⟩
      have f0 : w2.drew.frozen? ⟨g, P * 3 + 2, none⟩ = false := fz
      have a2' : w2.drew.cell? ⟨g, P * 3 + 2, none⟩ = some (.int .i64 du) := a2
      have k1 : (w2.setCell ⟨g, P * 3 + 2, none⟩ (.int .i64 L)).drew.cell? ⟨p, 1, none⟩ = some (.slice (some ⟨g, 0, none⟩) FL c) ∧ (w2.setCell ⟨g, P * 3 + 2, none⟩ (.int .i64 L)).drew.cell? ⟨g, P * 3 + 1, none⟩ = some (.slice x L y) := by
        refine ⟨?_, ?_⟩
        · show (w2.setCell ⟨g, P * 3 + 2, none⟩ (.int .i64 L)).cell? ⟨p, 1, none⟩ = _
          rw [World.cell?_setCell_other (a := ⟨g, P * 3 + 2, none⟩) (b := ⟨p, 1, none⟩) (h := fun e => hgp (congrArg Addr.block e))]
          exact c1
        · show (w2.setCell ⟨g, P * 3 + 2, none⟩ (.int .i64 L)).cell? ⟨g, P * 3 + 1, none⟩ = _
          rw [World.cell?_setCell_other (a := ⟨g, P * 3 + 2, none⟩) (b := ⟨g, P * 3 + 1, none⟩) (h := fun e => by have := congrArg Addr.off e; simp at this)]
          exact a1
      go_upto_region 6 with fail
      go_region_held (fun w' => w'.cell? ⟨p, 1, none⟩ = some (.slice (some ⟨g, 0, none⟩) FL c) ∧ w'.cell? ⟨g, P * 3 + 1, none⟩ = some (.slice x L y)) (first | exact k0 | exact k1 | go_keep) (fail)
      go_wp2_with fail
      go_ret
      exact ⟨by rw [HR1.out]; rfl, HFIN.out⟩
  · rw [if_neg he] at hF
    unfold RD.act at hr
    rw [if_neg he] at hr
    have HR : Hid _ := hr
    have HF : Hid _ := hF
    obtain ⟨E, hE⟩ : ∃ E, E = R.errO n := ⟨_, rfl⟩
    rw [← hE] at HF he HR
    have hb : (E != 0) = true := by simpa using he
    clear hF hr he hE
    go_enter Try.func62, Try.ntmps62
    go_wp2_with fail
    refine Calls.mono HF.out ?_
    rintro e w1 ⟨rfl, hw1⟩
    subst w1
    go_wp2_with fail
    go_ret
    exact ⟨by rw [HR.out]; rfl, _, _, by rw [HR.out]; exact RdTo.refl HH.out.1⟩
end Go.Proofs.Ytnapgjojhkghfaa
