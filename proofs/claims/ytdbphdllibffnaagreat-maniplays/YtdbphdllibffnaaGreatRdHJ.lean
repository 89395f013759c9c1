/- The document's disk: Sync. -/
import Derived.Test.YtdbphdllibffnaaGreatRdFJ
import Derived.Deep.RegionHeld
namespace Go.Proofs.YtdbphdllibffnaaGreat
open Go.RowKit Go.Shelf
set_option maxRecDepth 8000

/-- What a call that writes gives. -/
abbrev RctTo (w : World) (p : Nat) (fv : Value) (vs : List Value) (r : Int × RD) (e : Ending) (w' : World) : Prop := e = .returned (.int .i64 r.1) ∧ ∃ fv' vs', RdTo w p fv vs w' r.2 fv' vs'

/-- What holds of a document's disk. -/
structure RdOk (R : RD) : Prop where
  rise : Rise R.files
  few : R.files.length ≤ 64
  used : usedD R.files ≤ 1000000000
  m0 : R.armed = true → 0 ≤ R.more
  m1 : R.more ≤ 9223372036854775807
  d0 : 0 ≤ R.done
  d1 : R.done ≤ 4611686018427387904

theorem RD.errO_zero {R : RD} {n : ByteArray} (h : R.errO n = 0) : hasF R.files n = true := by
  unfold RD.errO at h
  cases h1 : R.power <;> rw [h1] at h
  · simp at h
  · cases h2 : isNm n <;> rw [h2] at h
    · simp at h
    · cases h3 : hasF R.files n
      · rw [h3] at h; simp at h
      · rfl

theorem RD.write_files (R : RD) : R.write.2.files = R.files := by
  unfold RD.write
  split
  · split <;> rfl
  · rfl

set_option maxHeartbeats 1000000 in
theorem refSync_any {w : World} {p : Nat} {fv : Value} {vs : List Value} {R : RD} (h : IsRd w p fv vs R) (ok : RdOk R) (n : ByteArray) (hn : n.size ≤ 140737488355328) :
    Calls Tryz.prog 26 #[.pointer (some ⟨p, 0, none⟩), .string n] w (RctTo w p fv vs (R.act (R.errO n) (updF R.files n durF))) := by
  have hF := refFound_any h ok.rise ok.few n hn
  have hl := lt_of_block h.row
  have HW : Hid _ := refWrite_any h ok.m0 ok.m1 ok.d0 ok.d1
  have HH : Hid (IsRd w p fv vs R ∧ RdOk R) := ⟨h, ok⟩
  obtain ⟨r, hr⟩ : ∃ r, r = R.act (R.errO n) (updF R.files n durF) := ⟨_, rfl⟩
  rw [← hr]
  clear h ok
  by_cases he : R.errO n = 0
  · have hh := RD.errO_zero he
    rw [he, if_pos rfl] at hF
    unfold RD.act at hr
    rw [if_pos he] at hr
    have h1 := ((hasF_iff _ _).1 hh).1
    have HF : Hid _ := hF
    have HP : Hid _ := h1
    obtain ⟨P, hP⟩ : ∃ P, P = pl R.files n := ⟨_, rfl⟩
    rw [← hP] at HF HP
    have hP64 : P < 64 := Nat.lt_of_lt_of_le HP.out HH.out.2.few
    have HPP : Hid _ := hP
    obtain ⟨q, R', hq⟩ : ∃ q R', R.write = (q, R') := ⟨_, _, rfl⟩
    have hwf := R.write_files
    rw [hq] at HW hr hwf
    have HR : Hid _ := hr
    have HWF : Hid (R'.files = R.files) := hwf
    clear hF hh h1 hP hr he hq hwf
    cases q
    · go_enter Tryz.func26, Tryz.ntmps26
      go_wp2_with fail
      refine Calls.mono HF.out ?_
      rintro e w1 ⟨rfl, hw1⟩
      subst w1
      go_wp2_with fail
      refine Calls.mono HW.out ?_
      rintro e w2 ⟨rfl, ht2⟩
      have H2 : Hid _ := ht2
      clear ht2
      go_wp2_with fail
      go_ret
      exact ⟨by rw [HR.out]; rfl, _, _, by rw [HR.out]; exact H2.out⟩
    · go_enter Tryz.func26, Tryz.ntmps26
      go_wp2_with fail
      refine Calls.mono HF.out ?_
      rintro e w1 ⟨rfl, hw1⟩
      subst w1
      go_wp2_with fail
      refine Calls.mono HW.out ?_
      rintro e w2 ⟨rfl, ht2⟩
      have h2 : IsRd w2 p fv vs R' := ht2.is
      have hP' : P < R'.files.length := by rw [HWF.out]; exact HP.out
      obtain ⟨g, c, u, e0, hc1, hc2, hu, a0, a1, a2, ho⟩ := h2.file P hP'
      obtain ⟨x, y, hu2, hx1, hx2⟩ := own_shape ho
      unfold maxLen at hc2 hx2
      have c1 := h2.cells.2.1
      have hl2 := lt_of_block h2.row
      have hlen64 : R'.files.length ≤ 64 := by rw [HWF.out]; exact HH.out.2.few
      subst e0
      have hg2 : ∃ cur, w2.heap[g]? = some (.cells cur 70 (0, 0)) := by
        obtain ⟨_, ⟨e, _⟩ | ⟨g', cap, cur, e, _, h3, _⟩⟩ := h2.img.own
        · cases e
        · obtain ⟨rfl, _⟩ : g = g' ∧ c = cap := by simpa using e
          exact ⟨cur, h3⟩
      obtain ⟨cur, hg2⟩ := hg2
      have fz : w2.frozen? ⟨g, P * 3 + 2, none⟩ = false := frozen_of_row w2 g _ _ _ hg2
      have hlg := lt_of_block hg2
      have hgp : g ≠ p := fun e => by
        have := (List.nodup_cons.1 h2.nd).1
        exact this (List.mem_append.2 (.inl (by rw [e]; simp [Value.ownBlock])))
      rw [hu2] at a1
      have hne : ∀ u ∈ vs, ∀ k, u.ownBlock = some k → k ≠ g := fun u' hu' k e e' => by
        have h3 := (List.nodup_cons.1 h2.nd).2
        have h4 := (List.nodup_append.1 h3).2.2
        exact h4 g (by simp [Value.ownBlock]) g (List.mem_flatMap.2 ⟨u', hu', by rw [e, e']; simp⟩) rfl
      have HFIN : Hid (∃ fv' vs', RdTo w p (.slice (some ⟨g, 0, none⟩) R'.files.length c) vs (w2.drew.setCell ⟨g, P * 3 + 2, none⟩ (.int .i64 R'.files[P].bytes.length)) r.2 fv' vs') := by
        have hbd : Below w2.heap.size w2 w2.drew := below_drewN (Below.refl _ _) 1
        have h3 : IsRd w2.drew p (.slice (some ⟨g, 0, none⟩) R'.files.length c) vs R' := h2.later hbd
        have hk : Kept w2.drew (w2.drew.setCell ⟨g, P * 3 + 2, none⟩ (.int .i64 R'.files[P].bytes.length)) (fun k => k = g) := Kept.setCell (Kept.refl _ (fun k => k = g)) ⟨g, P * 3 + 2, none⟩ _ (fun _ => rfl)
        have e : r.2 = { R' with files := R'.files.set P ⟨R'.files[P].name, R'.files[P].bytes, R'.files[P].bytes.length⟩ } := by
          rw [HR.out]
          have hup : updF R.files n durF = R'.files.set P ⟨R'.files[P].name, R'.files[P].bytes, R'.files[P].bytes.length⟩ := by
            unfold updF
            rw [← HPP.out, ← HWF.out, List.getElem?_eq_getElem hP']
            rfl
          simp [hup]
        rw [e]
        have h4 : RdTo w2.drew p (.slice (some ⟨g, 0, none⟩) R'.files.length c) vs (w2.drew.setCell ⟨g, P * 3 + 2, none⟩ (.int .i64 R'.files[P].bytes.length)) { R' with files := R'.files.set P ⟨R'.files[P].name, R'.files[P].bytes, R'.files[P].bytes.length⟩ } (.slice (some ⟨g, 0, none⟩) R'.files.length c) vs :=
          ⟨⟨hk.heap h3.row (fun e => hgp e.symm), h3.img.setDur P hP' _ hne, h3.nd⟩, hk.mono (fun k _ e => by rw [e]; exact mem_rfoot_fv rfl), fun k hk => .inl hk⟩
        have h5 : RdTo w2 p (.slice (some ⟨g, 0, none⟩) R'.files.length c) vs w2.drew R' (.slice (some ⟨g, 0, none⟩) R'.files.length c) vs := ⟨h3, (Below.kept hbd).mono (fun k hk e => by omega), fun k hk => .inl hk⟩
        exact ⟨_, _, ht2.trans (h5.trans h4)⟩
      have HR1 : Hid (r.1 = 0) := by show _ = _; rw [HR.out]; rfl
      generalize R'.files[P].bytes.length = L at *
      generalize R'.files[P].dur = du at *
      clear hne ht2 h2 ho hu hu2 hg2 a0 HWF HPP HP HH HR HW HF
      generalize R'.files.length = FL at *
      have k0 : w2.drew.cell? ⟨p, 1, none⟩ = some (.slice (some ⟨g, 0, none⟩) FL c) ∧ w2.drew.cell? ⟨g, P * 3 + 1, none⟩ = some (.slice x L y) := ⟨c1, a1⟩
      have f0 : w2.drew.frozen? ⟨g, P * 3 + 2, none⟩ = false := fz
      have a2' : w2.drew.cell? ⟨g, P * 3 + 2, none⟩ = some (.int .i64 du) := a2
      have k1 : (w2.setCell ⟨g, P * 3 + 2, none⟩ (.int .i64 L)).drew.cell? ⟨p, 1, none⟩ = some (.slice (some ⟨g, 0, none⟩) FL c) ∧ (w2.setCell ⟨g, P * 3 + 2, none⟩ (.int .i64 L)).drew.cell? ⟨g, P * 3 + 1, none⟩ = some (.slice x L y) := by
        refine ⟨?_, ?_⟩
        · show (w2.setCell ⟨g, P * 3 + 2, none⟩ (.int .i64 L)).cell? ⟨p, 1, none⟩ = _
          rw [World.cell?_setCell_other (a := ⟨g, P * 3 + 2, none⟩) (b := ⟨p, 1, none⟩) (h := fun e => hgp (congrArg Addr.block e))]
          exact c1
        · show (w2.setCell ⟨g, P * 3 + 2, none⟩ (.int .i64 L)).cell? ⟨g, P * 3 + 1, none⟩ = _
          rw [World.cell?_setCell_other (a := ⟨g, P * 3 + 2, none⟩) (b := ⟨g, P * 3 + 1, none⟩) (h := fun e => by have := congrArg Addr.off e; simp at this)]
          exact a1
      go_upto_region 6 with fail
      go_region_held (fun w' => w'.cell? ⟨p, 1, none⟩ = some (.slice (some ⟨g, 0, none⟩) FL c) ∧ w'.cell? ⟨g, P * 3 + 1, none⟩ = some (.slice x L y)) (first | exact k0 | exact k1 | go_keep) (fail)
      go_wp2_with fail
      go_ret
      exact ⟨by rw [HR1.out]; rfl, HFIN.out⟩
  · rw [if_neg he] at hF
    unfold RD.act at hr
    rw [if_neg he] at hr
    have HR : Hid _ := hr
    have HF : Hid _ := hF
    obtain ⟨E, hE⟩ : ∃ E, E = R.errO n := ⟨_, rfl⟩
    rw [← hE] at HF he HR
    have hb : (E != 0) = true := by simpa using he
    clear hF hr he hE
    go_enter Tryz.func26, Tryz.ntmps26
    go_wp2_with fail
    refine Calls.mono HF.out ?_
    rintro e w1 ⟨rfl, hw1⟩
    subst w1
    go_wp2_with fail
    go_ret
    exact ⟨by rw [HR.out]; rfl, _, _, by rw [HR.out]; exact RdTo.refl HH.out.1⟩
end Go.Proofs.YtdbphdllibffnaaGreat

/- The bytes of a file in a list of files are set; a file of the document's disk is given other bytes. -/
namespace Go.Proofs.YtdbphdllibffnaaGreat
open Go.RowKit Go.Shelf
set_option maxRecDepth 8000

/-- The bytes of a file are set: the row. -/
theorem ImgAt.rowSet {w : World} {B g n c : Nat} {fs : List FiD} {vs : List Value} (h : w.ownsRow B 70 3 (.slice (some ⟨g, 0, none⟩) n c) fs.length (imgC fs vs)) (hlen : vs.length = fs.length) (i : Nat) (hi : i < fs.length) (u' : Value) (bs : List Int) : (w.setCell ⟨g, i * 3 + 1, none⟩ u').ownsRow B 70 3 (.slice (some ⟨g, 0, none⟩) n c) (fs.set i ⟨fs[i].name, bs, fs[i].dur⟩).length (imgC (fs.set i ⟨fs[i].name, bs, fs[i].dur⟩) (vs.set i u')) := by
  have hl : (fs.set i ⟨fs[i].name, bs, fs[i].dur⟩).length = fs.length := by simp
  have hl2 : (vs.set i u').length = (fs.set i ⟨fs[i].name, bs, fs[i].dur⟩).length := by rw [hl]; simpa using hlen
  have hv : i < vs.length := by rw [hlen]; exact hi
  obtain ⟨h0, ⟨e, _⟩ | ⟨g', cap, cur, e, h2, h3, h4, h5, h6, h7⟩⟩ := h
  · cases e
  obtain ⟨rfl, _, rfl⟩ : g = g' ∧ n = fs.length ∧ c = cap := by simpa using e
  rw [hl]
  refine ⟨by rw [imgC_len _ _ hl2, hl], .inr ⟨g, c, cur.setIfInBounds (i * 3 + 1) u', e, h2, heap_setK _ h3, h4, h5, by simpa using h6, ?_⟩⟩
  rw [Array.toList_setIfInBounds]
  apply List.ext_getElem?
  intro m
  have h7' := congrArg (fun l => l[m]?) h7
  simp only [List.getElem?_take] at h7' ⊢
  rw [List.getElem?_set, imgC_get _ _ hl2]
  rw [imgC_get _ _ hlen] at h7'
  by_cases hm : m < fs.length * 3
  · rw [if_pos hm] at h7' ⊢
    by_cases hmi : m / 3 = i
    · rw [hmi, List.getElem?_eq_getElem hi, List.getElem?_eq_getElem hv] at h7'
      rw [hmi, List.getElem?_set, if_pos rfl, if_pos hi, List.getElem?_set, if_pos rfl, if_pos hv]
      simp only [Option.bind_some] at h7' ⊢
      by_cases h2' : m % 3 = 1
      · have em : i * 3 + 1 = m := by omega
        rw [if_pos em, if_pos (by rw [em]; simp; omega), h2']
        rfl
      · have em : ¬ i * 3 + 1 = m := by omega
        rw [if_neg em, h7']
        match hq : m % 3, h2' with
        | 0, _ => rfl
        | 1, hx => exact absurd rfl hx
        | 2, _ => rfl
        | q + 3, _ => omega
    · rw [if_neg (by omega), h7', List.getElem?_set, if_neg (by omega), List.getElem?_set, if_neg (by omega)]
  · rw [if_neg hm, List.getElem?_eq_none (by rw [hl]; omega)]
    rfl

theorem rfoot_two {p : Nat} {fv : Value} {vs : List Value} (h : (rfoot p fv vs).Nodup) {i j : Nat} (hij : j ≠ i) {u v : Value} {k : Nat} (hu : vs[j]? = some u) (hv : vs[i]? = some v) (e : u.ownBlock = some k) (e' : v.ownBlock = some k) : False := by
  have h2 := (List.nodup_append.1 (List.nodup_cons.1 h).2).2.1
  have h3 : vs.Pairwise (fun a b => ∀ k, a.ownBlock = some k → b.ownBlock ≠ some k) := by
    clear hu hv h
    induction vs with
    | nil => exact List.Pairwise.nil
    | cons a l ih =>
      rw [List.flatMap_cons] at h2
      obtain ⟨_, h4, h5⟩ := List.nodup_append.1 h2
      refine List.Pairwise.cons (fun b hb k ha hbk => ?_) (ih h4)
      exact h5 k (by rw [ha]; simp) k (List.mem_flatMap.2 ⟨b, hb, by rw [hbk]; simp⟩) rfl
  obtain ⟨hj, rfl⟩ := List.getElem?_eq_some_iff.1 hu
  obtain ⟨hi, rfl⟩ := List.getElem?_eq_some_iff.1 hv
  rcases Nat.lt_or_gt_of_ne hij with hlt | hlt
  · exact List.pairwise_iff_getElem.1 h3 j i hj hi hlt k e e'
  · exact List.pairwise_iff_getElem.1 h3 i j hi hj hlt k e' e

theorem rfoot_set {p : Nat} {fv : Value} {vs : List Value} (h : (rfoot p fv vs).Nodup) (i : Nat) (hi : i < vs.length) (u' : Value) (hu : ∀ k, u'.ownBlock = some k → k ∉ rfoot p fv vs ∨ vs[i].ownBlock = some k) : (rfoot p fv (vs.set i u')).Nodup := by
  have e1 : vs.set i u' = vs.take i ++ u' :: vs.drop (i + 1) := List.set_eq_take_append_cons_drop .. |>.trans (by rw [if_pos hi])
  have e2 : vs = vs.take i ++ vs[i] :: vs.drop (i + 1) := by rw [← List.drop_eq_getElem_cons hi, List.take_append_drop]
  have hx : (rfoot p fv (vs.take i ++ vs[i] :: vs.drop (i + 1))).Nodup := by rw [← e2]; exact h
  have hu' : ∀ k, u'.ownBlock = some k → k ∉ rfoot p fv (vs.take i ++ vs.drop (i + 1)) := by
    intro k e hm
    have hmem : k ∈ rfoot p fv vs := by
      rcases mem_rfoot hm with e3 | e3 | ⟨u, hu2, e3⟩
      · rw [e3]; exact mem_rfoot_p
      · exact mem_rfoot_fv e3
      · refine mem_rfoot_v ?_ e3
        rcases List.mem_append.1 hu2 with h4 | h4
        · exact List.mem_of_mem_take h4
        · exact List.mem_of_mem_drop h4
    rcases hu k e with h3 | h3
    · exact h3 hmem
    · unfold rfoot at hx hm
      rw [List.flatMap_append, List.flatMap_cons, h3] at hx
      rw [List.flatMap_append] at hm
      have hp : (p :: (fv.ownBlock.toList ++ (List.flatMap (fun v => v.ownBlock.toList) (List.take i vs) ++ ((some k).toList ++ List.flatMap (fun v => v.ownBlock.toList) (List.drop (i + 1) vs))))).Perm (k :: (p :: (fv.ownBlock.toList ++ (List.flatMap (fun v => v.ownBlock.toList) (List.take i vs) ++ List.flatMap (fun v => v.ownBlock.toList) (List.drop (i + 1) vs))))) := by
        refine List.Perm.trans (List.Perm.cons p ?_) (List.Perm.swap k p _)
        have hm := List.perm_middle (a := k) (l₁ := fv.ownBlock.toList ++ List.flatMap (fun v => v.ownBlock.toList) (List.take i vs)) (l₂ := List.flatMap (fun v => v.ownBlock.toList) (List.drop (i + 1) vs))
        rw [List.append_assoc, List.append_assoc] at hm
        exact hm
      exact (List.nodup_cons.1 (hp.nodup_iff.1 hx)).1 hm
  rw [e1]
  unfold rfoot at hx hu' ⊢
  rw [List.flatMap_append, List.flatMap_cons] at hx ⊢
  have hx2 : (p :: (fv.ownBlock.toList ++ List.flatMap (fun v => v.ownBlock.toList) (List.take i vs ++ List.drop (i + 1) vs))).Nodup := by
    rw [List.flatMap_append]
    refine hx.sublist (List.Sublist.cons_cons p (List.Sublist.append (List.Sublist.refl _) (List.Sublist.append (List.Sublist.refl _) (List.sublist_append_right _ _))))
  cases hk : u'.ownBlock with
  | none =>
    rw [List.flatMap_append] at hx2
    simpa using hx2
  | some k =>
    have hn := hu' k hk
    rw [List.flatMap_append] at hn hx2
    have hp : (p :: (fv.ownBlock.toList ++ (List.flatMap (fun v => v.ownBlock.toList) (List.take i vs) ++ ((some k).toList ++ List.flatMap (fun v => v.ownBlock.toList) (List.drop (i + 1) vs))))).Perm (k :: (p :: (fv.ownBlock.toList ++ (List.flatMap (fun v => v.ownBlock.toList) (List.take i vs) ++ List.flatMap (fun v => v.ownBlock.toList) (List.drop (i + 1) vs))))) := by
      refine List.Perm.trans (List.Perm.cons p ?_) (List.Perm.swap k p _)
      have hm := List.perm_middle (a := k) (l₁ := fv.ownBlock.toList ++ List.flatMap (fun v => v.ownBlock.toList) (List.take i vs)) (l₂ := List.flatMap (fun v => v.ownBlock.toList) (List.drop (i + 1) vs))
      rw [List.append_assoc, List.append_assoc] at hm
      exact hm
    exact hp.nodup_iff.2 (List.nodup_cons.2 ⟨hn, hx2⟩)

theorem rfoot_ne {p g n c : Nat} {vs : List Value} (h : (rfoot p (.slice (some ⟨g, 0, none⟩) n c) vs).Nodup) : g ≠ p ∧ ∀ u ∈ vs, ∀ k, u.ownBlock = some k → k ≠ g ∧ k ≠ p := by
  refine ⟨fun e => (List.nodup_cons.1 h).1 (List.mem_append.2 (.inl (by rw [e]; simp [Value.ownBlock]))), fun u' hu' k e => ⟨fun e' => ?_, fun e' => (List.nodup_cons.1 h).1 (List.mem_append.2 (.inr (List.mem_flatMap.2 ⟨u', hu', by rw [e, e']; simp⟩)))⟩⟩
  have h3 := (List.nodup_cons.1 h).2
  have h4 := (List.nodup_append.1 h3).2.2
  exact h4 g (by simp [Value.ownBlock]) g (List.mem_flatMap.2 ⟨u', hu', by rw [e, e']; simp⟩) rfl

/-- A file of the document's disk is given other bytes (w1: some room was taken since w). -/
theorem IsRd.setB {w w1 : World} {p g n c : Nat} {vs : List Value} {R : RD} (h : IsRd w p (.slice (some ⟨g, 0, none⟩) n c) vs R) (i : Nat) (hi : i < R.files.length) (hv : i < vs.length) (u' : Value) (bs : List Int) (hb : Kept w w1 (fun k => vs[i].ownBlock = some k)) (ho : Owns w1 0 u' bs) (hu : ∀ k, u'.ownBlock = some k → w.heap.size ≤ k ∨ vs[i].ownBlock = some k) : RdTo w p (.slice (some ⟨g, 0, none⟩) n c) vs (w1.setCell ⟨g, i * 3 + 1, none⟩ u') { R with files := R.files.set i ⟨R.files[i].name, bs, R.files[i].dur⟩ } (.slice (some ⟨g, 0, none⟩) n c) (vs.set i u') := by
  obtain ⟨hgp, hne⟩ := rfoot_ne h.nd
  have hui := hne vs[i] (List.getElem_mem hv)
  have hg := h.lt (k := g) (mem_rfoot_fv rfl)
  have hp := lt_of_block h.row
  have hug : ∀ k, u'.ownBlock = some k → k ≠ g ∧ k ≠ p := fun k e => by
    rcases hu k e with h3 | h3
    · exact ⟨by omega, by omega⟩
    · exact hui k h3
  have hnd := rfoot_set h.nd i hv u' (fun k e => by
    rcases hu k e with h3 | h3
    · exact .inl (fun hm => by have := h.lt hm; omega)
    · exact .inr h3)
  have hk1 : Kept w1 (w1.setCell ⟨g, i * 3 + 1, none⟩ u') (fun k => k = g) := Kept.setCell (Kept.refl _ (fun k => k = g)) ⟨g, i * 3 + 1, none⟩ _ (fun _ => rfl)
  have hkk : Kept w (w1.setCell ⟨g, i * 3 + 1, none⟩ u') (· ∈ rfoot p (.slice (some ⟨g, 0, none⟩) n c) vs) :=
    hb.trans' hk1 (fun k _ e => mem_rfoot_v (List.getElem_mem hv) e) (fun k _ e => by rw [e]; exact mem_rfoot_fv rfl)
  refine ⟨⟨hk1.heap (hb.heap h.row (fun e => (hui p e).2 rfl)) (fun e => hgp e.symm), ?_, hnd⟩, hkk, fun k hk => ?_⟩
  · -- the list, set in a world where only this file's bytes changed
    have hlen := h.img.len
    have hl : (R.files.set i ⟨R.files[i].name, bs, R.files[i].dur⟩).length = R.files.length := by simp
    have hw1 : w1.ownsRow 0 70 3 (.slice (some ⟨g, 0, none⟩) n c) R.files.length (imgC R.files vs) := row_kept' h.img.own hb (fun k e e' => by
      have : g = k := by simpa [Value.ownBlock] using e
      exact (hui k e').1 this.symm)
    have hl2 : (vs.set i u').length = (R.files.set i ⟨R.files[i].name, bs, R.files[i].dur⟩).length := by rw [hl]; simpa using hlen
    refine ⟨hl2, ?_, fun j u f hu' hf => ?_⟩
    · -- the row: as in ImgAt.setBys
      have hz := ImgAt.rowSet hw1 hlen i hi u' bs
      exact hz
    · by_cases hj : j = i
      · subst hj
        rw [List.getElem?_set, if_pos rfl, if_pos hi] at hf
        rw [List.getElem?_set, if_pos rfl, if_pos hv] at hu'
        cases hf
        cases hu'
        exact ho.kept hk1 (fun k e => (hug k e).1)
      · have hu2 := hu'
        have hf2 := hf
        rw [List.getElem?_set, if_neg (by omega)] at hf2 hu2
        have hnk : ∀ k, u.ownBlock = some k → k ≠ g ∧ ¬ vs[i].ownBlock = some k := fun k e => by
          refine ⟨(hne u (List.mem_of_getElem? hu2) k e).1, fun e' => ?_⟩
          exact rfoot_two h.nd (fun e3 => hj e3) hu2 (List.getElem?_eq_getElem hv) e e'
        exact ((h.img.bys j u _ hu2 hf2).kept hb (fun k e => (hnk k e).2)).kept hk1 (fun k e => (hnk k e).1)
  · rcases mem_rfoot hk with e | e | ⟨u, hu2, e⟩
    · exact .inl (by rw [e]; exact mem_rfoot_p)
    · exact .inl (mem_rfoot_fv e)
    · rcases List.mem_or_eq_of_mem_set hu2 with h4 | h4
      · exact .inl (mem_rfoot_v h4 e)
      · rw [h4] at e
        rcases hu k e with h5 | h5
        · exact .inr h5
        · exact .inl (mem_rfoot_v (List.getElem_mem hv) h5)
end Go.Proofs.YtdbphdllibffnaaGreat
