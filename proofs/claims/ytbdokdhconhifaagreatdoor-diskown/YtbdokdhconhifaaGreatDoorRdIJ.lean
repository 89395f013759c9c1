/- The document's disk: Arm, write, Sum. -/
import Derived.Test.YtbdokdhconhifaaGreatDoorRdCJ
import Derived.Deep.RegionHeld
import Derived.Maps.AppendAt
import Derived.Test.YtbdokdhconhifaaGreatDoorCopyLJ
namespace Go.Proofs.YtbdokdhconhifaaGreatDoor
open Go.RowKit Go.Shelf
set_option maxRecDepth 8000

set_option maxHeartbeats 400000 in
theorem refSum_any {w : World} {B : Nat} {v : Value} {fs : List FiD} {vs : List Value} (h : ImgAt w B v fs vs) (hfew : fs.length ≤ 64) (hu : usedD fs ≤ 1000000000000) :
    Calls Tryz.prog 26 #[v] w fun e w' => e = .returned (.int .i64 (usedD fs)) ∧ w' = w := by
  have HH : Hid _ := h
  obtain ⟨N, hN⟩ : ∃ N, N = fs.length := ⟨_, rfl⟩
  obtain ⟨fa, fc, rfl, hfc, hfm⟩ : ∃ fa fc, v = .slice fa N fc ∧ N ≤ fc ∧ fc ≤ 9223372036854775807 := by
    rw [hN]
    obtain ⟨_, ⟨e, e0⟩ | ⟨g, cap, cur, e, _, _, h4, h5, _⟩⟩ := h.own
    · exact ⟨none, 0, by rw [e, e0], by rw [e0]; omega, by omega⟩
    · unfold maxLen at h5
      exact ⟨_, _, e, h4, by omega⟩
  rw [← hN] at hfew
  have HN : Hid _ := hN
  have HU : Hid _ := hu
  clear h hN hu
  go_enter Tryz.func26, Tryz.ntmps26
  go_wp2_with fail
  go_loopw [3, 4] (fun vc vi wr => ∃ k : Nat, k ≤ N ∧ vi = .int .i64 k ∧ vc = .int .i64 (usedD (fs.take k)) ∧ wr = w) (fun _ vi _ => N - (intOf vi).toNat)
  case atStart => exact ⟨0, Nat.zero_le _, rfl, by simp [usedD], rfl⟩
  case round =>
    obtain ⟨k, hk, rfl, rfl, rfl⟩ := hrel
    by_cases hlt : k < N
    · have hlt1 : k < fs.length := by rw [← HN.out]; exact hlt
      obtain ⟨_, ⟨_, e0⟩ | ⟨g, cap, cur, e, _⟩⟩ := HH.out.own
      · rw [e0] at hlt1; simp at hlt1
      obtain ⟨rfl, _, rfl⟩ := Value.slice.inj e
      have himg := HH.out
      obtain ⟨u, _, _, a1, _, ho⟩ := himg.cells k hlt1
      obtain ⟨x, y, hu2, _, _⟩ := own_shape (owns_mono ho (Nat.zero_le _))
      rw [hu2] at a1
      have hut := used_take fs k hlt1
      have hsm : usedD (fs.take k) + fs[k].bytes.length ≤ 1000000000000 := by
        have h1 : usedD (fs.take (k + 1)) + usedD (fs.drop (k + 1)) = usedD fs := by rw [← usedD_append, List.take_append_drop]
        have := HU.out
        omega
      have HUT : Hid _ := hut
      generalize fs[k].bytes.length = L at *
      generalize usedD (fs.take k) = S at *
      clear himg ho hu2 hut e
      go_wp2_with fail
      go_roundw
      case rel => exact ⟨k + 1, by omega, by go_num, by rw [HUT.out]; go_num, by trivial⟩
      case measure => simp [intOf]; omega
    · obtain rfl : k = N := by omega
      have e : fs.take k = fs := List.take_of_length_le (by have := HN.out; omega)
      rw [e]
      go_wp2_with fail
      go_ret
      exact ⟨rfl, rfl⟩
end Go.Proofs.YtbdokdhconhifaaGreatDoor

/- The document's disk: found. -/
namespace Go.Proofs.YtbdokdhconhifaaGreatDoor
open Go.RowKit Go.Shelf
set_option maxRecDepth 8000

/-- Why a call that names a file is refused. -/
def RD.errO (R : RD) (n : ByteArray) : Int := if R.power then (if isNm n then (if hasF R.files n then 0 else 20) else 22) else 23

set_option maxHeartbeats 400000 in
theorem refFound_any {w : World} {p : Nat} {fv : Value} {vs : List Value} {R : RD} (h : IsRd w p fv vs R) (hr : Rise R.files) (hfew : R.files.length ≤ 64) (n : ByteArray) (hn : n.size ≤ 140737488355328) :
    Calls Tryz.prog 59 #[.pointer (some ⟨p, 0, none⟩), .string n] w fun e w' => e = .returned (.tuple #[.int .i64 (if R.errO n = 0 then (pl R.files n : Int) else 0), .int .i64 (R.errO n)]) ∧ w' = w := by
  obtain ⟨c0, c1, c2, c3, c4, c5⟩ := h.cells
  have hl := lt_of_block h.row
  have hA := refAt_any h hr hfew n
  have hN := refName_any n hn w
  cases hp : R.power
  · have e : R.errO n = 23 := by unfold RD.errO; rw [hp]; rfl
    rw [e, if_neg (by decide)]
    rw [hp] at c2
    clear h hA hN hp e
    go_enter Tryz.func59, Tryz.ntmps59
    go_wp2_with fail
    go_ret2
    exact ⟨rfl, rfl⟩
  · rw [hp] at c2
    cases hm : isNm n
    · have e : R.errO n = 22 := by unfold RD.errO; rw [if_pos hp, hm]; rfl
      rw [e, if_neg (by decide)]
      rw [hm] at hN
      have HN : Hid _ := hN
      clear h hA hN hp e hm
      go_enter Tryz.func59, Tryz.ntmps59
      go_wp2_with fail
      refine Calls.mono HN.out ?_
      rintro e w1 ⟨rfl, hw1⟩
      subst w1
      go_wp2_with fail
      go_ret2
      exact ⟨rfl, rfl⟩
    · rw [hm] at hN
      have HN : Hid _ := hN
      cases hh : hasF R.files n
      · have e : R.errO n = 20 := by unfold RD.errO; rw [if_pos hp, if_pos hm, hh]; rfl
        have ea : atI R.files n = -1 := by unfold atI; rw [hh]; rfl
        rw [e, if_neg (by decide)]
        rw [ea] at hA
        have HA : Hid _ := hA
        clear h hA hN hp e hm ea hh
        go_enter Tryz.func59, Tryz.ntmps59
        go_wp2_with fail
        refine Calls.mono HN.out ?_
        rintro e w1 ⟨rfl, hw1⟩
        subst w1
        go_wp2_with fail
        refine Calls.mono HA.out ?_
        rintro e w1 ⟨rfl, hw1⟩
        subst w1
        go_wp2_with fail
        go_ret2
        exact ⟨rfl, rfl⟩
      · have e : R.errO n = 0 := by unfold RD.errO; rw [if_pos hp, if_pos hm, if_pos hh]
        have ea : atI R.files n = (pl R.files n : Int) := by unfold atI; rw [hh]; rfl
        rw [e, if_pos rfl]
        rw [ea] at hA
        have HA : Hid _ := hA
        have hlt : decide ((pl R.files n : Int) < 0) = false := decide_eq_false (by omega)
        generalize pl R.files n = P at *
        clear h hA hN hp e hm ea hh
        go_enter Tryz.func59, Tryz.ntmps59
        go_wp2_with fail
        refine Calls.mono HN.out ?_
        rintro e w1 ⟨rfl, hw1⟩
        subst w1
        go_wp2_with fail
        refine Calls.mono HA.out ?_
        rintro e w1 ⟨rfl, hw1⟩
        subst w1
        go_wp2_with fail
        go_ret2
        exact ⟨rfl, rfl⟩
end Go.Proofs.YtbdokdhconhifaaGreatDoor

/- One cell of a file in a list of files is set. -/
namespace Go.Proofs.YtbdokdhconhifaaGreatDoor
open Go.RowKit Go.Shelf
set_option maxRecDepth 8000

theorem imgC_get (fs : List FiD) (vs : List Value) (h : vs.length = fs.length) (m : Nat) : (imgC fs vs)[m]? = (fs[m / 3]?).bind fun f => (vs[m / 3]?).bind fun u => (fiC f u)[m % 3]? := by
  by_cases hm : m / 3 < fs.length
  · have e : m = m / 3 * 3 + m % 3 := by omega
    have h2 : m / 3 < vs.length := by rw [h]; exact hm
    rw [List.getElem?_eq_getElem hm, List.getElem?_eq_getElem h2]
    simp only [Option.bind_some]
    rw [← imgC_at fs vs h (m / 3) hm (m % 3) (by omega), ← e]
  · rw [List.getElem?_eq_none (by rw [imgC_len fs vs h]; omega), List.getElem?_eq_none (l := fs) (by omega)]
    rfl

/-- The durable length of a file is set. -/
theorem ImgAt.setDur {w : World} {B g n c : Nat} {fs : List FiD} {vs : List Value} (h : ImgAt w B (.slice (some ⟨g, 0, none⟩) n c) fs vs) (i : Nat) (hi : i < fs.length) (d : Int) (hne : ∀ u ∈ vs, ∀ k, u.ownBlock = some k → k ≠ g) : ImgAt (w.setCell ⟨g, i * 3 + 2, none⟩ (.int .i64 d)) B (.slice (some ⟨g, 0, none⟩) n c) (fs.set i ⟨fs[i].name, fs[i].bytes, d⟩) vs := by
  have hk : Kept w (w.setCell ⟨g, i * 3 + 2, none⟩ (.int .i64 d)) (fun k => k = g) := Kept.setCell (Kept.refl _ (fun k => k = g)) ⟨g, i * 3 + 2, none⟩ _ (fun _ => rfl)
  have hl : (fs.set i ⟨fs[i].name, fs[i].bytes, d⟩).length = fs.length := by simp
  refine ⟨by rw [hl]; exact h.len, ?_, fun j u f hu hf => ?_⟩
  · obtain ⟨h0, ⟨e, _⟩ | ⟨g', cap, cur, e, h2, h3, h4, h5, h6, h7⟩⟩ := h.own
    · cases e
    obtain ⟨rfl, _, rfl⟩ : g = g' ∧ n = fs.length ∧ c = cap := by simpa using e
    rw [hl]
    refine ⟨by rw [imgC_len _ _ (by rw [hl]; exact h.len), hl], .inr ⟨g, c, cur.setIfInBounds (i * 3 + 2) (.int .i64 d), e, h2, heap_setK _ h3, h4, h5, by simpa using h6, ?_⟩⟩
    rw [Array.toList_setIfInBounds]
    apply List.ext_getElem?
    intro m
    have h7' := congrArg (fun l => l[m]?) h7
    simp only [List.getElem?_take] at h7' ⊢
    rw [List.getElem?_set, imgC_get _ _ (by rw [hl]; exact h.len)]
    rw [imgC_get _ _ h.len] at h7'
    by_cases hm : m < fs.length * 3
    · rw [if_pos hm] at h7' ⊢
      by_cases hmi : m / 3 = i
      · have hv : i < vs.length := by rw [h.len]; exact hi
        rw [hmi, List.getElem?_eq_getElem hi, List.getElem?_eq_getElem hv] at h7'
        rw [hmi, List.getElem?_set, if_pos rfl, if_pos hi, List.getElem?_eq_getElem hv]
        simp only [Option.bind_some] at h7' ⊢
        by_cases h2' : m % 3 = 2
        · have em : i * 3 + 2 = m := by omega
          rw [if_pos em, if_pos (by rw [em]; simp; omega), h2']
          rfl
        · have em : ¬ i * 3 + 2 = m := by omega
          rw [if_neg em, h7']
          match hq : m % 3, h2' with
          | 0, _ => rfl
          | 1, _ => rfl
          | 2, hx => exact absurd rfl hx
          | q + 3, _ => omega
      · rw [if_neg (by omega), h7', List.getElem?_set, if_neg (by omega)]
    · rw [if_neg hm, List.getElem?_eq_none (by rw [hl]; omega)]
      rfl
  · by_cases hj : j = i
    · subst hj
      rw [List.getElem?_set, if_pos rfl, if_pos hi] at hf
      cases hf
      exact (h.bys j u _ hu (List.getElem?_eq_getElem hi)).kept hk (fun k e => hne u (List.mem_of_getElem? hu) k e)
    · rw [List.getElem?_set, if_neg (by omega)] at hf
      exact (h.bys j u _ hu hf).kept hk (fun k e => hne u (List.mem_of_getElem? hu) k e)
end Go.Proofs.YtbdokdhconhifaaGreatDoor

/- The document's disk: Sync. -/
namespace Go.Proofs.YtbdokdhconhifaaGreatDoor
open Go.RowKit Go.Shelf
set_option maxRecDepth 8000

/-- What a call that writes gives. -/
abbrev RctTo (w : World) (p : Nat) (fv : Value) (vs : List Value) (r : Int × RD) (e : Ending) (w' : World) : Prop := e = .returned (.int .i64 r.1) ∧ ∃ fv' vs', RdTo w p fv vs w' r.2 fv' vs'

/-- What holds of a document's disk. -/
structure RdOk (R : RD) : Prop where
  rise : Rise R.files
  few : R.files.length ≤ 64
  used : usedD R.files ≤ 1000000000
  m0 : R.armed = true → 0 ≤ R.more
  m1 : R.more ≤ 9223372036854775807
  d0 : 0 ≤ R.done
  d1 : R.done ≤ 4611686018427387904

theorem RD.errO_zero {R : RD} {n : ByteArray} (h : R.errO n = 0) : hasF R.files n = true := by
  unfold RD.errO at h
  cases h1 : R.power <;> rw [h1] at h
  · simp at h
  · cases h2 : isNm n <;> rw [h2] at h
    · simp at h
    · cases h3 : hasF R.files n
      · rw [h3] at h; simp at h
      · rfl

theorem RD.write_files (R : RD) : R.write.2.files = R.files := by
  unfold RD.write
  split
  · split <;> rfl
  · rfl

end Go.Proofs.YtbdokdhconhifaaGreatDoor
/- The bytes of a file in a list of files are set; a file of the document's disk is given other bytes. -/
namespace Go.Proofs.YtbdokdhconhifaaGreatDoor
open Go.RowKit Go.Shelf
set_option maxRecDepth 8000

/-- The bytes of a file are set: the row. -/
theorem ImgAt.rowSet {w : World} {B g n c : Nat} {fs : List FiD} {vs : List Value} (h : w.ownsRow B 71 3 (.slice (some ⟨g, 0, none⟩) n c) fs.length (imgC fs vs)) (hlen : vs.length = fs.length) (i : Nat) (hi : i < fs.length) (u' : Value) (bs : List Int) : (w.setCell ⟨g, i * 3 + 1, none⟩ u').ownsRow B 71 3 (.slice (some ⟨g, 0, none⟩) n c) (fs.set i ⟨fs[i].name, bs, fs[i].dur⟩).length (imgC (fs.set i ⟨fs[i].name, bs, fs[i].dur⟩) (vs.set i u')) := by
  have hl : (fs.set i ⟨fs[i].name, bs, fs[i].dur⟩).length = fs.length := by simp
  have hl2 : (vs.set i u').length = (fs.set i ⟨fs[i].name, bs, fs[i].dur⟩).length := by rw [hl]; simpa using hlen
  have hv : i < vs.length := by rw [hlen]; exact hi
  obtain ⟨h0, ⟨e, _⟩ | ⟨g', cap, cur, e, h2, h3, h4, h5, h6, h7⟩⟩ := h
  · cases e
  obtain ⟨rfl, _, rfl⟩ : g = g' ∧ n = fs.length ∧ c = cap := by simpa using e
  rw [hl]
  refine ⟨by rw [imgC_len _ _ hl2, hl], .inr ⟨g, c, cur.setIfInBounds (i * 3 + 1) u', e, h2, heap_setK _ h3, h4, h5, by simpa using h6, ?_⟩⟩
  rw [Array.toList_setIfInBounds]
  apply List.ext_getElem?
  intro m
  have h7' := congrArg (fun l => l[m]?) h7
  simp only [List.getElem?_take] at h7' ⊢
  rw [List.getElem?_set, imgC_get _ _ hl2]
  rw [imgC_get _ _ hlen] at h7'
  by_cases hm : m < fs.length * 3
  · rw [if_pos hm] at h7' ⊢
    by_cases hmi : m / 3 = i
    · rw [hmi, List.getElem?_eq_getElem hi, List.getElem?_eq_getElem hv] at h7'
      rw [hmi, List.getElem?_set, if_pos rfl, if_pos hi, List.getElem?_set, if_pos rfl, if_pos hv]
      simp only [Option.bind_some] at h7' ⊢
      by_cases h2' : m % 3 = 1
      · have em : i * 3 + 1 = m := by omega
        rw [if_pos em, if_pos (by rw [em]; simp; omega), h2']
        rfl
      · have em : ¬ i * 3 + 1 = m := by omega
        rw [if_neg em, h7']
        match hq : m % 3, h2' with
        | 0, _ => rfl
        | 1, hx => exact absurd rfl hx
        | 2, _ => rfl
        | q + 3, _ => omega
    · rw [if_neg (by omega), h7', List.getElem?_set, if_neg (by omega), List.getElem?_set, if_neg (by omega)]
  · rw [if_neg hm, List.getElem?_eq_none (by rw [hl]; omega)]
    rfl

theorem rfoot_two {p : Nat} {fv : Value} {vs : List Value} (h : (rfoot p fv vs).Nodup) {i j : Nat} (hij : j ≠ i) {u v : Value} {k : Nat} (hu : vs[j]? = some u) (hv : vs[i]? = some v) (e : u.ownBlock = some k) (e' : v.ownBlock = some k) : False := by
  have h2 := (List.nodup_append.1 (List.nodup_cons.1 h).2).2.1
  have h3 : vs.Pairwise (fun a b => ∀ k, a.ownBlock = some k → b.ownBlock ≠ some k) := by
    clear hu hv h
    induction vs with
    | nil => exact List.Pairwise.nil
    | cons a l ih =>
      rw [List.flatMap_cons] at h2
      obtain ⟨_, h4, h5⟩ := List.nodup_append.1 h2
      refine List.Pairwise.cons (fun b hb k ha hbk => ?_) (ih h4)
      exact h5 k (by rw [ha]; simp) k (List.mem_flatMap.2 ⟨b, hb, by rw [hbk]; simp⟩) rfl
  obtain ⟨hj, rfl⟩ := List.getElem?_eq_some_iff.1 hu
  obtain ⟨hi, rfl⟩ := List.getElem?_eq_some_iff.1 hv
  rcases Nat.lt_or_gt_of_ne hij with hlt | hlt
  · exact List.pairwise_iff_getElem.1 h3 j i hj hi hlt k e e'
  · exact List.pairwise_iff_getElem.1 h3 i j hi hj hlt k e' e

theorem rfoot_set {p : Nat} {fv : Value} {vs : List Value} (h : (rfoot p fv vs).Nodup) (i : Nat) (hi : i < vs.length) (u' : Value) (hu : ∀ k, u'.ownBlock = some k → k ∉ rfoot p fv vs ∨ vs[i].ownBlock = some k) : (rfoot p fv (vs.set i u')).Nodup := by
  have e1 : vs.set i u' = vs.take i ++ u' :: vs.drop (i + 1) := List.set_eq_take_append_cons_drop .. |>.trans (by rw [if_pos hi])
  have e2 : vs = vs.take i ++ vs[i] :: vs.drop (i + 1) := by rw [← List.drop_eq_getElem_cons hi, List.take_append_drop]
  have hx : (rfoot p fv (vs.take i ++ vs[i] :: vs.drop (i + 1))).Nodup := by rw [← e2]; exact h
  have hu' : ∀ k, u'.ownBlock = some k → k ∉ rfoot p fv (vs.take i ++ vs.drop (i + 1)) := by
    intro k e hm
    have hmem : k ∈ rfoot p fv vs := by
      rcases mem_rfoot hm with e3 | e3 | ⟨u, hu2, e3⟩
      · rw [e3]; exact mem_rfoot_p
      · exact mem_rfoot_fv e3
      · refine mem_rfoot_v ?_ e3
        rcases List.mem_append.1 hu2 with h4 | h4
        · exact List.mem_of_mem_take h4
        · exact List.mem_of_mem_drop h4
    rcases hu k e with h3 | h3
    · exact h3 hmem
    · unfold rfoot at hx hm
      rw [List.flatMap_append, List.flatMap_cons, h3] at hx
      rw [List.flatMap_append] at hm
      have hp : (p :: (fv.ownBlock.toList ++ (List.flatMap (fun v => v.ownBlock.toList) (List.take i vs) ++ ((some k).toList ++ List.flatMap (fun v => v.ownBlock.toList) (List.drop (i + 1) vs))))).Perm (k :: (p :: (fv.ownBlock.toList ++ (List.flatMap (fun v => v.ownBlock.toList) (List.take i vs) ++ List.flatMap (fun v => v.ownBlock.toList) (List.drop (i + 1) vs))))) := by
        refine List.Perm.trans (List.Perm.cons p ?_) (List.Perm.swap k p _)
        have hm := List.perm_middle (a := k) (l₁ := fv.ownBlock.toList ++ List.flatMap (fun v => v.ownBlock.toList) (List.take i vs)) (l₂ := List.flatMap (fun v => v.ownBlock.toList) (List.drop (i + 1) vs))
        rw [List.append_assoc, List.append_assoc] at hm
        exact hm
      exact (List.nodup_cons.1 (hp.nodup_iff.1 hx)).1 hm
  rw [e1]
  unfold rfoot at hx hu' ⊢
  rw [List.flatMap_append, List.flatMap_cons] at hx ⊢
  have hx2 : (p :: (fv.ownBlock.toList ++ List.flatMap (fun v => v.ownBlock.toList) (List.take i vs ++ List.drop (i + 1) vs))).Nodup := by
    rw [List.flatMap_append]
    refine hx.sublist (List.Sublist.cons_cons p (List.Sublist.append (List.Sublist.refl _) (List.Sublist.append (List.Sublist.refl _) (List.sublist_append_right _ _))))
  cases hk : u'.ownBlock with
  | none =>
    rw [List.flatMap_append] at hx2
    simpa using hx2
  | some k =>
    have hn := hu' k hk
    rw [List.flatMap_append] at hn hx2
    have hp : (p :: (fv.ownBlock.toList ++ (List.flatMap (fun v => v.ownBlock.toList) (List.take i vs) ++ ((some k).toList ++ List.flatMap (fun v => v.ownBlock.toList) (List.drop (i + 1) vs))))).Perm (k :: (p :: (fv.ownBlock.toList ++ (List.flatMap (fun v => v.ownBlock.toList) (List.take i vs) ++ List.flatMap (fun v => v.ownBlock.toList) (List.drop (i + 1) vs))))) := by
      refine List.Perm.trans (List.Perm.cons p ?_) (List.Perm.swap k p _)
      have hm := List.perm_middle (a := k) (l₁ := fv.ownBlock.toList ++ List.flatMap (fun v => v.ownBlock.toList) (List.take i vs)) (l₂ := List.flatMap (fun v => v.ownBlock.toList) (List.drop (i + 1) vs))
      rw [List.append_assoc, List.append_assoc] at hm
      exact hm
    exact hp.nodup_iff.2 (List.nodup_cons.2 ⟨hn, hx2⟩)

theorem rfoot_ne {p g n c : Nat} {vs : List Value} (h : (rfoot p (.slice (some ⟨g, 0, none⟩) n c) vs).Nodup) : g ≠ p ∧ ∀ u ∈ vs, ∀ k, u.ownBlock = some k → k ≠ g ∧ k ≠ p := by
  refine ⟨fun e => (List.nodup_cons.1 h).1 (List.mem_append.2 (.inl (by rw [e]; simp [Value.ownBlock]))), fun u' hu' k e => ⟨fun e' => ?_, fun e' => (List.nodup_cons.1 h).1 (List.mem_append.2 (.inr (List.mem_flatMap.2 ⟨u', hu', by rw [e, e']; simp⟩)))⟩⟩
  have h3 := (List.nodup_cons.1 h).2
  have h4 := (List.nodup_append.1 h3).2.2
  exact h4 g (by simp [Value.ownBlock]) g (List.mem_flatMap.2 ⟨u', hu', by rw [e, e']; simp⟩) rfl

/-- A file of the document's disk is given other bytes (w1: some room was taken since w). -/
theorem IsRd.setB {w w1 : World} {p g n c : Nat} {vs : List Value} {R : RD} (h : IsRd w p (.slice (some ⟨g, 0, none⟩) n c) vs R) (i : Nat) (hi : i < R.files.length) (hv : i < vs.length) (u' : Value) (bs : List Int) (hb : Kept w w1 (fun k => vs[i].ownBlock = some k)) (ho : Owns w1 0 u' bs) (hu : ∀ k, u'.ownBlock = some k → w.heap.size ≤ k ∨ vs[i].ownBlock = some k) : RdTo w p (.slice (some ⟨g, 0, none⟩) n c) vs (w1.setCell ⟨g, i * 3 + 1, none⟩ u') { R with files := R.files.set i ⟨R.files[i].name, bs, R.files[i].dur⟩ } (.slice (some ⟨g, 0, none⟩) n c) (vs.set i u') := by
  obtain ⟨hgp, hne⟩ := rfoot_ne h.nd
  have hui := hne vs[i] (List.getElem_mem hv)
  have hg := h.lt (k := g) (mem_rfoot_fv rfl)
  have hp := lt_of_block h.row
  have hug : ∀ k, u'.ownBlock = some k → k ≠ g ∧ k ≠ p := fun k e => by
    rcases hu k e with h3 | h3
    · exact ⟨by omega, by omega⟩
    · exact hui k h3
  have hnd := rfoot_set h.nd i hv u' (fun k e => by
    rcases hu k e with h3 | h3
    · exact .inl (fun hm => by have := h.lt hm; omega)
    · exact .inr h3)
  have hk1 : Kept w1 (w1.setCell ⟨g, i * 3 + 1, none⟩ u') (fun k => k = g) := Kept.setCell (Kept.refl _ (fun k => k = g)) ⟨g, i * 3 + 1, none⟩ _ (fun _ => rfl)
  have hkk : Kept w (w1.setCell ⟨g, i * 3 + 1, none⟩ u') (· ∈ rfoot p (.slice (some ⟨g, 0, none⟩) n c) vs) :=
    hb.trans' hk1 (fun k _ e => mem_rfoot_v (List.getElem_mem hv) e) (fun k _ e => by rw [e]; exact mem_rfoot_fv rfl)
  refine ⟨⟨hk1.heap (hb.heap h.row (fun e => (hui p e).2 rfl)) (fun e => hgp e.symm), ?_, hnd⟩, hkk, fun k hk => ?_⟩
  · -- the list, set in a world where only this file's bytes changed
    have hlen := h.img.len
    have hl : (R.files.set i ⟨R.files[i].name, bs, R.files[i].dur⟩).length = R.files.length := by simp
    have hw1 : w1.ownsRow 0 71 3 (.slice (some ⟨g, 0, none⟩) n c) R.files.length (imgC R.files vs) := row_kept' h.img.own hb (fun k e e' => by
      have : g = k := by simpa [Value.ownBlock] using e
      exact (hui k e').1 this.symm)
    have hl2 : (vs.set i u').length = (R.files.set i ⟨R.files[i].name, bs, R.files[i].dur⟩).length := by rw [hl]; simpa using hlen
    refine ⟨hl2, ?_, fun j u f hu' hf => ?_⟩
    · -- the row: as in ImgAt.setBys
      have hz := ImgAt.rowSet hw1 hlen i hi u' bs
      exact hz
    · by_cases hj : j = i
      · subst hj
        rw [List.getElem?_set, if_pos rfl, if_pos hi] at hf
        rw [List.getElem?_set, if_pos rfl, if_pos hv] at hu'
        cases hf
        cases hu'
        exact ho.kept hk1 (fun k e => (hug k e).1)
      · have hu2 := hu'
        have hf2 := hf
        rw [List.getElem?_set, if_neg (by omega)] at hf2 hu2
        have hnk : ∀ k, u.ownBlock = some k → k ≠ g ∧ ¬ vs[i].ownBlock = some k := fun k e => by
          refine ⟨(hne u (List.mem_of_getElem? hu2) k e).1, fun e' => ?_⟩
          exact rfoot_two h.nd (fun e3 => hj e3) hu2 (List.getElem?_eq_getElem hv) e e'
        exact ((h.img.bys j u _ hu2 hf2).kept hb (fun k e => (hnk k e).2)).kept hk1 (fun k e => (hnk k e).1)
  · rcases mem_rfoot hk with e | e | ⟨u, hu2, e⟩
    · exact .inl (by rw [e]; exact mem_rfoot_p)
    · exact .inl (mem_rfoot_fv e)
    · rcases List.mem_or_eq_of_mem_set hu2 with h4 | h4
      · exact .inl (mem_rfoot_v h4 e)
      · rw [h4] at e
        rcases hu k e with h5 | h5
        · exact .inr h5
        · exact .inl (mem_rfoot_v (List.getElem_mem hv) h5)
end Go.Proofs.YtbdokdhconhifaaGreatDoor

/- The document's lists of files: without, with. -/
namespace Go.Proofs.YtbdokdhconhifaaGreatDoor
open Go.RowKit Go.Shelf
set_option maxRecDepth 8000

theorem addrAddR (b off n : Nat) : (⟨b, off, none⟩ : Addr).add n = ⟨b, off + n, none⟩ := by
  by_cases h : n = 0
  · subst h; simp [Addr.add]
  · simp [Addr.add, h]

abbrev zC (z : List (FiD × Value)) : List Value := (z.map fun a => fiC a.1 a.2).flatten

theorem zC_len (z : List (FiD × Value)) : (zC z).length = z.length * 3 := by
  unfold zC
  induction z with
  | nil => rfl
  | cons a l ih => simp only [List.map_cons, List.flatten_cons, List.length_append, ih]; simp; omega

theorem zC_snoc (z : List (FiD × Value)) (f : FiD) (u : Value) : zC (z ++ [(f, u)]) = zC z ++ fiC f u := by
  unfold zC; simp

theorem zC_img (z : List (FiD × Value)) : imgC (z.map Prod.fst) (z.map Prod.snd) = zC z := by
  unfold imgC zC
  induction z with
  | nil => rfl
  | cons a l ih => simp only [List.map_cons, List.zipWith_cons_cons, List.flatten_cons, ih]

/-- A list of files that was made since w. -/
structure OutZ (w wr : World) (v : Value) (z : List (FiD × Value)) : Prop where
  own : wr.ownsRow w.heap.size 71 3 v z.length (zC z)
  bel : Below w.heap.size w wr

theorem OutZ.img {w wr : World} {v : Value} {z : List (FiD × Value)} (h : OutZ w wr v z) (hb : ∀ a ∈ z, Owns w 0 a.2 a.1.bytes) : ImgAt wr 0 v (z.map Prod.fst) (z.map Prod.snd) := by
  refine ⟨by simp, ?_, fun i u f hu hf => ?_⟩
  · rw [zC_img, List.length_map]
    obtain ⟨h1, h2⟩ := h.own
    refine ⟨h1, ?_⟩
    rcases h2 with h2 | ⟨g, cap, cur, e, h3, h4⟩
    · exact .inl h2
    · exact .inr ⟨g, cap, cur, e, Nat.zero_le _, h4⟩
  · rw [List.getElem?_map] at hu hf
    cases hz : z[i]? with
    | none => rw [hz] at hu; cases hu
    | some a =>
      rw [hz] at hu hf
      cases hu
      cases hf
      have ho := hb a (List.mem_of_getElem? hz)
      exact ho.kept (Below.kept h.bel) (fun k e e' => by have := rows_ltK ho e; omega)

theorem OutZ.new {w wr : World} {v : Value} {z : List (FiD × Value)} (h : OutZ w wr v z) {k : Nat} (hk : v.ownBlock = some k) : w.heap.size ≤ k := (h.own.lt k hk).1

/-- A file of a list, some room taken later. -/
theorem img_at {w wr : World} {B : Nat} {v : Value} {fs : List FiD} {vs : List Value} (h : ImgAt w B v fs vs) (hb : Below w.heap.size w wr) (i : Nat) (hi : i < fs.length) : ∃ g c u, v = .slice (some ⟨g, 0, none⟩) fs.length c ∧ (fs.zip vs)[i]? = some (fs[i], u) ∧ wr.cell? ⟨g, i * 3, none⟩ = some (.string fs[i].name) ∧ wr.cell? ⟨g, i * 3 + 1, none⟩ = some u ∧ wr.cell? ⟨g, i * 3 + 2, none⟩ = some (.int .i64 fs[i].dur) ∧ Owns wr B u fs[i].bytes := by
  have h' := h.kept (Below.kept hb) (fun j e => .inr e)
  obtain ⟨hl, ⟨_, e⟩ | ⟨g, cap, cur, e, _, _, h4, h5, _⟩⟩ := h.own
  · rw [e] at hi; simp at hi
  · subst e
    obtain ⟨u, hu, a0, a1, a2, ho⟩ := h'.cells i hi
    refine ⟨g, cap, u, rfl, ?_, a0, a1, a2, ho⟩
    rw [List.getElem?_zip_eq_some]
    exact ⟨List.getElem?_eq_getElem hi, hu⟩

theorem img_shape {w : World} {B : Nat} {v : Value} {fs : List FiD} {vs : List Value} (h : ImgAt w B v fs vs) : ∃ fa fc, v = .slice fa fs.length fc ∧ fs.length ≤ fc ∧ fc ≤ 9223372036854775807 := by
  obtain ⟨_, ⟨e, e0⟩ | ⟨g, cap, cur, e, _, _, h4, h5, _⟩⟩ := h.own
  · exact ⟨none, 0, by rw [e, e0], by rw [e0]; omega, by omega⟩
  · unfold maxLen at h5
    exact ⟨_, _, e, h4, by omega⟩

end Go.Proofs.YtbdokdhconhifaaGreatDoor