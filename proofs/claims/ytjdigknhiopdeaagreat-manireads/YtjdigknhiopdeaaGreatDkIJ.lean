/- A disk's calls that find a file: open, Sync, Cut, Remove, Rename, Read. -/
import Derived.Test.YtjdigknhiopdeaaGreatDkHJ
namespace Go.Proofs.YtjdigknhiopdeaaGreat
open Go.RowKit Go.Shelf
set_option maxRecDepth 8000

/-- What always holds of a disk's data. -/
structure DkOk (D : DkD) : Prop where
  rise : Rise D.files
  few : D.files.length ≤ 64
  nms : ∀ f ∈ D.files, isNm f.name = true
  durs : ∀ f ∈ D.files, 0 ≤ f.dur ∧ f.dur ≤ f.bytes.length
  r0 : 0 ≤ D.room
  r1 : D.room ≤ 16777216
  fits : (usedD D.files : Int) ≤ D.room
  a0 : -1 ≤ D.armed
  a1 : D.armed ≤ 9223372036854775807
  w0 : 0 ≤ D.writes

theorem len_used {fs : List FiD} {f : FiD} (h : f ∈ fs) : f.bytes.length ≤ usedD fs := by
  induction fs with
  | nil => cases h
  | cons a fs ih =>
    unfold usedD at *
    simp only [List.map_cons, List.sum_cons]
    rcases List.mem_cons.1 h with rfl | h
    · omega
    · have := ih h; omega

theorem set_eq {α : Type} (l : List α) (i : Nat) (x : α) (hi : i < l.length) : l.set i x = (l.eraseIdx i).take i ++ x :: (l.eraseIdx i).drop i := by
  have hl : (l.take i).length = i := by simp; omega
  rw [List.eraseIdx_eq_take_drop_succ, List.take_append_of_le_length (by omega), List.take_of_length_le (by omega), List.drop_append_of_le_length (by omega), List.drop_eq_nil_of_le (by omega), List.nil_append, List.set_eq_take_append_cons_drop, if_pos hi]

/-- A step at one of the files. -/
theorem IsDk.setFile {w w' : World} {p : Nat} {fv : Value} {ms : List FiM} {D : DkD} (h : IsDk w p fv ms D) {i : Nat} {m m' : FiM} {f' : FiD} (hm : ms[i]? = some m) (ht : FlTo w m w' m' f') : DkTo w p fv ms w' { D with files := D.files.set i f' } fv (ms.set i m') := by
  have hi : i < ms.length := (List.getElem?_eq_some_iff.1 hm).1
  have hmm : ms[i] = m := (List.getElem?_eq_some_iff.1 hm).2
  have hmem : m ∈ ms := List.mem_of_getElem? hm
  have hfm : ∀ k ∈ m.blks, k ∈ foot p fv ms := fun k hk => by
    rcases List.mem_cons.1 hk with rfl | hk'
    · exact mem_foot_q hmem
    · cases hv : m.v.ownBlock with
      | none => rw [hv] at hk'; simp at hk'
      | some j => rw [hv] at hk'; simp at hk'; rw [hk']; exact mem_foot_v hmem hv
  have hap := erase_apart h.nd i hi
  rw [hmm] at hap
  have hlt : m.q < w.heap.size := h.lt (mem_foot_q hmem)
  have hbl : ∀ k ∈ m'.blks, k ∈ m.blks ∨ w.heap.size ≤ k := fun k hk => by
    rcases List.mem_cons.1 hk with rfl | hk'
    · rw [ht.q]; exact .inl (blks_q m)
    · cases hv : m'.v.ownBlock with
      | none => rw [hv] at hk'; simp at hk'
      | some j =>
        rw [hv] at hk'; simp at hk'; rw [hk']
        rcases ht.v j hv with e | e
        · exact .inl (blks_v e)
        · exact .inr e
  have hndm := nodup_blks h.nd hmem
  have hnd' : m'.blks.Nodup := by
    refine List.nodup_cons.2 ⟨fun e => ?_, by cases m'.v.ownBlock <;> simp⟩
    cases hv : m'.v.ownBlock with
    | none => rw [hv] at e; simp at e
    | some j =>
      rw [hv] at e; simp at e
      rw [ht.q] at e
      rcases ht.v j hv with e' | e'
      · have := (List.nodup_cons.1 hndm).1
        rw [e', e] at this
        simp at this
      · omega
  refine ⟨⟨ht.kept.heap h.row (fun e => ?_), by simp [h.len], ?_, fun k mk fk hmk hfk => ?_, ?_⟩, ht.kept.mono (fun k _ e => hfm k e), fun k hk => ?_⟩
  · exact (List.nodup_cons.1 h.nd).1 (List.mem_append_right _ (List.mem_flatMap.2 ⟨m, hmem, e⟩))
  · rw [List.length_set]
    have e : ptrs (ms.set i m') = ptrs ms := by
      apply List.ext_getElem?
      intro j
      simp only [ptrs, List.getElem?_map, List.getElem?_set]
      by_cases hj : i = j
      · subst hj
        rw [if_pos rfl, if_pos hi, hm]
        simp [ht.q]
      · rw [if_neg hj]
    rw [e]
    exact row_kept' h.own ht.kept (fun k e e' => (foot_row h.nd hmem e') (.inr e))
  · simp only at hfk
    rw [List.getElem?_set] at hmk hfk
    by_cases hj : i = k
    · subst hj
      rw [if_pos rfl, if_pos hi] at hmk
      rw [if_pos rfl, if_pos (by rw [← h.len]; exact hi)] at hfk
      cases hmk
      cases hfk
      exact ht.is
    · rw [if_neg hj] at hmk hfk
      have hne : ∀ x ∈ mk.blks, x ∉ m.blks := fun x hx e => by
        have hmk' : mk ∈ ms.eraseIdx i := by
          rw [List.mem_iff_getElem?]
          by_cases hki : k < i
          · exact ⟨k, by rw [getElem?_erase, if_pos hki]; exact hmk⟩
          · exact ⟨k - 1, by rw [getElem?_erase, if_neg (by omega), show k - 1 + 1 = k by omega]; exact hmk⟩
        refine hap x e ?_
        rcases List.mem_cons.1 hx with rfl | hx'
        · exact mem_foot_q hmk'
        · cases hv : mk.v.ownBlock with
          | none => rw [hv] at hx'; simp at hx'
          | some j => rw [hv] at hx'; simp at hx'; rw [hx']; exact mem_foot_v hmk' hv
      exact (h.file k mk fk hmk hfk).kept ht.kept (hne _ (blks_q mk)) (fun x e => hne x (blks_v e))
  · rw [set_eq ms i m' hi]
    refine (foot_insert m' i).nodup_iff.2 (List.nodup_append.2 ⟨hnd', (h.nd).sublist (foot_erase i), fun a ha b hb e => ?_⟩)
    subst e
    rcases hbl a ha with e | e
    · exact hap a e hb
    · have := h.lt ((foot_erase i).subset hb); omega
  · rw [set_eq ms i m' hi] at hk
    rcases foot_ins (n := w.heap.size) (fun k e => .inl e) hk with e | e | e
    · rcases hbl k e with e | e
      · exact .inl (hfm k e)
      · exact .inr e
    · exact .inl ((foot_erase i).subset e)
    · exact .inr e

/-- What open says. -/
def DkD.errO (D : DkD) (n : ByteArray) : Int := if D.on then (if isNm n then (if hasF D.files n then 0 else 20) else 22) else 23

theorem errO_zero {D : DkD} {n : ByteArray} (h : D.errO n = 0) : D.on = true ∧ isNm n = true ∧ hasF D.files n = true := by
  unfold DkD.errO at h
  cases h1 : D.on <;> rw [h1] at h
  · simp at h
  · cases h2 : isNm n <;> rw [h2] at h
    · simp at h
    · cases h3 : hasF D.files n <;> rw [h3] at h
      · simp at h
      · exact ⟨rfl, rfl, rfl⟩

set_option maxHeartbeats 1000000 in
theorem open_any {w : World} {p : Nat} {fv : Value} {ms : List FiM} {D : DkD} (h : IsDk w p fv ms D) (ok : DkOk D) (n : ByteArray) :
    Calls Tryz.prog 67 #[.pointer (some ⟨p, 0, none⟩), .string n] w fun e w' => (∃ q, e = .returned (.tuple #[.pointer q, .int .i64 (D.errO n)]) ∧ (D.errO n = 0 → ∃ m, ms[pl D.files n]? = some m ∧ q = some ⟨m.q, 0, none⟩)) ∧ Below w.heap.size w w' := by
  obtain ⟨V, eV⟩ : ∃ V, V = w.alloc (.cells #[.string n] 9) := ⟨_, rfl⟩
  have hbV : Below w.heap.size w V := by rw [eV]; exact one_allocK _ _
  have hV : IsDk V p fv ms D := h.later hbV
  have hR := ready_any hV w.heap.size [n] (fun k x hk => by
    cases k with
    | zero => simp at hk; subst hk; rw [eV]; exact cell_of_row _ _ 0 _ _ _ (heap_alloc_new w _)
    | succ k => simp at hk) (by simp)
  have hF := find_any hV ok.rise ok.few n
  have hl := lt_of_block h.row
  have hlV := lt_of_block hV.row
  have HB : Hid (Below w.heap.size w V) := hbV
  have HE : Hid _ := eV
  simp only [List.all_cons, List.all_nil, Bool.and_true, List.length_singleton] at hR
  have HM : Hid (hasF D.files n = true → ∃ m, ms[pl D.files n]? = some m) := fun e => by
    obtain ⟨hlt, _⟩ := (hasF_iff _ _).1 e
    exact ⟨_, List.getElem?_eq_getElem (by rw [h.len]; exact hlt)⟩
  obtain ⟨E, hE⟩ : ∃ E, E = D.errO n := ⟨_, rfl⟩
  rw [← hE]
  have HX : Hid (D.on = false → E = 23) := fun e => by rw [hE]; unfold DkD.errO; rw [e]; rfl
  have HY : Hid (D.on = true → isNm n = false → E = 22) := fun e e2 => by rw [hE]; unfold DkD.errO; rw [e, e2]; rfl
  have HZ : Hid (D.on = true → isNm n = true → hasF D.files n = false → E = 20) := fun e e2 e3 => by rw [hE]; unfold DkD.errO; rw [e, e2, e3]; rfl
  have HT : Hid (D.on = true → isNm n = true → hasF D.files n = true → E = 0) := fun e e2 e3 => by rw [hE]; unfold DkD.errO; rw [e, e2, e3]; rfl
  clear h hV ok eV hbV hE
  by_cases hq : D.on = true ∧ isNm n = true
  · obtain ⟨hon, hnm⟩ := hq
    rw [hon, hnm] at hR
    have HR : Hid _ := hR
    clear hR
    cases hb : hasF D.files n
    · rw [hb] at hF
      have HF : Hid _ := hF
      have H20 : Hid _ := HZ.out hon hnm hb
      clear hF HX HY HZ HT hon hnm hb HM
      go_enter Tryz.func67, Tryz.ntmps67
      go_wp2_with fail
      rw [← HE.out]
      refine Calls.mono HR.out ?_
      rintro e w1 ⟨rfl, hw1⟩
      subst w1
      go_wp2_with fail
      refine Calls.mono HF.out ?_
      rintro e w1 ⟨rfl, hw1⟩
      subst w1
      go_wp2_with fail
      go_ret2
      refine ⟨⟨none, by rw [H20.out]; rfl, fun e => ?_⟩, HB.out⟩
      rw [H20.out] at e
      cases e
    · obtain ⟨m, hm⟩ := HM.out hb
      rw [if_pos hb, hm] at hF
      have HF : Hid _ := hF
      have HQ : Hid _ := hm
      have H0 : Hid _ := HT.out hon hnm hb
      clear hF hm HM HX HY HZ HT hon hnm hb
      go_enter Tryz.func67, Tryz.ntmps67
      go_wp2_with fail
      rw [← HE.out]
      refine Calls.mono HR.out ?_
      rintro e w1 ⟨rfl, hw1⟩
      subst w1
      go_wp2_with fail
      refine Calls.mono HF.out ?_
      rintro e w1 ⟨rfl, hw1⟩
      subst w1
      go_wp2_with fail
      go_ret2
      exact ⟨⟨_, by rw [H0.out]; rfl, fun _ => ⟨m, HQ.out, rfl⟩⟩, HB.out⟩
  · have hEn : (if D.on = true then (if isNm n = true then (0 : Int) else 22) else 23) = E ∧ E ≠ 0 := by
      cases hon : D.on
      · rw [HX.out hon]; simp
      · cases hnm : isNm n
        · rw [HY.out hon hnm]; simp
        · exact absurd ⟨hon, hnm⟩ hq
    rw [hEn.1] at hR
    have HR : Hid _ := hR
    have hb : (E != 0) = true := by simpa using hEn.2
    have HN : Hid _ := hEn.2
    clear hR hF hEn hq HX HY HZ HT HM
    go_enter Tryz.func67, Tryz.ntmps67
    go_wp2_with fail
    rw [← HE.out]
    refine Calls.mono HR.out ?_
    rintro e w1 ⟨rfl, hw1⟩
    subst w1
    go_wp2_with fail
    go_ret2
    exact ⟨⟨none, rfl, fun e => absurd e HN.out⟩, HB.out⟩
end Go.Proofs.YtjdigknhiopdeaaGreat
