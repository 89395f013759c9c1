/- A disk's row of files: a new file, a file under another name. -/
import Derived.Test.YtdhnbgeijfgfaaaGreatDoorDkGJ
namespace Go.Proofs.YtdhnbgeijfgfaaaGreatDoor
open Go.RowKit Go.Shelf
set_option maxRecDepth 8000

def insF (fs : List FiD) (f : FiD) : List FiD := fs.take (pl fs f.name) ++ f :: fs.drop (pl fs f.name)

theorem insM_mem {α : Type} {l : List α} {i : Nat} {x a : α} (h : a ∈ l.take i ++ x :: l.drop i) : a = x ∨ a ∈ l := by
  rcases List.mem_append.1 h with h | h
  · exact .inr (List.mem_of_mem_take h)
  · rcases List.mem_cons.1 h with h | h
    · exact .inl h
    · exact .inr (List.mem_of_mem_drop h)

theorem foot_ins {p k : Nat} {fv fv' : Value} {ms : List FiM} {m : FiM} {i : Nat} {n : Nat} (hb : ∀ k, fv'.ownBlock = some k → fv.ownBlock = some k ∨ n ≤ k) (h : k ∈ foot p fv' (ms.take i ++ m :: ms.drop i)) : k ∈ m.blks ∨ k ∈ foot p fv ms ∨ n ≤ k := by
  rcases mem_foot h with rfl | e | ⟨m', hm', e⟩
  · exact .inr (.inl mem_foot_p)
  · rcases hb k e with e | e
    · exact .inr (.inl (mem_foot_fv e))
    · exact .inr (.inr e)
  · rcases insM_mem hm' with rfl | hm'
    · left
      rcases e with rfl | e
      · exact blks_q _
      · exact blks_v e
    · right; left
      rcases e with rfl | e
      · exact mem_foot_q hm'
      · exact mem_foot_v hm' e

set_option maxHeartbeats 400000 in
theorem dkAdd_any {w : World} {p : Nat} {fv : Value} {ms : List FiM} {D : DkD} (h : IsDk w p fv ms D) (hr : Rise D.files) (hfew : D.files.length ≤ 63) (n : ByteArray) :
    Calls Tryz.prog 55 #[.pointer (some ⟨p, 0, none⟩), .string n] w fun e w' => e = .returned (.pointer (some ⟨w.heap.size, 0, none⟩)) ∧ ∃ fv', DkTo w p fv ms w' { D with files := insF D.files ⟨n, [], 0⟩ } fv' (ms.take (pl D.files n) ++ ⟨w.heap.size, .slice none 0 0⟩ :: ms.drop (pl D.files n)) := by
  have HP : Hid (∀ V : World, V = w.alloc (.cells (flQ n (.slice none 0 0) 0) 86) → Calls Tryz.prog 78 #[.pointer (some ⟨p, 0, none⟩), .pointer (some ⟨w.heap.size, 0, none⟩)] V fun e w' => e = .returned (.tuple #[]) ∧ ∃ fv', DkTo w p fv ms w' { D with files := insF D.files ⟨n, [], 0⟩ } fv' (ms.take (pl D.files n) ++ ⟨w.heap.size, .slice none 0 0⟩ :: ms.drop (pl D.files n))) := fun V hV => by
    subst hV
    have hb := one_allocK w (.cells (flQ n (.slice none 0 0) 0) 86)
    have hf : FileAt (w.alloc (.cells (flQ n (.slice none 0 0) 0) 86)) ⟨w.heap.size, .slice none 0 0⟩ ⟨n, [], 0⟩ := ⟨heap_alloc_new w _, ⟨by simp, .inl ⟨rfl, rfl⟩⟩⟩
    refine (put_any (h.later hb) hr hfew hf (by simp [FiM.blks, Value.ownBlock]) (fun k hk e => by
      have := h.lt e
      simp [FiM.blks, Value.ownBlock] at hk
      omega)).mono ?_
    rintro e w' ⟨rfl, fv', hp⟩
    refine ⟨rfl, fv', hp.is, (Below.kept hb).trans' hp.kept (fun k hk e => by omega) (fun k hk e => row_foot e), fun k hk => ?_⟩
    rcases foot_ins hp.blk hk with e | e | e
    · simp [FiM.blks, Value.ownBlock] at e; exact .inr (by omega)
    · exact .inl e
    · exact .inr (by have : (w.alloc (.cells (flQ n (.slice none 0 0) 0) 86)).heap.size = w.heap.size + 1 := by simp
                     omega)
  have hl := lt_of_block h.row
  clear h hr
  go_enter Tryz.func55, Tryz.ntmps55
  go_wp2_with fail
  refine Calls.mono (HP.out _ rfl) ?_
  rintro e w1 ⟨rfl, hw1⟩
  have HW : Hid _ := hw1
  clear hw1 HP
  go_wp2_with fail
  go_ret
  exact ⟨rfl, HW.out⟩

/-- Another name for a file; one that had it goes. -/
def movF (fs : List FiD) (a b : ByteArray) (f : FiD) : List FiD := insF ((fs.eraseIdx (dropI fs a)).eraseIdx (dropI (fs.eraseIdx (dropI fs a)) b)) ⟨b, f.bytes, f.dur⟩

theorem nodup_blks {p : Nat} {fv : Value} {ms : List FiM} (h : (foot p fv ms).Nodup) {m : FiM} (hm : m ∈ ms) : m.blks.Nodup := by
  have h1 := (List.nodup_append.1 (List.nodup_cons.1 h).2).2.1
  clear h
  induction ms with
  | nil => cases hm
  | cons a ms ih =>
    rw [List.flatMap_cons] at h1
    have h2 := List.nodup_append.1 h1
    rcases List.mem_cons.1 hm with rfl | hm
    · exact h2.1
    · exact ih hm h2.2.1

theorem erase_apart {p : Nat} {fv : Value} {ms : List FiM} (h : (foot p fv ms).Nodup) (i : Nat) (hi : i < ms.length) : ∀ k ∈ ms[i].blks, k ∉ foot p fv (ms.eraseIdx i) := by
  intro k hk e
  have e1 : ms = (ms.eraseIdx i).take i ++ ms[i] :: (ms.eraseIdx i).drop i := by
    rw [List.eraseIdx_eq_take_drop_succ]
    have hl : (ms.take i).length = i := by simp; omega
    rw [List.take_append_of_le_length (by omega), List.take_of_length_le (by omega), List.drop_append_of_le_length (by omega), List.drop_eq_nil_of_le (by omega), List.nil_append]
    rw [← List.drop_eq_getElem_cons hi, List.take_append_drop]
  rw [e1] at h
  have h2 := (foot_insert ms[i] i).nodup_iff.1 h
  exact (List.nodup_append.1 h2).2.2 k hk k e rfl

set_option maxHeartbeats 1000000 in
theorem move_any {w : World} {p : Nat} {fv : Value} {ms : List FiM} {D : DkD} (h : IsDk w p fv ms D) (hr : Rise D.files) (hfew : D.files.length ≤ 64) (a b : ByteArray) (ha : hasF D.files a = true) (f : FiD) (hf : D.files[pl D.files a]? = some f) :
    Calls Tryz.prog 81 #[.pointer (some ⟨p, 0, none⟩), .string a, .string b] w fun e w' => e = .returned (.tuple #[]) ∧ ∃ fv' ms', DkTo w p fv ms w' { D with files := movF D.files a b f } fv' ms' := by
  have hl := lt_of_block h.row
  obtain ⟨hlt, hnm⟩ := (hasF_iff _ _).1 ha
  have hlt' : pl D.files a < ms.length := by rw [h.len]; exact hlt
  have hm : ms[pl D.files a]? = some ms[pl D.files a] := List.getElem?_eq_getElem hlt'
  have hd : dropI D.files a = pl D.files a := by unfold dropI; rw [ha]; rfl
  have hF := find_any h hr hfew a
  rw [if_pos ha, hm] at hF
  have HF : Hid _ := hF
  have HD : Hid _ := drop_any h hr hfew a
  have HA : Hid (IsDk w p fv ms D ∧ FileAt w ms[pl D.files a] f) := ⟨h, h.file _ _ _ hm hf⟩
  have HR : Hid (Rise D.files ∧ dropI D.files a = pl D.files a ∧ ∀ k ∈ ms[pl D.files a].blks, k ∉ foot p fv (ms.eraseIdx (pl D.files a))) := ⟨hr, hd, erase_apart h.nd _ hlt'⟩
  have HN : Hid (ms[pl D.files a].blks.Nodup ∧ ∀ k ∈ ms[pl D.files a].blks, k ∈ foot p fv ms ∧ ¬ rowS p fv k) := ⟨nodup_blks h.nd (List.getElem_mem _), fun k hk => ⟨by
    rcases List.mem_cons.1 hk with rfl | hk'
    · exact mem_foot_q (List.getElem_mem _)
    · cases hv : ms[pl D.files a].v.ownBlock with
      | none => rw [hv] at hk'; simp at hk'
      | some j => rw [hv] at hk'; simp at hk'; rw [hk']; exact mem_foot_v (List.getElem_mem _) hv, foot_row h.nd (List.getElem_mem _) hk⟩⟩
  have HL : Hid (D.files.length ≤ 64 ∧ pl D.files a < D.files.length) := ⟨hfew, hlt⟩
  generalize ms[pl D.files a] = m at *
  clear h hr hm hd hF hlt' hnm hlt ha hf
  go_enter Tryz.func81, Tryz.ntmps81
  go_wp2_with fail
  refine Calls.mono HF.out ?_
  rintro e w1 ⟨rfl, hw1⟩
  subst w1
  clear HF
  go_wp2_with fail
  refine Calls.mono HD.out ?_
  rintro e w2 ⟨rfl, fv2, hfb2, hi2, hk2⟩
  have H2 : Hid (fv2.ownBlock = fv.ownBlock ∧ IsDk w2 p fv2 (ms.eraseIdx (dropI D.files a)) { D with files := D.files.eraseIdx (dropI D.files a) } ∧ Kept w w2 (rowS p fv)) := ⟨hfb2, hi2, hk2⟩
  have HD2 : Hid _ := drop_any hi2 (rise_erase HR.out.1 _) (by rw [List.length_eraseIdx]; have := HL.out.1; split <;> omega) b
  clear HD hfb2 hi2 hk2
  go_wp2_with fail
  refine Calls.mono HD2.out ?_
  rintro e w3 ⟨rfl, fv3, hfb3, hi3, hk3⟩
  clear HD2
  obtain ⟨fs2, hfs2⟩ : ∃ fs2, fs2 = (D.files.eraseIdx (dropI D.files a)).eraseIdx (dropI (D.files.eraseIdx (dropI D.files a)) b) := ⟨_, rfl⟩
  obtain ⟨ms2, hms2⟩ : ∃ ms2, ms2 = (ms.eraseIdx (dropI D.files a)).eraseIdx (dropI (D.files.eraseIdx (dropI D.files a)) b) := ⟨_, rfl⟩
  have hfv3 : fv3.ownBlock = fv.ownBlock := hfb3.trans H2.out.1
  have hk13 : Kept w w3 (rowS p fv) := H2.out.2.2.trans' hk3 (fun k _ e => e) (fun k _ e => by
    rcases e with e | e
    · exact .inl e
    · exact .inr (by rw [← H2.out.1]; exact e))
  have hi3' : IsDk w3 p fv3 ms2 { D with files := fs2 } := by rw [hfs2, hms2]; exact hi3
  have hfm3 : FileAt w3 m f := HA.out.2.keptRow hk13 (fun k hk => (HN.out.2 k hk).2)
  have hmf3 : ∀ k ∈ m.blks, k ∉ foot p fv3 ms2 := fun k hk e => HR.out.2.2 k hk (by
    rw [foot_same hfv3, hms2, HR.out.2.1] at e
    exact (foot_erase _).subset e)
  have hfs3 : ∀ k ∈ foot p fv3 ms2, k ∈ foot p fv ms := fun k hk => by
    rw [foot_same hfv3, hms2] at hk
    exact (foot_erase _).subset ((foot_erase _).subset hk)
  have hfl2 : fs2.length ≤ 63 := by
    rw [hfs2, List.length_eraseIdx, List.length_eraseIdx, HR.out.2.1, if_pos HL.out.2]
    have := HL.out
    split <;> omega
  have hrs2 : Rise fs2 := by rw [hfs2]; exact rise_erase (rise_erase HR.out.1 _) _
  have hmov : movF D.files a b f = insF fs2 ⟨b, f.bytes, f.dur⟩ := by unfold movF; rw [hfs2]
  obtain ⟨q0, q1, q2⟩ := fl_cells' hfm3
  have fq : w3.frozen? ⟨m.q, 0, none⟩ = false := frozen_of_row w3 m.q 0 _ _ hfm3.row
  have hlm := lt_of_block hfm3.row
  have hl3 : p < w3.heap.size := lt_of_block hi3.row
  obtain ⟨w4, hw4⟩ : ∃ w4, w4 = w3.setCell ⟨m.q, 0, none⟩ (.string b) := ⟨_, rfl⟩
  have hk4 : Kept w3 w4 (fun k => k = m.q) := by rw [hw4]; exact Kept.setCell (Kept.refl _ (fun k => k = m.q)) ⟨m.q, 0, none⟩ _ (fun _ => rfl)
  have hvq : ∀ k, m.v.ownBlock = some k → k ≠ m.q := fun k e e' => by
    have := (List.nodup_cons.1 HN.out.1).1
    rw [e, e'] at this
    simp at this
  have hfm4 : FileAt w4 m ⟨b, f.bytes, f.dur⟩ := ⟨by rw [hw4]; exact heap_setK _ hfm3.row, hfm3.own.kept hk4 hvq⟩
  have hi4 : IsDk w4 p fv3 ms2 { D with files := fs2 } := hi3'.kept hk4 (fun k hk e => hmf3 k (by rw [e]; exact blks_q m) hk)
  have HP : Hid (Calls Tryz.prog 78 #[.pointer (some ⟨p, 0, none⟩), .pointer (some ⟨m.q, 0, none⟩)] w4 fun e w' => e = .returned (.tuple #[]) ∧ ∃ fv' ms', DkTo w p fv ms w' { D with files := movF D.files a b f } fv' ms') := by
    refine (put_any hi4 hrs2 hfl2 hfm4 HN.out.1 hmf3).mono ?_
    rintro e w' ⟨rfl, fv', hp⟩
    refine ⟨rfl, fv', _, by rw [hmov]; exact hp.is, ?_, fun k hk => ?_⟩
    · refine hk13.trans' (hk4.trans' (U := fun k => k = m.q ∨ rowS p fv k) hp.kept (fun k _ e => .inl e) (fun k _ e => .inr ?_)) (fun k hk e => row_foot e) (fun k hk e => ?_)
      · rcases e with e | e
        · exact .inl e
        · exact .inr (by rw [← hfv3]; exact e)
      · rcases e with e | e
        · rw [e]; exact (HN.out.2 _ (blks_q m)).1
        · exact row_foot e
    · rcases foot_ins hp.blk hk with e | e | e
      · exact .inl (HN.out.2 k e).1
      · exact .inl (hfs3 k e)
      · exact .inr (Nat.le_trans (Nat.le_trans hk13.size hk4.size) e)
  have HE : Hid _ := hw4
  clear hw4 hi4 hfm4 hvq hk4 hmov hrs2 hfl2 hfs3 hmf3 hfm3 hi3' hi3 hk3 hk13 hfv3 hfb3 hms2 hfs2 q1 q2 H2 HA HR HN HL
  go_wp2_with fail
  rw [← HE.out]
  refine Calls.mono HP.out ?_
  rintro e w5 ⟨rfl, hw5⟩
  have HW : Hid _ := hw5
  clear hw5 HP
  go_wp2_with fail
  go_end0
  exact ⟨rfl, HW.out⟩
end Go.Proofs.YtdhnbgeijfgfaaaGreatDoor

/- A disk's calls that find a file: open, Sync, Cut, Remove, Rename, Read. -/
namespace Go.Proofs.YtdhnbgeijfgfaaaGreatDoor
open Go.RowKit Go.Shelf
set_option maxRecDepth 8000

/-- What always holds of a disk's data. -/
structure DkOk (D : DkD) : Prop where
  rise : Rise D.files
  few : D.files.length ≤ 64
  nms : ∀ f ∈ D.files, isNm f.name = true
  durs : ∀ f ∈ D.files, 0 ≤ f.dur ∧ f.dur ≤ f.bytes.length
  r0 : 0 ≤ D.room
  r1 : D.room ≤ 16777216
  fits : (usedD D.files : Int) ≤ D.room
  a0 : -1 ≤ D.armed
  a1 : D.armed ≤ 9223372036854775807
  w0 : 0 ≤ D.writes

theorem len_used {fs : List FiD} {f : FiD} (h : f ∈ fs) : f.bytes.length ≤ usedD fs := by
  induction fs with
  | nil => cases h
  | cons a fs ih =>
    unfold usedD at *
    simp only [List.map_cons, List.sum_cons]
    rcases List.mem_cons.1 h with rfl | h
    · omega
    · have := ih h; omega

theorem set_eq {α : Type} (l : List α) (i : Nat) (x : α) (hi : i < l.length) : l.set i x = (l.eraseIdx i).take i ++ x :: (l.eraseIdx i).drop i := by
  have hl : (l.take i).length = i := by simp; omega
  rw [List.eraseIdx_eq_take_drop_succ, List.take_append_of_le_length (by omega), List.take_of_length_le (by omega), List.drop_append_of_le_length (by omega), List.drop_eq_nil_of_le (by omega), List.nil_append, List.set_eq_take_append_cons_drop, if_pos hi]

/-- A step at one of the files. -/
theorem IsDk.setFile {w w' : World} {p : Nat} {fv : Value} {ms : List FiM} {D : DkD} (h : IsDk w p fv ms D) {i : Nat} {m m' : FiM} {f' : FiD} (hm : ms[i]? = some m) (ht : FlTo w m w' m' f') : DkTo w p fv ms w' { D with files := D.files.set i f' } fv (ms.set i m') := by
  have hi : i < ms.length := (List.getElem?_eq_some_iff.1 hm).1
  have hmm : ms[i] = m := (List.getElem?_eq_some_iff.1 hm).2
  have hmem : m ∈ ms := List.mem_of_getElem? hm
  have hfm : ∀ k ∈ m.blks, k ∈ foot p fv ms := fun k hk => by
    rcases List.mem_cons.1 hk with rfl | hk'
    · exact mem_foot_q hmem
    · cases hv : m.v.ownBlock with
      | none => rw [hv] at hk'; simp at hk'
      | some j => rw [hv] at hk'; simp at hk'; rw [hk']; exact mem_foot_v hmem hv
  have hap := erase_apart h.nd i hi
  rw [hmm] at hap
  have hlt : m.q < w.heap.size := h.lt (mem_foot_q hmem)
  have hbl : ∀ k ∈ m'.blks, k ∈ m.blks ∨ w.heap.size ≤ k := fun k hk => by
    rcases List.mem_cons.1 hk with rfl | hk'
    · rw [ht.q]; exact .inl (blks_q m)
    · cases hv : m'.v.ownBlock with
      | none => rw [hv] at hk'; simp at hk'
      | some j =>
        rw [hv] at hk'; simp at hk'; rw [hk']
        rcases ht.v j hv with e | e
        · exact .inl (blks_v e)
        · exact .inr e
  have hndm := nodup_blks h.nd hmem
  have hnd' : m'.blks.Nodup := by
    refine List.nodup_cons.2 ⟨fun e => ?_, by cases m'.v.ownBlock <;> simp⟩
    cases hv : m'.v.ownBlock with
    | none => rw [hv] at e; simp at e
    | some j =>
      rw [hv] at e; simp at e
      rw [ht.q] at e
      rcases ht.v j hv with e' | e'
      · have := (List.nodup_cons.1 hndm).1
        rw [e', e] at this
        simp at this
      · omega
  refine ⟨⟨ht.kept.heap h.row (fun e => ?_), by simp [h.len], ?_, fun k mk fk hmk hfk => ?_, ?_⟩, ht.kept.mono (fun k _ e => hfm k e), fun k hk => ?_⟩
  · exact (List.nodup_cons.1 h.nd).1 (List.mem_append_right _ (List.mem_flatMap.2 ⟨m, hmem, e⟩))
  · rw [List.length_set]
    have e : ptrs (ms.set i m') = ptrs ms := by
      apply List.ext_getElem?
      intro j
      simp only [ptrs, List.getElem?_map, List.getElem?_set]
      by_cases hj : i = j
      · subst hj
        rw [if_pos rfl, if_pos hi, hm]
        simp [ht.q]
      · rw [if_neg hj]
    rw [e]
    exact row_kept' h.own ht.kept (fun k e e' => (foot_row h.nd hmem e') (.inr e))
  · simp only at hfk
    rw [List.getElem?_set] at hmk hfk
    by_cases hj : i = k
    · subst hj
      rw [if_pos rfl, if_pos hi] at hmk
      rw [if_pos rfl, if_pos (by rw [← h.len]; exact hi)] at hfk
      cases hmk
      cases hfk
      exact ht.is
    · rw [if_neg hj] at hmk hfk
      have hne : ∀ x ∈ mk.blks, x ∉ m.blks := fun x hx e => by
        have hmk' : mk ∈ ms.eraseIdx i := by
          rw [List.mem_iff_getElem?]
          by_cases hki : k < i
          · exact ⟨k, by rw [getElem?_erase, if_pos hki]; exact hmk⟩
          · exact ⟨k - 1, by rw [getElem?_erase, if_neg (by omega), show k - 1 + 1 = k by omega]; exact hmk⟩
        refine hap x e ?_
        rcases List.mem_cons.1 hx with rfl | hx'
        · exact mem_foot_q hmk'
        · cases hv : mk.v.ownBlock with
          | none => rw [hv] at hx'; simp at hx'
          | some j => rw [hv] at hx'; simp at hx'; rw [hx']; exact mem_foot_v hmk' hv
      exact (h.file k mk fk hmk hfk).kept ht.kept (hne _ (blks_q mk)) (fun x e => hne x (blks_v e))
  · rw [set_eq ms i m' hi]
    refine (foot_insert m' i).nodup_iff.2 (List.nodup_append.2 ⟨hnd', (h.nd).sublist (foot_erase i), fun a ha b hb e => ?_⟩)
    subst e
    rcases hbl a ha with e | e
    · exact hap a e hb
    · have := h.lt ((foot_erase i).subset hb); omega
  · rw [set_eq ms i m' hi] at hk
    rcases foot_ins (n := w.heap.size) (fun k e => .inl e) hk with e | e | e
    · rcases hbl k e with e | e
      · exact .inl (hfm k e)
      · exact .inr e
    · exact .inl ((foot_erase i).subset e)
    · exact .inr e

/-- What open says. -/
def DkD.errO (D : DkD) (n : ByteArray) : Int := if D.on then (if isNm n then (if hasF D.files n then 0 else 20) else 22) else 23

theorem errO_zero {D : DkD} {n : ByteArray} (h : D.errO n = 0) : D.on = true ∧ isNm n = true ∧ hasF D.files n = true := by
  unfold DkD.errO at h
  cases h1 : D.on <;> rw [h1] at h
  · simp at h
  · cases h2 : isNm n <;> rw [h2] at h
    · simp at h
    · cases h3 : hasF D.files n <;> rw [h3] at h
      · simp at h
      · exact ⟨rfl, rfl, rfl⟩

set_option maxHeartbeats 1000000 in
theorem open_any {w : World} {p : Nat} {fv : Value} {ms : List FiM} {D : DkD} (h : IsDk w p fv ms D) (ok : DkOk D) (n : ByteArray) :
    Calls Tryz.prog 59 #[.pointer (some ⟨p, 0, none⟩), .string n] w fun e w' => (∃ q, e = .returned (.tuple #[.pointer q, .int .i64 (D.errO n)]) ∧ (D.errO n = 0 → ∃ m, ms[pl D.files n]? = some m ∧ q = some ⟨m.q, 0, none⟩)) ∧ Below w.heap.size w w' := by
  obtain ⟨V, eV⟩ : ∃ V, V = w.alloc (.cells #[.string n] 9) := ⟨_, rfl⟩
  have hbV : Below w.heap.size w V := by rw [eV]; exact one_allocK _ _
  have hV : IsDk V p fv ms D := h.later hbV
  have hR := ready_any hV w.heap.size [n] (fun k x hk => by
    cases k with
    | zero => simp at hk; subst hk; rw [eV]; exact cell_of_row _ _ 0 _ _ _ (heap_alloc_new w _)
    | succ k => simp at hk) (by simp)
  have hF := find_any hV ok.rise ok.few n
  have hl := lt_of_block h.row
  have hlV := lt_of_block hV.row
  have HB : Hid (Below w.heap.size w V) := hbV
  have HE : Hid _ := eV
  simp only [List.all_cons, List.all_nil, Bool.and_true, List.length_singleton] at hR
  have HM : Hid (hasF D.files n = true → ∃ m, ms[pl D.files n]? = some m) := fun e => by
    obtain ⟨hlt, _⟩ := (hasF_iff _ _).1 e
    exact ⟨_, List.getElem?_eq_getElem (by rw [h.len]; exact hlt)⟩
  obtain ⟨E, hE⟩ : ∃ E, E = D.errO n := ⟨_, rfl⟩
  rw [← hE]
  have HX : Hid (D.on = false → E = 23) := fun e => by rw [hE]; unfold DkD.errO; rw [e]; rfl
  have HY : Hid (D.on = true → isNm n = false → E = 22) := fun e e2 => by rw [hE]; unfold DkD.errO; rw [e, e2]; rfl
  have HZ : Hid (D.on = true → isNm n = true → hasF D.files n = false → E = 20) := fun e e2 e3 => by rw [hE]; unfold DkD.errO; rw [e, e2, e3]; rfl
  have HT : Hid (D.on = true → isNm n = true → hasF D.files n = true → E = 0) := fun e e2 e3 => by rw [hE]; unfold DkD.errO; rw [e, e2, e3]; rfl
  clear h hV ok eV hbV hE
  by_cases hq : D.on = true ∧ isNm n = true
  · obtain ⟨hon, hnm⟩ := hq
    rw [hon, hnm] at hR
    have HR : Hid _ := hR
    clear hR
    cases hb : hasF D.files n
    · rw [hb] at hF
      have HF : Hid _ := hF
      have H20 : Hid _ := HZ.out hon hnm hb
      clear hF HX HY HZ HT hon hnm hb HM
      go_enter Tryz.func59, Tryz.ntmps59
      go_wp2_with fail
      rw [← HE.out]
      refine Calls.mono HR.out ?_
      rintro e w1 ⟨rfl, hw1⟩
      subst w1
      go_wp2_with fail
      refine Calls.mono HF.out ?_
      rintro e w1 ⟨rfl, hw1⟩
      subst w1
      go_wp2_with fail
      go_ret2
      refine ⟨⟨none, by rw [H20.out]; rfl, fun e => ?_⟩, HB.out⟩
      rw [H20.out] at e
      cases e
    · obtain ⟨m, hm⟩ := HM.out hb
      rw [if_pos hb, hm] at hF
      have HF : Hid _ := hF
      have HQ : Hid _ := hm
      have H0 : Hid _ := HT.out hon hnm hb
      clear hF hm HM HX HY HZ HT hon hnm hb
      go_enter Tryz.func59, Tryz.ntmps59
      go_wp2_with fail
      rw [← HE.out]
      refine Calls.mono HR.out ?_
      rintro e w1 ⟨rfl, hw1⟩
      subst w1
      go_wp2_with fail
      refine Calls.mono HF.out ?_
      rintro e w1 ⟨rfl, hw1⟩
      subst w1
      go_wp2_with fail
      go_ret2
      exact ⟨⟨_, by rw [H0.out]; rfl, fun _ => ⟨m, HQ.out, rfl⟩⟩, HB.out⟩
  · have hEn : (if D.on = true then (if isNm n = true then (0 : Int) else 22) else 23) = E ∧ E ≠ 0 := by
      cases hon : D.on
      · rw [HX.out hon]; simp
      · cases hnm : isNm n
        · rw [HY.out hon hnm]; simp
        · exact absurd ⟨hon, hnm⟩ hq
    rw [hEn.1] at hR
    have HR : Hid _ := hR
    have hb : (E != 0) = true := by simpa using hEn.2
    have HN : Hid _ := hEn.2
    clear hR hF hEn hq HX HY HZ HT HM
    go_enter Tryz.func59, Tryz.ntmps59
    go_wp2_with fail
    rw [← HE.out]
    refine Calls.mono HR.out ?_
    rintro e w1 ⟨rfl, hw1⟩
    subst w1
    go_wp2_with fail
    go_ret2
    exact ⟨⟨none, rfl, fun e => absurd e HN.out⟩, HB.out⟩
end Go.Proofs.YtdhnbgeijfgfaaaGreatDoor
