/- The document's disk: another list of files is set; Image, Read, Remove, Rename. -/
import Derived.Test.YtbdokdhconhifaaGreatDoorRdOJ
import Derived.Test.YtbdokdhconhifaaGreatDoorRdKJ
namespace Go.Proofs.YtbdokdhconhifaaGreatDoor
open Go.RowKit Go.Shelf
set_option maxRecDepth 8000

theorem flat_perm {l1 l2 : List Value} (h : l1.Perm l2) : (l1.flatMap fun v => v.ownBlock.toList).Perm (l2.flatMap fun v => v.ownBlock.toList) := by
  induction h with
  | nil => exact List.Perm.refl _
  | cons a _ ih => simp only [List.flatMap_cons]; exact List.Perm.append_left _ ih
  | swap a b l => simp only [List.flatMap_cons, ← List.append_assoc]; exact List.Perm.append_right _ List.perm_append_comm
  | trans _ _ h1 h2 => exact h1.trans h2

theorem flat_sub {l1 l2 : List Value} (h : l1.Sublist l2) : (l1.flatMap fun v => v.ownBlock.toList).Sublist (l2.flatMap fun v => v.ownBlock.toList) := by
  induction h with
  | slnil => exact List.Sublist.refl _
  | cons a _ ih => simp only [List.flatMap_cons]; exact ih.trans (List.sublist_append_right _ _)
  | cons_cons a _ ih => simp only [List.flatMap_cons]; exact List.Sublist.append (List.Sublist.refl _) ih

theorem nd_perm {p : Nat} {fv : Value} {l1 l2 : List Value} (h : l1.Perm l2) (hn : (rfoot p fv l1).Nodup) : (rfoot p fv l2).Nodup :=
  (List.Perm.cons p (List.Perm.append_left _ (flat_perm h))).nodup_iff.1 hn

theorem nd_sub {p : Nat} {fv : Value} {l1 l2 : List Value} (h : l1.Sublist l2) (hn : (rfoot p fv l2).Nodup) : (rfoot p fv l1).Nodup :=
  hn.sublist (List.Sublist.cons_cons p (List.Sublist.append (List.Sublist.refl _) (flat_sub h)))

theorem nd_new {p : Nat} {fv v' : Value} {vs : List Value} (h : (rfoot p fv vs).Nodup) (hv : ∀ k, v'.ownBlock = some k → k ∉ rfoot p fv vs) : (rfoot p v' vs).Nodup := by
  unfold rfoot at h hv ⊢
  have h1 : (p :: vs.flatMap fun v => v.ownBlock.toList).Nodup := h.sublist (List.Sublist.cons_cons p (List.sublist_append_right _ _))
  cases e : v'.ownBlock with
  | none => simpa using h1
  | some k =>
    have hk := hv k e
    have hk2 : k ∉ p :: vs.flatMap fun v => v.ownBlock.toList := fun h2 => hk (by
      rcases List.mem_cons.1 h2 with h3 | h3
      · rw [h3]; exact List.mem_cons_self ..
      · exact List.mem_cons_of_mem _ (List.mem_append.2 (.inr h3)))
    have hp : (p :: ((some k).toList ++ vs.flatMap fun v => v.ownBlock.toList)).Perm (k :: p :: vs.flatMap fun v => v.ownBlock.toList) := List.Perm.swap k p _
    exact hp.nodup_iff.2 (List.nodup_cons.2 ⟨hk2, h1⟩)

theorem nd_nil {p : Nat} {fv : Value} {vs : List Value} (h : (rfoot p fv vs).Nodup) (y : Nat) (n : Nat) : (rfoot p fv (.slice none n y :: vs)).Nodup := by
  unfold rfoot at h ⊢
  simpa [Value.ownBlock] using h

/-- Another list of files is set. -/
theorem IsRd.setF {w w1 : World} {p : Nat} {fv v' : Value} {vs vs' : List Value} {R : RD} (h : IsRd w p fv vs R) (hb : Below w.heap.size w w1) {fs' : List FiD} (hi : ImgAt w1 0 v' fs' vs') (hnd : (rfoot p v' vs').Nodup) (hv : ∀ k, v'.ownBlock = some k → w.heap.size ≤ k) (hf : ∀ u ∈ vs', ∀ k, u.ownBlock = some k → k ∈ rfoot p fv vs ∨ w.heap.size ≤ k) :
    RdTo w p fv vs (w1.setCell ⟨p, 1, none⟩ v') { R with files := fs' } v' vs' := by
  have hk : Kept w1 (w1.setCell ⟨p, 1, none⟩ v') (fun k => k = p) := Kept.setCell (Kept.refl _ (fun k => k = p)) ⟨p, 1, none⟩ _ (fun _ => rfl)
  have hp := lt_of_block h.row
  have hrow1 : w1.heap[p]? = some (.cells (rdQ fv R) 83 (0, 0)) := (Below.kept hb).heap h.row (fun e => by omega)
  have hnp := (List.nodup_cons.1 hnd).1
  refine ⟨⟨heap_setK _ hrow1, ?_, hnd⟩, (Below.kept hb).trans' hk (fun k hk e => by omega) (fun k _ e => by rw [e]; exact mem_rfoot_p), fun k hk => ?_⟩
  · exact hi.keptF hk (fun k e e' => hnp (by rw [← e']; exact List.mem_append.2 (.inl (by rw [e]; simp)))) (fun u hu k e e' => hnp (by rw [← e']; exact List.mem_append.2 (.inr (List.mem_flatMap.2 ⟨u, hu, by rw [e]; simp⟩))))
  · rcases mem_rfoot hk with e | e | ⟨u, hu, e⟩
    · exact .inl (by rw [e]; exact mem_rfoot_p)
    · exact .inr (hv k e)
    · exact hf u hu k e

theorem zip_fst (fs : List FiD) (vs : List Value) (h : vs.length = fs.length) : (fs.zip vs).map Prod.fst = fs := by
  rw [List.map_fst_zip]; omega
theorem zip_snd (fs : List FiD) (vs : List Value) (h : vs.length = fs.length) : (fs.zip vs).map Prod.snd = vs := by
  rw [List.map_snd_zip]; omega

theorem ImgAt.zown {w : World} {B : Nat} {v : Value} {fs : List FiD} {vs : List Value} (h : ImgAt w B v fs vs) : ∀ a ∈ fs.zip vs, Owns w 0 a.2 a.1.bytes := fun a ha => by
  obtain ⟨i, hi⟩ := List.mem_iff_getElem?.1 ha
  obtain ⟨h1, h2⟩ := List.getElem?_zip_eq_some.1 hi
  exact owns_mono (h.bys i a.2 a.1 h2 h1) (Nat.zero_le _)

/-- Some of a disk's files, in a new list. -/
theorem IsRd.sub {w w1 : World} {p : Nat} {fv v' : Value} {vs : List Value} {R : RD} (h : IsRd w p fv vs R) (Q : FiD × Value → Bool) (ho : OutZ w w1 v' ((R.files.zip vs).filter Q)) :
    RdTo w p fv vs (w1.setCell ⟨p, 1, none⟩ v') { R with files := ((R.files.zip vs).filter Q).map Prod.fst } v' (((R.files.zip vs).filter Q).map Prod.snd) := by
  have hs : (((R.files.zip vs).filter Q).map Prod.snd).Sublist vs := by
    have := (List.filter_sublist (l := R.files.zip vs) (p := Q)).map Prod.snd
    rwa [zip_snd _ _ h.img.len] at this
  refine h.setF ho.bel (ho.img (fun a ha => h.img.zown a ((List.mem_filter.1 ha).1))) (nd_new (nd_sub hs h.nd) (fun k e hm => ?_)) (fun k e => ho.new e) (fun u hu k e => .inl (mem_rfoot_v (hs.subset hu) e))
  have h1 := ho.new e
  rcases mem_rfoot hm with e1 | e1 | ⟨u, hu, e1⟩
  · have := lt_of_block h.row; omega
  · have := h.lt (mem_rfoot_fv (p := p) (vs := vs) e1); omega
  · have := h.lt (mem_rfoot_v (p := p) (fv := fv) (hs.subset hu) e1); omega

theorem filter_fst (z : List (FiD × Value)) (n : ByteArray) : (z.filter fun a => decide (a.1.name ≠ n)).map Prod.fst = (z.map Prod.fst).filter fun f => decide (f.name ≠ n) := by
  rw [List.filter_map]; rfl

set_option maxHeartbeats 400000 in
theorem refImage_any {w : World} {p : Nat} {fv : Value} {vs : List Value} {R : RD} (h : IsRd w p fv vs R) (ok : RdOk R) :
    Calls Tryz.prog 20 #[.pointer (some ⟨p, 0, none⟩)] w fun e w' => ∃ v' us, e = .returned v' ∧ ImgAt w' w.heap.size v' R.files us ∧ Below w.heap.size w w' := by
  have HC : Hid _ := copyFiles_any h.img ok.few ok.used
  obtain ⟨fa, fc, hfv, hfc, hfm⟩ := img_shape h.img
  have c1 := h.cells.2.1
  have hl := lt_of_block h.row
  rw [hfv] at c1 HC
  clear h ok hfv
  go_enter Tryz.func20, Tryz.ntmps20
  go_wp2_with fail
  refine Calls.mono HC.out ?_
  rintro e w1 ⟨v', us, rfl, h1, h2, _⟩
  have HR : Hid _ := And.intro h1 h2
  clear h1 h2
  go_wp2_with fail
  go_ret
  exact ⟨v', us, rfl, HR.out⟩

set_option maxHeartbeats 400000 in
theorem refRead_any {w : World} {p : Nat} {fv : Value} {vs : List Value} {R : RD} (h : IsRd w p fv vs R) (ok : RdOk R) (n : ByteArray) (hn : n.size ≤ 140737488355328) :
    Calls Tryz.prog 16 #[.pointer (some ⟨p, 0, none⟩), .string n] w fun e w' => (∃ v, e = .returned (.tuple #[v, .int .i64 (R.errO n)]) ∧ (R.errO n ≠ 0 → v = .slice none 0 0) ∧ (R.errO n = 0 → ∃ f, R.files[pl R.files n]? = some f ∧ Owns w' w.heap.size v f.bytes)) ∧ Below w.heap.size w w' := by
  have hF := refFound_any h ok.rise ok.few n hn
  have hl := lt_of_block h.row
  by_cases he : R.errO n = 0
  · have hh := RD.errO_zero he
    rw [he, if_pos rfl] at hF
    have h1 := ((hasF_iff _ _).1 hh).1
    have HF : Hid _ := hF
    obtain ⟨P, hP⟩ : ∃ P, P = pl R.files n := ⟨_, rfl⟩
    have hP0 : P < R.files.length := by rw [hP]; exact h1
    rw [← hP] at HF
    have hP64 : P < 64 := Nat.lt_of_lt_of_le hP0 ok.few
    obtain ⟨g, c, u, e0, hc1, hc2, hu, a0, a1, a2, ho⟩ := h.file P hP0
    obtain ⟨x, y, hu2, hx1, hx2⟩ := own_shape ho
    unfold maxLen at hc2 hx2
    have c1 := h.cells.2.1
    have hlen64 := ok.few
    subst e0
    subst hu2
    have hlg : g < w.heap.size := h.lt (mem_rfoot_fv rfl)
    have HC : Hid (Calls Tryz.prog 28 #[.slice x R.files[P].bytes.length y] w fun e w' => ∃ v', e = .returned v' ∧ Owns w' w.heap.size v' R.files[P].bytes ∧ Below w.heap.size w w') := copyBytes_any _ _ w (Sees.own ho) (by have := len_used (List.getElem_mem hP0); have := ok.used; omega)
    have HQ : Hid (R.files[pl R.files n]? = some (R.files[P]'hP0)) := by show _ = _; rw [← hP]; exact List.getElem?_eq_getElem hP0
    rw [he]
    generalize R.files[P] = f at *
    generalize f.bytes.length = L at *
    generalize R.files.length = FL at *
    clear hF hh h1 hP he h ok ho hu a0 a2
    go_enter Tryz.func16, Tryz.ntmps16
    go_wp2_with fail
    refine Calls.mono HF.out ?_
    rintro e w1 ⟨rfl, hw1⟩
    subst w1
    go_wp2_with fail
    refine Calls.mono HC.out ?_
    rintro e w1 ⟨v', rfl, h1, h2⟩
    have HR : Hid _ := And.intro h1 h2
    clear h1 h2
    go_wp2_with fail
    go_ret2
    exact ⟨⟨v', rfl, fun e => absurd rfl e, fun _ => ⟨_, HQ.out, HR.out.1⟩⟩, HR.out.2⟩
  · rw [if_neg he] at hF
    have HF : Hid _ := hF
    have HE : Hid _ := he
    generalize R.errO n = E at *
    have hb : (E != 0) = true := by simpa using he
    clear hF he h ok
    go_enter Tryz.func16, Tryz.ntmps16
    go_wp2_with fail
    refine Calls.mono HF.out ?_
    rintro e w1 ⟨rfl, hw1⟩
    subst w1
    go_wp2_with fail
    go_ret2
    exact ⟨⟨_, rfl, fun _ => rfl, fun e => absurd e HE.out⟩, Below.refl _ _⟩
end Go.Proofs.YtbdokdhconhifaaGreatDoor

/- The document's disk: Remove, Rename. -/
namespace Go.Proofs.YtbdokdhconhifaaGreatDoor
open Go.RowKit Go.Shelf
set_option maxRecDepth 8000

end Go.Proofs.YtbdokdhconhifaaGreatDoor