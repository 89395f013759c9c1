/- The document's sessions as data, and how they fit a clock's: pure. -/
import Derived.Test.YtmniefmjdfdedaaGreatDoorSeI
import Derived.Test.YtmniefmjdfdedaaGreatDoorSeO
namespace Go.Proofs.YtmniefmjdfdedaaGreatDoor
open Go.RowKit Go.Shelf
set_option maxRecDepth 8000
set_option linter.unusedSimpArgs false

/-- A session of the document's: id, time-out, when its time began. -/
abbrev DcT := Int × Int × Int
def lfD (span : Int) (x : DcT) : LfT := (x.1, x.2.1, upT (x.2.2 + x.2.1) span)
def idD (dl : List DcT) : List Int := dl.map (·.1)
def insD : List DcT → DcT → List DcT
  | [], x => [x]
  | y :: r, x => if x.1 < y.1 then x :: y :: r else y :: insD r x
def remD (dl : List DcT) (id : Int) : List DcT := dl.filter (fun x => !(x.1 == id))
structure Mate (span : Int) (l : List LfT) (dl : List DcT) : Prop where
  pm : l.Perm (dl.map (lfD span))
  up : dl.Pairwise (fun a b => a.1 < b.1)

theorem idD_lf (span : Int) (dl : List DcT) : ids (dl.map (lfD span)) = idD dl := by simp [ids, idD, lfD, Function.comp_def]
theorem up_nd {dl : List DcT} (h : dl.Pairwise (fun a b => a.1 < b.1)) : (idD dl).Nodup := by
  unfold idD
  rw [List.nodup_iff_pairwise_ne, List.pairwise_map]
  exact h.imp (fun q e => by omega)
theorem Mate.nd {span : Int} {l : List LfT} {dl : List DcT} (h : Mate span l dl) : (ids l).Nodup := by
  have := (h.pm.map (fun x : LfT => x.1)).nodup_iff.2 (by have := idD_lf span dl; unfold ids at this; rw [this]; exact up_nd h.up)
  exact this
theorem Mate.ids {span : Int} {l : List LfT} {dl : List DcT} (h : Mate span l dl) (i : Int) : i ∈ ids l ↔ i ∈ idD dl := by
  rw [← idD_lf span dl]
  exact (h.pm.map (fun x : LfT => x.1)).mem_iff
theorem Mate.len {span : Int} {l : List LfT} {dl : List DcT} (h : Mate span l dl) : l.length = dl.length := by rw [h.pm.length_eq, List.length_map]
theorem insD_perm (x : DcT) : ∀ dl : List DcT, (insD dl x).Perm (x :: dl)
  | [] => List.Perm.refl _
  | y :: r => by
    unfold insD
    split
    · exact List.Perm.refl _
    · exact ((insD_perm x r).cons y).trans (List.Perm.swap x y r)
theorem insD_up {x : DcT} : ∀ {dl : List DcT}, dl.Pairwise (fun a b => a.1 < b.1) → x.1 ∉ idD dl → (insD dl x).Pairwise (fun a b => a.1 < b.1)
  | [], _, _ => List.pairwise_singleton _ _
  | y :: r, h, hn => by
    obtain ⟨h1, h2⟩ := List.pairwise_cons.1 h
    simp only [idD, List.map_cons, List.mem_cons, not_or] at hn
    unfold insD
    split
    · rename_i hlt
      refine List.pairwise_cons.2 ⟨fun z hz => ?_, h⟩
      rcases List.mem_cons.1 hz with rfl | hz
      · exact hlt
      · have := h1 z hz; omega
    · refine List.pairwise_cons.2 ⟨fun z hz => ?_, insD_up h2 hn.2⟩
      rcases List.mem_cons.1 ((insD_perm x r).mem_iff.1 hz) with rfl | hz
      · have := hn.1; omega
      · exact h1 z hz
theorem remD_not (dl : List DcT) (id : Int) : id ∉ idD (remD dl id) := by
  intro h
  obtain ⟨x, hx, e⟩ := List.mem_map.1 h
  have := (List.mem_filter.1 hx).2
  simp [e] at this
theorem remD_up {dl : List DcT} (h : dl.Pairwise (fun a b => a.1 < b.1)) (id : Int) : (remD dl id).Pairwise (fun a b => a.1 < b.1) := h.sublist List.filter_sublist
theorem remD_lf (span : Int) (dl : List DcT) (id : Int) : remL (dl.map (lfD span)) id = (remD dl id).map (lfD span) := by
  unfold remL remD
  rw [List.filter_map]
  rfl
theorem mate_rem {span : Int} {l : List LfT} {dl : List DcT} (h : Mate span l dl) (id : Int) : Mate span (remL l id) (remD dl id) :=
  ⟨by rw [← remD_lf]; exact h.pm.filter _, remD_up h.up id⟩
theorem putL_perm {l : List LfT} {x : LfT} (hn : (ids l).Nodup) : (putL l x).Perm (x :: remL l x.1) := by
  by_cases hx : x.1 ∈ ids l
  · obtain ⟨a, y, b, rfl, e, hna, _⟩ := getL_some hx
    rw [putL_some e (by rw [e]; exact hna), ← e, remL_mid hn]
    exact List.perm_middle
  · rw [putL_none hx, remL_none hx]
    exact List.perm_append_singleton _ _
theorem mate_put {span : Int} {l : List LfT} {dl : List DcT} (h : Mate span l dl) (x : DcT) : Mate span (putL l (lfD span x)) (insD (remD dl x.1) x) := by
  refine ⟨(putL_perm h.nd).trans ?_, insD_up (remD_up h.up _) (remD_not _ _)⟩
  have := ((insD_perm x (remD dl x.1)).map (lfD span)).symm
  refine List.Perm.trans ?_ this
  exact (mate_rem h x.1).pm.cons _
theorem remD_mid {a b : List DcT} {y : DcT} (h : (a ++ y :: b).Pairwise (fun a b => a.1 < b.1)) : remD (a ++ y :: b) y.1 = a ++ b := by
  unfold remD
  obtain ⟨h1, h2, h3⟩ := List.pairwise_append.1 h
  obtain ⟨h4, _⟩ := List.pairwise_cons.1 h2
  rw [List.filter_append, List.filter_cons_of_neg (by simp), List.filter_eq_self.2 (fun z hz => ?_), List.filter_eq_self.2 (fun z hz => ?_)]
  · have := h4 z hz; simp; omega
  · have := h3 z hz y (by simp); simp; omega
theorem remD_none {dl : List DcT} {id : Int} (h : id ∉ idD dl) : remD dl id = dl :=
  List.filter_eq_self.2 (fun z hz => by simp; exact fun e => h (List.mem_map.2 ⟨z, hz, e⟩))
/-- The time of a session begins anew. -/
theorem mate_touch {span now : Int} {l : List LfT} {a b : List DcT} {y : DcT} (h : Mate span l (a ++ y :: b)) : Mate span (putL l (lfD span (y.1, y.2.1, now))) (a ++ (y.1, y.2.1, now) :: b) := by
  refine ⟨(putL_perm h.nd).trans ?_, ?_⟩
  · have := (mate_rem h y.1).pm
    rw [remD_mid h.up] at this
    rw [List.map_append, List.map_cons]
    refine (this.cons _).trans ?_
    rw [List.map_append]
    exact List.perm_middle.symm
  · obtain ⟨h1, h2, h3⟩ := List.pairwise_append.1 h.up
    obtain ⟨h4, h5⟩ := List.pairwise_cons.1 h2
    refine List.pairwise_append.2 ⟨h1, List.pairwise_cons.2 ⟨h4, h5⟩, fun z hz u hu => ?_⟩
    rcases List.mem_cons.1 hu with rfl | hu
    · exact h3 z hz y (by simp)
    · exact h3 z hz u (by simp [hu])
theorem mate_get {span : Int} {l : List LfT} {dl : List DcT} {y : DcT} (h : Mate span l dl) (hy : y ∈ dl) : getL l y.1 = some (lfD span y) := by
  have hm : lfD span y ∈ l := h.pm.mem_iff.2 (List.mem_map.2 ⟨y, hy, rfl⟩)
  obtain ⟨a, z, b, e, e1, _, e3⟩ := getL_some (id := y.1) (l := l) (mem_ids.2 ⟨_, hm, rfl⟩)
  rw [e3]
  exact congrArg some (uniq h.nd (by rw [e]; simp) hm e1)
theorem mate_none {span : Int} {l : List LfT} {dl : List DcT} {id : Int} (h : Mate span l dl) (hy : id ∉ idD dl) : getL l id = none := getL_none.1 (fun q => hy ((h.ids id).1 q))
/-- What is told at a tick, and what is left. -/
def tolD (span : Int) (dl : List DcT) (T : Int) : List Int := idD (dl.filter (fun x => upT (x.2.2 + x.2.1) span == T))
def goD (span : Int) (dl : List DcT) (T : Int) : List DcT := dl.filter (fun x => !(upT (x.2.2 + x.2.1) span == T))
theorem mate_told {span : Int} {l : List LfT} {dl : List DcT} (h : Mate span l dl) (T : Int) : tolL l T = tolD span dl T := by
  unfold tolL tolD
  have h1 : (_root_.Go.Proofs.YtmniefmjdfdedaaGreatDoor.ids (l.filter (dueB T))).Perm (idD (dl.filter (fun x => upT (x.2.2 + x.2.1) span == T))) := by
    have := (h.pm.filter (dueB T)).map (fun x : LfT => x.1)
    rw [List.filter_map, List.map_map] at this
    exact this
  rw [srt_perm h1]
  have h2 : (idD (dl.filter (fun x => upT (x.2.2 + x.2.1) span == T))).Pairwise (· ≤ ·) := by
    unfold idD
    rw [List.pairwise_map]
    exact (h.up.sublist List.filter_sublist).imp (fun q => by omega)
  exact List.Perm.eq_of_pairwise (le := fun a b => a ≤ b) (fun a b _ _ h1 h2 => Int.le_antisymm h1 h2) ((List.pairwise_mergeSort (le := fun x y => decide (x ≤ y)) (fun a b c h1 h2 => by simp at *; omega) (fun a b => by simp; omega) _).imp (fun h => by simpa using h)) h2 (List.mergeSort_perm _ _)
theorem mate_go {span : Int} {l : List LfT} {dl : List DcT} (h : Mate span l dl) (T : Int) : Mate span (goL l T) (goD span dl T) := by
  refine ⟨?_, h.up.sublist List.filter_sublist⟩
  have := h.pm.filter (fun x => !dueB T x)
  rw [List.filter_map] at this
  exact this
theorem mate_all {span : Int} {l : List LfT} {dl : List DcT} (h : Mate span l dl) : allL l = dl.map (fun x => (x.1, x.2.1)) := by
  refine (srtS_is ?_ ?_ ?_).symm
  · rw [ss1_ids]; exact h.nd
  · have := (h.pm.map ss1).symm
    rw [List.map_map] at this
    exact this
  · rw [List.pairwise_map]
    exact h.up.imp (fun q => by simp; omega)
/-- Told one by one, they go. -/
theorem remD_all : ∀ (L : List Int) (dl : List DcT), L.foldl remD dl = dl.filter (fun x => !(L.contains x.1))
  | [], dl => (List.filter_eq_self.2 (fun _ _ => by simp)).symm
  | i :: r, dl => by
    rw [List.foldl_cons, remD_all r]
    unfold remD
    rw [List.filter_filter]
    refine List.filter_congr (fun x _ => ?_)
    by_cases e : x.1 = i <;> simp [e, List.contains_cons, Bool.and_comm]
theorem goD_fold {span : Int} {dl : List DcT} (h : dl.Pairwise (fun a b => a.1 < b.1)) (T : Int) : (tolD span dl T).foldl remD dl = goD span dl T := by
  rw [remD_all]
  unfold goD tolD
  refine List.filter_congr (fun x hx => ?_)
  congr 1
  rw [Bool.eq_iff_iff]
  simp only [List.contains_iff_mem, beq_iff_eq, idD, List.mem_map, List.mem_filter]
  constructor
  · rintro ⟨y, ⟨hy, e1⟩, e2⟩
    have : y = x := by
      obtain ⟨i, hi⟩ := List.getElem?_of_mem hy
      obtain ⟨j, hj⟩ := List.getElem?_of_mem hx
      have := nodup_at (fun z : DcT => z.1) (up_nd h) hi hj e2
      subst this
      rw [hi] at hj
      exact Option.some.inj hj
    rw [← this]; exact e1
  · exact fun e => ⟨x, ⟨hx, e⟩, rfl⟩

end Go.Proofs.YtmniefmjdfdedaaGreatDoor
