/- The document's clock: what its lists become; pure. -/
import Derived.Test.YtmniefmjdfdedaaGreatDoorSfC
namespace Go.Proofs.YtmniefmjdfdedaaGreatDoor
open Go.RowKit Go.Shelf
set_option maxRecDepth 8000
set_option linter.unusedSimpArgs false

/-- Is one of these above? -/
def abvD (l : List DcT) (id : Int) : Bool := l.any (fun y => decide (id < y.1))
theorem abvD_snoc (l : List DcT) (y : DcT) (id : Int) : abvD (l ++ [y]) id = (abvD l id || decide (id < y.1)) := by simp [abvD]
theorem insD_no {x : DcT} : ∀ {l : List DcT}, abvD l x.1 = false → insD l x = l ++ [x]
  | [], _ => rfl
  | y :: r, h => by
    simp only [abvD, List.any_cons, Bool.or_eq_false_iff, decide_eq_false_iff_not] at h
    unfold insD
    rw [if_neg h.1, insD_no (l := r) (by unfold abvD; exact h.2)]; rfl
theorem insD_here {x y : DcT} : ∀ {l : List DcT}, abvD l x.1 = false → x.1 < y.1 → insD (l ++ [y]) x = l ++ [x] ++ [y]
  | [], _, hy => by simp [insD, hy]
  | z :: r, h, hy => by
    simp only [abvD, List.any_cons, Bool.or_eq_false_iff, decide_eq_false_iff_not] at h
    show insD (z :: (r ++ [y])) x = _
    unfold insD
    rw [if_neg h.1, insD_here (l := r) (by unfold abvD; exact h.2) hy]; rfl
theorem insD_yes {x y : DcT} : ∀ {l : List DcT}, abvD l x.1 = true → insD (l ++ [y]) x = insD l x ++ [y]
  | [], h => by simp [abvD] at h
  | z :: r, h => by
    show insD (z :: (r ++ [y])) x = _
    unfold insD
    by_cases hz : x.1 < z.1
    · rw [if_pos hz, if_pos hz]; rfl
    · rw [if_neg hz, if_neg hz, insD_yes (l := r) (by simpa [abvD, hz] using h)]; rfl
/-- What has been laid of the first i. -/
def accD (dl : List DcT) (x : DcT) (i : Nat) : List DcT := if abvD (dl.take i) x.1 then insD (dl.take i) x else dl.take i
theorem accD_end (dl : List DcT) (x : DcT) {i : Nat} (hi : dl.length ≤ i) : insD dl x = if abvD (dl.take i) x.1 then accD dl x i else accD dl x i ++ [x] := by
  unfold accD
  rw [List.take_of_length_le hi]
  cases h : abvD dl x.1 with
  | true => rfl
  | false => exact insD_no h
theorem take_snoc {dl : List DcT} {i : Nat} {y : DcT} (hy : dl[i]? = some y) : dl.take (i + 1) = dl.take i ++ [y] := by
  rw [List.take_add_one, hy]; rfl
theorem accD_step {dl : List DcT} {x y : DcT} {i : Nat} (hy : dl[i]? = some y) : accD dl x (i + 1) = (if abvD (dl.take i) x.1 then accD dl x i else if x.1 < y.1 then accD dl x i ++ [x] else accD dl x i) ++ [y] := by
  unfold accD
  rw [take_snoc hy, abvD_snoc]
  cases h : abvD (dl.take i) x.1 with
  | true => simp [insD_yes h]
  | false =>
    by_cases e : x.1 < y.1
    · simp [e, insD_here h e]
    · simp [e]
theorem accD_len (dl : List DcT) (x : DcT) (i : Nat) : (accD dl x i).length ≤ dl.length + 1 := by
  unfold accD
  split
  · have := (insD_perm x (dl.take i)).length_eq
    rw [this]; simp; omega
  · simp; omega

/-- A place that is struck. -/
theorem erase_rem {dl : List DcT} (h : dl.Pairwise (fun a b => a.1 < b.1)) {a b : List DcT} {y : DcT} (e : dl = a ++ y :: b) : dl.eraseIdx a.length = remD dl y.1 := by
  subst e
  rw [remD_mid h, List.eraseIdx_append_of_length_le (Nat.le_refl _), Nat.sub_self]; rfl
theorem remD_keeps {dl : List DcT} {i j : Int} (hi : i ∈ idD dl) (hne : i ≠ j) : i ∈ idD (remD dl j) := by
  obtain ⟨x, hx, rfl⟩ := List.mem_map.1 hi
  exact List.mem_map.2 ⟨x, List.mem_filter.2 ⟨hx, by simp [hne]⟩, rfl⟩
theorem fold_keeps {i : Int} : ∀ {L : List Int} {dl : List DcT}, i ∈ idD dl → i ∉ L → i ∈ idD (L.foldl remD dl)
  | [], _, h, _ => h
  | j :: r, dl, h, hn => by
    rw [List.foldl_cons]
    simp only [List.mem_cons, not_or] at hn
    exact fold_keeps (remD_keeps h hn.1) hn.2
theorem fold_up : ∀ (L : List Int) {dl : List DcT}, dl.Pairwise (fun a b => a.1 < b.1) → (L.foldl remD dl).Pairwise (fun a b => a.1 < b.1)
  | [], _, h => h
  | j :: r, _, h => by rw [List.foldl_cons]; exact fold_up r (remD_up h j)
theorem fold_len : ∀ (L : List Int) (dl : List DcT), (L.foldl remD dl).length ≤ dl.length
  | [], _ => Nat.le_refl _
  | j :: r, dl => by rw [List.foldl_cons]; exact Nat.le_trans (fold_len r _) (List.length_filter_le _ _)
theorem fold_next {L : List Int} {dl : List DcT} {j : Nat} {i : Int} (h : L[j]? = some i) : (L.take (j + 1)).foldl remD dl = remD ((L.take j).foldl remD dl) i := by
  rw [List.take_add_one, h, Option.toList_some, List.foldl_append]; rfl
theorem tolD_nd {span : Int} {dl : List DcT} (h : dl.Pairwise (fun a b => a.1 < b.1)) (T : Int) : (tolD span dl T).Nodup := up_nd (h.sublist List.filter_sublist)
theorem tolD_in {span : Int} {dl : List DcT} {T i : Int} (h : i ∈ tolD span dl T) : i ∈ idD dl := by
  obtain ⟨x, hx, rfl⟩ := List.mem_map.1 h
  exact List.mem_map.2 ⟨x, (List.mem_filter.1 hx).1, rfl⟩
theorem tolD_len (span : Int) (dl : List DcT) (T : Int) : (tolD span dl T).length ≤ dl.length := by
  unfold tolD idD
  rw [List.length_map]; exact List.length_filter_le _ _
/-- The next that is told is there. -/
theorem told_there {span : Int} {dl : List DcT} (h : dl.Pairwise (fun a b => a.1 < b.1)) {T i : Int} {j : Nat} (hj : (tolD span dl T)[j]? = some i) : i ∈ idD (((tolD span dl T).take j).foldl remD dl) := by
  refine fold_keeps (tolD_in (List.mem_of_getElem? hj)) (fun hm => ?_)
  obtain ⟨q, hq⟩ := List.getElem?_of_mem hm
  have hqj : q < j := by
    have := (List.getElem?_eq_some_iff.1 hq).1
    simp at this; omega
  rw [List.getElem?_take_of_lt hqj] at hq
  have := nodup_at (fun z : Int => z) (by simpa using tolD_nd h T) hq hj rfl
  omega
theorem tolD_snoc {span : Int} {dl : List DcT} {i : Nat} {x : DcT} {T : Int} (hx : dl[i]? = some x) : tolD span (dl.take (i + 1)) T = if upT (x.2.2 + x.2.1) span = T then tolD span (dl.take i) T ++ [x.1] else tolD span (dl.take i) T := by
  unfold tolD idD
  rw [take_snoc hx, List.filter_append, List.map_append]
  by_cases e : upT (x.2.2 + x.2.1) span = T
  · rw [if_pos e, List.filter_cons_of_pos (by simpa using e)]; rfl
  · rw [if_neg e, List.filter_cons_of_neg (by simpa using e)]; simp

/-- What of a session's data may be. -/
structure OkD (now : Int) (x : DcT) : Prop where
  t1 : 1 ≤ x.2.1
  t2 : x.2.1 ≤ 1000
  b0 : 0 ≤ x.2.2
  b1 : x.2.2 ≤ now
theorem OkD.more {now now' : Int} {x : DcT} (h : OkD now x) (hn : now ≤ now') : OkD now' x := ⟨h.t1, h.t2, h.b0, by have := h.b1; omega⟩
end Go.Proofs.YtmniefmjdfdedaaGreatDoor
