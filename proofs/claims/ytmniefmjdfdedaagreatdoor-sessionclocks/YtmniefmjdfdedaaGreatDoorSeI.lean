/- What a clock's lists have in common with each other; few of layer 19. -/
import Derived.Test.YtmniefmjdfdedaaGreatDoorSeG
namespace Go.Proofs.YtmniefmjdfdedaaGreatDoor
open Go.RowKit Go.Shelf
set_option maxRecDepth 8000
set_option linter.unusedSimpArgs false

theorem putL_ids (x : LfT) : ∀ l : List LfT, ids (putL l x) = if x.1 ∈ ids l then ids l else ids l ++ [x.1]
  | [] => by simp [putL, ids]
  | y :: r => by
    have h := putL_ids x r
    unfold putL
    by_cases e : y.1 = x.1
    · rw [if_pos e]
      simp [ids, e]
    · rw [if_neg e]
      have e1 : ids (y :: putL r x) = y.1 :: ids (putL r x) := rfl
      have e2 : ids (y :: r) = y.1 :: ids r := rfl
      rw [e1, e2, h]
      by_cases q : x.1 ∈ ids r
      · rw [if_pos q, if_pos (List.mem_cons_of_mem _ q)]
      · rw [if_neg q, if_neg (fun hm => by rcases List.mem_cons.1 hm with hm | hm; exact e hm.symm; exact q hm)]; rfl
theorem putL_nd {x : LfT} {l : List LfT} (h : (ids l).Nodup) : (ids (putL l x)).Nodup := by
  rw [putL_ids]
  split
  · exact h
  · rename_i q
    rw [List.nodup_append]
    exact ⟨h, by simp, fun a ha b hb e => by simp at hb; rw [e, hb] at ha; exact q ha⟩
theorem ids_len (l : List LfT) : (ids l).length = l.length := List.length_map _
theorem putL_len {x : LfT} {l : List LfT} : (putL l x).length ≤ l.length + 1 ∧ l.length ≤ (putL l x).length := by
  rw [← ids_len (putL l x), putL_ids, ← ids_len l]
  split
  · omega
  · simp
theorem addL_nd {l : List LfT} {id tm u : Int} (h : (ids l).Nodup) : (ids (addL l id tm u)).Nodup := by
  unfold addL
  split
  · exact putL_nd h
  · exact h
theorem addL_len {l : List LfT} {id tm u : Int} : (addL l id tm u).length ≤ l.length + 1 := by
  unfold addL
  split
  · exact putL_len.1
  · omega
theorem addL_not {l : List LfT} {id i tm u : Int} (h : id ∉ ids l) (hi : i ≠ id) : id ∉ ids (addL l i tm u) := by
  unfold addL
  split
  · rw [putL_ids]
    split
    · exact h
    · simp only [List.mem_append, List.mem_singleton, not_or]
      exact ⟨h, Ne.symm hi⟩
  · exact h

theorem mem_ids {l : List LfT} {i : Int} : i ∈ ids l ↔ ∃ x ∈ l, x.1 = i := List.mem_map
theorem uniq {l : List LfT} (h : (ids l).Nodup) {x y : LfT} (hx : x ∈ l) (hy : y ∈ l) (e : x.1 = y.1) : x = y := by
  obtain ⟨i, hi⟩ := List.getElem?_of_mem hx
  obtain ⟨j, hj⟩ := List.getElem?_of_mem hy
  have := nodup_at (fun z : LfT => z.1) h hi hj e
  subst this
  rw [hi] at hj
  exact Option.some.inj hj
theorem tolL_mem {l : List LfT} {T i : Int} : i ∈ tolL l T ↔ ∃ x ∈ l, x.1 = i ∧ x.2.2 = T := by
  unfold tolL srt
  rw [List.mem_mergeSort, mem_ids]
  constructor
  · rintro ⟨x, hx, e⟩
    obtain ⟨h1, h2⟩ := List.mem_filter.1 hx
    exact ⟨x, h1, e, by simpa [dueB] using h2⟩
  · rintro ⟨x, hx, e1, e2⟩
    exact ⟨x, List.mem_filter.2 ⟨hx, by simp [dueB, e2]⟩, e1⟩
theorem goL_nd {l : List LfT} {T : Int} (h : (ids l).Nodup) : (ids (goL l T)).Nodup := h.sublist (List.filter_sublist.map _)
theorem goL_len {l : List LfT} {T : Int} : (goL l T).length ≤ l.length := List.length_filter_le _ _
theorem goL_mem {l : List LfT} {T : Int} {x : LfT} : x ∈ goL l T ↔ x ∈ l ∧ x.2.2 ≠ T := by
  unfold goL
  rw [List.mem_filter]
  simp [dueB]
theorem tolL_len {l : List LfT} {T : Int} : (tolL l T).length ≤ l.length := by
  unfold tolL srt
  rw [List.length_mergeSort, ids_len]
  exact List.length_filter_le _ _
theorem tolL_up {l : List LfT} {T : Int} (h : (ids l).Nodup) : (tolL l T).Pairwise (· < ·) := by
  have h1 : (tolL l T).Pairwise (· ≤ ·) := (List.pairwise_mergeSort (le := fun x y => decide (x ≤ y)) (fun a b c h1 h2 => by simp at *; omega) (fun a b => by simp; omega) _).imp (fun h => by simpa using h)
  have h2 : (tolL l T).Nodup := by
    unfold tolL srt
    rw [(List.mergeSort_perm _ _).nodup_iff]
    exact h.sublist (List.filter_sublist.map _)
  exact h1.imp₂ (fun a b q1 q2 => by omega) h2
theorem tolL_lt {l : List LfT} {T : Int} (h : (ids l).Nodup) {i : Nat} {a b : Int} (ha : (tolL l T)[i]? = some a) (hb : (tolL l T)[i + 1]? = some b) : a < b := by
  obtain ⟨h1, e1⟩ := List.getElem?_eq_some_iff.1 ha
  obtain ⟨h2, e2⟩ := List.getElem?_eq_some_iff.1 hb
  have := List.pairwise_iff_getElem.1 (tolL_up h) i (i + 1) h1 h2 (by omega)
  rw [e1, e2] at this
  exact this

/-- How often a call is made. -/
def fewN (n : Int) : Int := if n < 1 then 1 else if 40 < n then 40 else n
theorem fewN_b (n : Int) : 1 ≤ fewN n ∧ fewN n ≤ 40 := by unfold fewN; split <;> (try split) <;> omega
theorem few_any (n : Int) (w : World) : Calls Tryz.prog 18 #[.int .i64 n] w fun e w' => e = .returned (.int .i64 (fewN n)) ∧ w' = w := by
  by_cases h1 : n < 1
  · have e : fewN n = 1 := by unfold fewN; rw [if_pos h1]
    have d1 : decide (n < 1) = true := by simp; omega
    rw [e]
    clear h1 e
    go_enter Tryz.func18, Tryz.ntmps18
    go_wp2
    all_goals (go_ret; exact ⟨rfl, rfl⟩)
  · have d1 : decide (n < 1) = false := by simp; omega
    by_cases h2 : 40 < n
    · have e : fewN n = 40 := by unfold fewN; rw [if_neg h1, if_pos h2]
      have d2 : decide (n > 40) = true := by simp; omega
      have d3 : decide (40 < n) = true := by simp; omega
      rw [e]
      clear h1 h2 e
      go_enter Tryz.func18, Tryz.ntmps18
      go_wp2
      all_goals (go_ret; exact ⟨rfl, rfl⟩)
    · have e : fewN n = n := by unfold fewN; rw [if_neg h1, if_neg h2]
      have d2 : decide (n > 40) = false := by simp; omega
      have d3 : decide (40 < n) = false := by simp; omega
      rw [e]
      clear h1 h2 e
      go_enter Tryz.func18, Tryz.ntmps18
      go_wp2
      all_goals (go_ret; exact ⟨rfl, rfl⟩)

end Go.Proofs.YtmniefmjdfdedaaGreatDoor
