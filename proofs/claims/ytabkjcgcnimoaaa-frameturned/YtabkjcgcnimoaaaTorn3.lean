/- Frames that are cut off: what One, Whole and 'through' answer of them. No law is walked here. -/
import Derived.Test.YtabkjcgcnimoaaaTorn2
import Derived.Deep.QuietTactic
import Derived.BigQuiet
namespace Go.Proofs.Ytabkjcgcnimoaaa
open Go.ChangeShapes Go.WideShapes Go.ChangeAt Go.RowKit
set_option maxRecDepth 8000

theorem byts_frames : ∀ (l : List (List Int)), (∀ b ∈ l, Byts b ∧ isSz b.length = true) → Byts (framesL l)
  | [], _ => fun x hx => by simp [framesL] at hx
  | b :: l, h => by
    have hb := h b (by simp)
    have ha := adler_bd b
    have hl : (b.length : Int) ≤ 1048576 := by have := hb.2; simp [isSz] at this; omega
    refine Byts.append (Byts.append (Byts.append ?_ ?_) (hb.1.append (byts_lit rfl))) (byts_frames l (fun x hx => h x (by simp [hx])))
    · intro x hx
      simp only [be4, List.mem_cons, List.not_mem_nil, or_false] at hx
      rcases hx with rfl | rfl | rfl | rfl <;> omega
    · intro x hx
      simp only [be4, List.mem_cons, List.not_mem_nil, or_false] at hx
      rcases hx with rfl | rfl | rfl | rfl <;> omega

theorem pos_next {ys : List (List Int)} {k : Nat} (h : k < ys.length) : pos (ys.take (k + 1)) = pos (ys.take k) + (ys[k].length + 9) := by
  rw [List.take_succ_eq_append_getElem h, pos_snoc]; omega

/-- When one frame is all of a text. -/
theorem one_case {xs : List Int} {l : List (List Int)} (h : Bodies xs l) : (bodyLen xs ≠ 0 ∧ bodyLen xs + 9 = xs.length) ↔ (l.length = 1 ∧ pos l = xs.length) := by
  match l, h with
  | [], ⟨_, h2⟩ => simp [pos] at h2; simp [h2]
  | [b], ⟨⟨⟨h1, h2, _⟩, _⟩, _⟩ =>
    rw [List.drop_zero] at h2
    have e : pos [b] = b.length + 9 := rfl
    rw [h2, e]
    exact ⟨fun h => ⟨rfl, h.2⟩, fun h => ⟨by omega, h.2⟩⟩
  | b :: c :: m, ⟨⟨⟨h1, h2, _⟩, h4⟩, _⟩ =>
    rw [List.drop_zero] at h2
    have hc := frameAt_le h4.1
    rw [h2]
    refine ⟨fun h => ?_, fun h => ?_⟩
    · have := h.2; omega
    · have := h.1; simp at this

theorem one_torn (v : Value) (xs : List Int) (l : List (List Int)) (w : World) (hs : Sees w v xs) (hb : Byts xs) (hl : xs.length ≤ 140737488355328) (h : Bodies xs l) :
    Calls Try.prog 12 #[v] w fun e w' => ∃ a n c r, e = .returned (.tuple #[.slice a n c, .int .i64 r]) ∧ r = (if l.length = 1 ∧ pos l = xs.length then 0 else 30) ∧ Below w.heap.size w w' := by
  by_cases hc : l.length = 1 ∧ pos l = xs.length
  · have h1 := (one_case h).2 hc
    refine (one_ok v xs w hs hb hl h1.1 h1.2).mono ?_
    rintro e w' ⟨g, rfl, _, _, hB⟩
    exact ⟨_, _, _, _, rfl, by rw [if_pos hc], hB⟩
  · have h1 : ¬ (bodyLen xs ≠ 0 ∧ bodyLen xs + 9 = xs.length) := fun h' => hc ((one_case h).1 h')
    refine (one_bad v xs w hs hb hl (by omega)).mono ?_
    rintro e w' ⟨rfl, hB⟩
    exact ⟨_, _, _, _, rfl, by rw [if_neg hc], hB⟩

theorem whole_torn (v : Value) (xs : List Int) (l : List (List Int)) (w : World) (hs : Sees w v xs) (hsh : Shaped v xs) (hown : ∀ k, v.ownBlock = some k → k < w.heap.size) (hb : Byts xs) (hl : xs.length ≤ 140737488355328) (h : Bodies xs l) :
    Calls Try.prog 10 #[v] w fun e w' => e = .returned (.int .i64 (pos l)) ∧ Below w.heap.size w w' := by
  refine (whole_any v xs w hs hsh hown hb hl).mono ?_
  rintro e w' ⟨m, rfl, hB, hb⟩
  have := bodies_one hB h
  subst this
  exact ⟨rfl, hb⟩

theorem row_cell {V : World} {base n : Nat} {t : TypeId} {v : Value} {xs : List Value} (h : V.ownsRow base t 1 v n xs) (hn : 0 < n) : ∃ g c, v = .slice (some ⟨g, 0, none⟩) n c ∧ base ≤ g ∧ g < V.heap.size ∧ ∀ i, i < n → V.cell? ⟨g, i, none⟩ = xs[i]? := by
  rcases h.2 with ⟨_, h0⟩ | ⟨g, cap, cur, hv, hb, hr, _⟩
  · omega
  · subst hv
    refine ⟨g, cap, rfl, hb, lt_of_block hr, fun i hi => ?_⟩
    exact h.cellAt i (by omega)

/-- What 'through' has gathered, by the bodies that are whole. -/
theorem through_torn (v : Value) (xs : List Int) (l : List (List Int)) (w : World) (hs : Sees w v xs) (hb : Byts xs) (hl : xs.length ≤ 4000000000000) (h : Bodies xs l) :
    Calls Try.prog 9 #[v] w fun e w' => ∃ it a1 c1 a2 c2, e = .returned (.agg #[.slice a1 l.length c1, .slice a2 l.length c2]) ∧ bods (flat it) = l ∧ it.length = l.length ∧ Seen w.heap.size xs it (.slice a1 l.length c1) (.slice a2 l.length c2) w' ∧ Below w.heap.size w w' := by
  refine (through_any v xs w hs hb hl).mono ?_
  rintro e w' ⟨it, vp, vb, rfl, hS, hB⟩
  have e1 := bodies_one hS.whole h
  have e2 : it.length = l.length := by rw [← e1, bods_len]
  obtain ⟨a1, c1, r1⟩ := row_form hS.pl
  obtain ⟨a2, c2, r2⟩ := row_form hS.bo
  rw [e2] at r1 r2
  subst r1
  subst r2
  exact ⟨it, a1, c1, a2, c2, rfl, e1, e2, hS, hB⟩

/-- One of what was gathered. -/
theorem seen_at {n5 : Nat} {xs : List Int} {it : List Item} {vp vb : Value} {V : World} {ys : List (List Int)} {k : Nat} (h : Seen n5 xs it vp vb V) (hb : bods (flat it) = ys.take k) (hl : it.length = k) (j : Nat) (hj : j < k) (hys : k ≤ ys.length) :
    (it.map endV)[j]? = some (.int .i64 (pos (ys.take (j + 1)))) ∧ ∃ gx, (it.map itemV)[j]? = some (.slice (some ⟨gx, 0, none⟩) ys[j].length ys[j].length) ∧ Owns V n5 (.slice (some ⟨gx, 0, none⟩) ys[j].length ys[j].length) ys[j] := by
  have hlt : j < it.length := by omega
  constructor
  · have h1 := h.right
    unfold Right at h1
    rw [h1, hb, List.getElem?_map]
    have hle : j < (ends 0 (ys.take k)).length := by rw [ends_len, List.length_take]; omega
    have h2 := ends_at (ys.take k) 0 j (by rw [List.length_take]; omega)
    rw [Nat.zero_add, List.take_take, Nat.min_eq_left (by omega)] at h2
    rw [List.getElem?_eq_getElem hle, Option.map_some]
    rw [List.getD_eq_getElem?_getD, List.getElem?_eq_getElem hle] at h2
    simp at h2
    rw [h2]
  · have h1 : (bods (flat it))[j]? = some ys[j] := by
      rw [hb, List.getElem?_take, if_pos hj, List.getElem?_eq_getElem (by omega)]
    have h2 : (bods (flat it))[j]? = some it[j].2.1 := by simp [bods, flat, hlt]
    rw [h2] at h1
    simp at h1
    have h3 := h.it it[j] (List.getElem_mem hlt)
    refine ⟨it[j].2.2, ?_, ?_⟩
    · rw [List.getElem?_map, List.getElem?_eq_getElem hlt, Option.map_some, ← h1]
      rfl
    · rw [← h1]
      exact h3

end Go.Proofs.Ytabkjcgcnimoaaa
