/- LinkPlays' does: Tell. -/
import Derived.Test.YtghngopclhhoeaaDoorLpRJ
namespace Go.Proofs.YtghngopclhhoeaaDoor
open Go.RowKit
set_option maxRecDepth 8000
set_option linter.unusedSimpArgs false
set_option linter.unusedVariables false

/-- Where All's messages lie. -/
theorem outL_at (G : Nat) : ∀ (s : Nat) (l : List MsD) (i : Nat) (m : MsD), l[i]? = some m → (outL G s l)[i]? = some { m with g := G, off := s + totB (l.take i), c := m.bs.length }
  | s, y :: r, 0, m, h => by simp at h; subst h; simp [outL, totB]
  | s, y :: r, i + 1, m, h => by
    have := outL_at G (s + y.bs.length) r i m (by simpa using h)
    simp only [outL, List.getElem?_cons_succ, List.take_succ_cons, totB]
    rw [this, Nat.add_assoc]
theorem totB_step : ∀ (l : List MsD) (i : Nat) (m : MsD), l[i]? = some m → totB (l.take (i + 1)) = totB (l.take i) + m.bs.length
  | y :: r, 0, m, h => by simp at h; subst h; simp [totB]
  | y :: r, i + 1, m, h => by
    have := totB_step r i m (by simpa using h)
    simp only [List.take_succ_cons, totB]
    omega
theorem totB_mono : ∀ (l : List MsD) (i j : Nat), i ≤ j → totB (l.take i) ≤ totB (l.take j)
  | [], i, j, h => by simp
  | y :: r, 0, j, h => by simp [totB]
  | y :: r, i + 1, 0, h => by omega
  | y :: r, i + 1, j + 1, h => by
    have := totB_mono r i j (by omega)
    simp only [List.take_succ_cons, totB]
    omega
theorem totB_top (l : List MsD) (i : Nat) : totB (l.take i) ≤ totB l := by
  by_cases h : i ≤ l.length
  · have := totB_mono l i l.length h
    rw [List.take_length] at this
    exact this
  · rw [List.take_of_length_le (by omega)]; exact Nat.le_refl _
theorem allB_at : ∀ (l : List MsD) (i : Nat) (m : MsD), l[i]? = some m → ∀ j, j < m.bs.length → (allB l)[totB (l.take i) + j]? = m.bs[j]?
  | y :: r, 0, m, h, j, hj => by
    simp at h; subst h
    simp only [List.take_zero, totB, Nat.zero_add, allB]
    rw [List.getElem?_append_left hj]
  | y :: r, i + 1, m, h, j, hj => by
    have := allB_at r i m (by simpa using h) j hj
    simp only [List.take_succ_cons, totB, allB]
    rw [List.getElem?_append_right (by omega), ← this]
    congr 1
    omega

/-- A row of bytes of this size. -/
def RowU (w : World) (G n : Nat) : Prop := ∃ cs, w.heap[G]? = some (.cells cs 5 (0, 0)) ∧ cs.size = n
theorem RowU.kept {w w' : World} {S : Nat → Prop} {G n : Nat} (h : RowU w G n) (hk : Kept w w' S) (hG : ¬ S G) : RowU w' G n := by
  obtain ⟨cs, h1, h2⟩ := h
  exact ⟨cs, hk.heap h1 hG, h2⟩
theorem RowU.turned {w w' : World} {S : Nat → Nat → Prop} {G n : Nat} (h : RowU w G n) (ht : Turned w w' S) : RowU w' G n := by
  obtain ⟨cs, h1, h2⟩ := h
  obtain ⟨cs', h3, h4, _⟩ := ht.row G cs _ _ h1
  exact ⟨cs', h3, h4.trans h2⟩

/-- The bytes of All's messages. -/
abbrev pcO (G : Nat) (l : List MsD) : List Pc := msPc (msFlat (outL G 0 l)) l.length
theorem pcO_at {G : Nat} {l : List MsD} {i : Nat} {m : MsD} (hm : l[i]? = some m) (hi : i < (pcO G l).length) : (pcO G l)[i] = ⟨some ⟨G, totB (l.take i), none⟩, m.bs.length, m.bs.length⟩ := by
  have hil : i < l.length := (List.getElem?_eq_some_iff.1 hm).1
  have h1 := outL_at G 0 l i m hm
  have h2 := (msFlat_at _ i _ h1).2.2.1
  rw [msPc_at _ _ i hil]
  simp only [List.getD_eq_getElem?_getD, h2, Option.getD_some, MsD.v, pcM, Nat.zero_add]
theorem pcO_mem {G : Nat} {l : List MsD} {q : Pc} (hq : q ∈ pcO G l) : ∃ i m, l[i]? = some m ∧ q = ⟨some ⟨G, totB (l.take i), none⟩, m.bs.length, m.bs.length⟩ := by
  obtain ⟨i, hi, e⟩ := List.getElem_of_mem hq
  have hil : i < l.length := by have := hi; rw [msPc_len] at this; exact this
  exact ⟨i, l[i], List.getElem?_eq_getElem hil, by rw [← e]; exact pcO_at (List.getElem?_eq_getElem hil) hi⟩
theorem pcO_lies {w : World} {G : Nat} {l : List MsD} (h : RowU w G (totB l)) (hb : ∀ m ∈ l, m.bs.length ≤ 8192) : ∀ q ∈ pcO G l, Lies w 5 q ∧ q.n ≤ 8192 ∧ q.val.ownBlock = some G := fun q hq => by
  obtain ⟨i, m, hm, rfl⟩ := pcO_mem hq
  obtain ⟨cs, h1, h2⟩ := h
  have h8 := hb m (List.mem_of_getElem? hm)
  refine ⟨⟨Nat.le_refl _, by unfold maxLen; show m.bs.length ≤ _; omega, fun e => by simp at e, fun _ => ⟨G, _, cs, rfl, h1, ?_⟩⟩, h8, rfl⟩
  rw [h2]
  have := totB_step l i m hm
  have := totB_top l (i + 1)
  show totB (l.take i) + m.bs.length ≤ _
  omega
theorem pcO_apart (G : Nat) (l : List MsD) : ApartPcs (pcO G l) := fun i j hi hj hij k x h1 h2 => by
  have hil : i < l.length := by have := hi; rw [msPc_len] at this; exact this
  have hjl : j < l.length := by have := hj; rw [msPc_len] at this; exact this
  rw [pcO_at (List.getElem?_eq_getElem hil) hi] at h1
  rw [pcO_at (List.getElem?_eq_getElem hjl) hj] at h2
  obtain ⟨o1, e1, a1, b1⟩ := h1
  obtain ⟨o2, e2, a2, b2⟩ := h2
  simp only [Option.some.injEq, Addr.mk.injEq, and_true] at e1 e2 b1 b2
  have s1 := totB_step l i _ (List.getElem?_eq_getElem hil)
  have s2 := totB_step l j _ (List.getElem?_eq_getElem hjl)
  rcases Nat.lt_or_ge i j with h | h
  · have := totB_mono l (i + 1) j h
    omega
  · have := totB_mono l (j + 1) i (by omega)
    omega
theorem ApartPcs.takeM {ps : List Pc} (h : ApartPcs ps) (n : Nat) : ApartPcs (ps.take n) := fun i j hi hj hij => by
  rw [List.length_take] at hi hj
  rw [List.getElem_take, List.getElem_take]
  exact h i j (by omega) (by omega) hij
theorem ApartPcs.appM {ps qs : List Pc} (h : ApartPcs ps) (g : ApartPcs qs) (hx : ∀ a ∈ ps, ∀ b ∈ qs, ∀ k x, a.foot k x → ¬ b.foot k x) : ApartPcs (ps ++ qs) := fun i j hi hj hij k x h1 h2 => by
  rw [List.length_append] at hi hj
  by_cases h3 : i < ps.length <;> by_cases h4 : j < ps.length
  · rw [List.getElem_append_left h3] at h1
    rw [List.getElem_append_left h4] at h2
    exact h i j h3 h4 hij k x h1 h2
  · rw [List.getElem_append_left h3] at h1
    rw [List.getElem_append_right (by omega)] at h2
    exact hx _ (List.getElem_mem _) _ (List.getElem_mem _) k x h1 h2
  · rw [List.getElem_append_right (by omega)] at h1
    rw [List.getElem_append_left h4] at h2
    exact hx _ (List.getElem_mem _) _ (List.getElem_mem _) k x h2 h1
  · rw [List.getElem_append_right (by omega)] at h1 h2
    exact g _ _ _ _ (by omega) k x h1 h2
theorem foot_ownM {q : Pc} {k x : Nat} (h : q.foot k x) : q.val.ownBlock = some k := by
  obtain ⟨off, e, _⟩ := h
  unfold Pc.val
  rw [e]
  rfl

/-- All's list, to be read; as a row of one's own. -/
structure AlO (W : World) (l : List MsD) (G O : Nat) : Prop where
  row : W.heap[O]? = some (.cells (msFlat (outL G 0 l)).toArray 72 (0, 0))
  bys : W.heap[G]? = some (.cells ((allB l).map (Value.int .u8)).toArray 5 (0, 0))
theorem AlO.kept {W V : World} {S : Nat → Prop} {l : List MsD} {G O : Nat} (h : AlO W l G O) (hk : Kept W V S) (hG : ¬ S G) (hO : ¬ S O) : AlO V l G O := ⟨hk.heap h.row hO, hk.heap h.bys hG⟩
theorem AlO.own {W : World} {l : List MsD} {G O : Nat} (h : AlO W l G O) (hl : l.length ≤ 100000000) : W.ownsRow 0 72 4 (.slice (some ⟨O, 0, none⟩) l.length l.length) l.length (msFlat (outL G 0 l)) := by
  have hlen : (msFlat (outL G 0 l)).length = l.length * 4 := by rw [msFlat_len, outL_len]
  refine ⟨hlen, .inr ⟨O, l.length, _, rfl, Nat.zero_le _, h.row, Nat.le_refl _, by unfold maxLen; omega, by simpa using hlen, ?_⟩⟩
  rw [← hlen, List.toList_toArray, List.take_length]
theorem AlO.rowU {W : World} {l : List MsD} {G O : Nat} (h : AlO W l G O) : RowU W G (totB l) := ⟨_, h.bys, by simp [allB_len]⟩
theorem AlO.sees {W : World} {l : List MsD} {G O : Nat} (h : AlO W l G O) (hb : ∀ m ∈ l, m.bs.length ≤ 8192) : SeesG W (.slice (some ⟨O, 0, none⟩) l.length l.length) ((outL G 0 l).map MsD.gd) := by
  have hsm : SM W (.slice (some ⟨O, 0, none⟩) l.length l.length) (outL G 0 l) := by
    have hln := outL_len G 0 l
    refine ⟨_, l.length, by rw [hln], by rw [hln]; exact Nat.le_refl _, fun m' hm' => ?_, fun _ => ⟨O, 0, rfl, fun i x hx => ?_⟩⟩
    · obtain ⟨i, hi, e⟩ := List.getElem_of_mem hm'
      rw [hln] at hi
      have h1 := outL_at G 0 l i _ (List.getElem?_eq_getElem hi)
      have e2 : m' = { l[i] with g := G, off := 0 + totB (l.take i), c := l[i].bs.length } := by
        rw [List.getElem?_eq_getElem (by rw [hln]; exact hi)] at h1
        simp only [Option.some.injEq] at h1
        rw [← e, h1]
      subst e2
      have h8 := hb _ (List.getElem_mem hi)
      refine ⟨_, l[i].bs.length, rfl, Nat.le_refl _, by unfold maxLen; show l[i].bs.length ≤ _; omega, fun e => by simp at e, .inr ⟨G, 0 + totB (l.take i), rfl, fun j hj => ?_⟩⟩
      have hj' : j < l[i].bs.length := hj
      have h2 := allB_at l i _ (List.getElem?_eq_getElem hi) j hj'
      rw [cell_of_row _ _ _ _ _ _ h.bys, Nat.zero_add, List.getElem?_toArray, List.getElem?_map, h2, List.getElem?_eq_getElem hj']
      show some (Value.int .u8 l[i].bs[j]) = some (Value.int .u8 (l[i].bs.getD j 0))
      simp [List.getD_eq_getElem?_getD, hj']
    · obtain ⟨e1, e2, e3, e4⟩ := msFlat_at _ i x hx
      rw [Nat.zero_add]
      exact ⟨by rw [cell_of_row _ _ _ _ _ _ h.row, List.getElem?_toArray]; exact e1, by rw [cell_of_row _ _ _ _ _ _ h.row, List.getElem?_toArray]; exact e2, by rw [cell_of_row _ _ _ _ _ _ h.row, List.getElem?_toArray]; exact e3, by rw [cell_of_row _ _ _ _ _ _ h.row, List.getElem?_toArray]; exact e4⟩
  exact hsm.gd
theorem outL_alike (G : Nat) : ∀ (s : Nat) (l : List MsD), AlikeG ((outL G s l).map MsD.gd) (l.map MsD.gd) := fun s l =>
  ⟨by simp [outL_len], fun i x y hx hy => by
    rw [List.getElem?_map] at hx hy
    cases hm : l[i]? with
    | none => rw [hm] at hy; simp at hy
    | some m =>
      rw [hm] at hy
      rw [outL_at G s l i m hm] at hx
      simp at hx hy
      subst hx hy
      exact ⟨rfl, rfl, rfl, rfl⟩⟩
end Go.Proofs.YtghngopclhhoeaaDoor
