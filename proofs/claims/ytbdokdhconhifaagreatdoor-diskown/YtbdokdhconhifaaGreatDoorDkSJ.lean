/- DiskCrash's parts: what an image holds, kept; Left. -/
import Derived.Test.YtbdokdhconhifaaGreatDoorDkRJ
import Derived.Test.YtbdokdhconhifaaGreatDoorRqJ
namespace Go.Proofs.YtbdokdhconhifaaGreatDoor
open Go.RowKit Go.Shelf
set_option maxRecDepth 8000

theorem ImgAt.kept {w w' : World} {S : Nat → Prop} {B : Nat} {v : Value} {fs : List FiD} {vs : List Value} (h : ImgAt w B v fs vs) (hk : Kept w w' S) (hS : ∀ k, S k → k < B ∨ w.heap.size ≤ k) : ImgAt w' B v fs vs := by
  have hb : ∀ {e : TypeId} {z : Nat} {u : Value} {n : Nat} {xs : List Value}, w.ownsRow B e z u n xs → ∀ k, u.ownBlock = some k → ¬ S k := by
    intro e z u n xs ho k hko hs
    obtain ⟨_, ⟨rfl, _⟩ | ⟨g, cap, cur, rfl, h2, h3, _⟩⟩ := ho
    · cases hko
    · have hgk : g = k := by simpa [Value.ownBlock] using hko
      have hgl := lt_of_block h3
      rcases hS k hs with e | e <;> omega
  exact ⟨h.len, row_kept' h.own hk (hb h.own), fun i u f hu hf => row_kept' (h.bys i u f hu hf) hk (hb (h.bys i u f hu hf))⟩

theorem imgC_at (fs : List FiD) (vs : List Value) (h : vs.length = fs.length) (i : Nat) (hi : i < fs.length) (j : Nat) (hj : j < 3) : (imgC fs vs)[i * 3 + j]? = (fiC fs[i] (vs[i]'(by omega)))[j]? := by
  unfold imgC
  induction fs generalizing vs i with
  | nil => simp at hi
  | cons f fs ih =>
    cases vs with
    | nil => simp at h
    | cons u vs =>
      simp only [List.zipWith_cons_cons, List.flatten_cons]
      cases i with
      | zero => rw [Nat.zero_mul, Nat.zero_add, List.getElem?_append_left (by simp; omega)]; rfl
      | succ i =>
        rw [List.getElem?_append_right (by simp; omega)]
        have := ih vs (by simpa using h) i (by simpa using hi)
        simp only [List.length_cons, List.length_nil]
        rw [show (i + 1) * 3 + j - (0 + 1 + 1 + 1) = i * 3 + j by omega, this]
        rfl

/-- The cells of a file of an image. -/
theorem ImgAt.cells {w : World} {B : Nat} {g n c : Nat} {fs : List FiD} {vs : List Value} (h : ImgAt w B (.slice (some ⟨g, 0, none⟩) n c) fs vs) (i : Nat) (hi : i < fs.length) : ∃ u, vs[i]? = some u ∧ w.cell? ⟨g, i * 3, none⟩ = some (.string fs[i].name) ∧ w.cell? ⟨g, i * 3 + 1, none⟩ = some u ∧ w.cell? ⟨g, i * 3 + 2, none⟩ = some (.int .i64 fs[i].dur) ∧ Owns w B u fs[i].bytes := by
  obtain ⟨_, ⟨e, _⟩ | ⟨g', cap, cur, e, _, h3, h4, _, h6, h7⟩⟩ := h.own
  · cases e
  obtain ⟨rfl, _, rfl⟩ : g = g' ∧ n = fs.length ∧ c = cap := by simpa using e
  have hv : i < vs.length := by rw [h.len]; exact hi
  have hat : ∀ j, j < 3 → w.cell? ⟨g, i * 3 + j, none⟩ = (fiC fs[i] vs[i])[j]? := fun j hj => by
    rw [cell_of_row w g _ _ _ _ h3, ← imgC_at fs vs h.len i hi j hj, ← h7, List.getElem?_take, if_pos (by omega), Array.getElem?_toList]
  exact ⟨vs[i], List.getElem?_eq_getElem hv, hat 0 (by omega), hat 1 (by omega), hat 2 (by omega), h.bys i _ _ (List.getElem?_eq_getElem hv) (List.getElem?_eq_getElem hi)⟩

theorem off_start (D : DkD) (ks : List Int) : (D.off.start ks).on = true ∧ (D.off.start ks).files = lossF D.files ks := by
  unfold DkD.off
  split
  · unfold DkD.start; exact ⟨rfl, rfl⟩
  · rename_i h
    have h' : D.on = false := by simpa using h
    unfold DkD.start
    rw [h']
    exact ⟨rfl, rfl⟩
end Go.Proofs.YtbdokdhconhifaaGreatDoor
