/- A list that rises does so from each place; a part of a list, as Go cuts it. No Go function is walked here. -/
import Derived.Test.YteindmdggpahfaaRisesT
namespace Go.Proofs.Yteindmdggpahfaa
open Go.RowKit
set_option maxRecDepth 8000

theorem rises_drop : ∀ (l : List TxD) (e n : Int) (k : Nat) (hk : k < l.length), rises e n l = true → rises l[k].ep l[k].n (l.drop (k + 1)) = true ∧ rises e n (l.take k) = true ∧ (e < l[k].ep ∨ (e = l[k].ep ∧ n < l[k].n))
  | [], _, _, k, hk, _ => by simp at hk
  | t :: l, e, n, k, hk, h => by
    simp only [rises, Bool.and_eq_true, decide_eq_true_eq] at h
    have hc : e < t.ep ∨ (e = t.ep ∧ n < t.n) := by
      have := h.1
      unfold zcmp at this
      split at this
      · omega
      · split at this <;> omega
    cases k with
    | zero => exact ⟨by simpa using h.2, rfl, hc⟩
    | succ k =>
      obtain ⟨h1, h2, h3⟩ := rises_drop l t.ep t.n k (by simpa using hk) h.2
      refine ⟨by simpa using h1, ?_, ?_⟩
      · simp only [List.take_succ_cons, rises, Bool.and_eq_true, decide_eq_true_eq]
        exact ⟨h.1, h2⟩
      · simp only [List.getElem_cons_succ]
        omega

/-- A part of a list, as Go cuts it. -/
theorem seesTxs_cut {w : World} {ao : Option Addr} {l : List TxD} {cap : Nat} (h : SeesTxs w (.slice ao l.length cap) l) (lo hi : Nat) (h1 : lo ≤ hi) (h2 : hi ≤ l.length) : SeesTxs w (sliced ao lo hi cap 16) ((l.take hi).drop lo) := by
  obtain ⟨cs, ⟨ao', cap', e, g1, g2, g0, g3⟩, hl, hs⟩ := h
  simp at e
  obtain ⟨rfl, _, rfl⟩ := e
  have hlen : ((cs.take hi).drop lo).length = hi - lo := by simp; omega
  refine ⟨(cs.take hi).drop lo, ?_, by simp [hl], fun i hi' hk => ?_⟩
  · unfold sliced
    by_cases hc : cap = lo
    · rw [if_pos hc]
      have : (cs.take hi).drop lo = [] := List.eq_nil_of_length_eq_zero (by rw [hlen]; omega)
      exact ⟨ao, cap - lo, by rw [hlen], by rw [hlen]; omega, by omega, fun _ => by omega, .inl this⟩
    · rw [if_neg hc]
      refine ⟨_, cap - lo, by rw [hlen], by rw [hlen]; omega, by omega, fun e => ?_, ?_⟩
      · cases ao with
        | none => have := g0 rfl; omega
        | some a => simp at e
      · rcases g3 with g3 | ⟨b, off, rfl, g3⟩
        · exact .inl (by rw [g3]; simp)
        · refine .inr ⟨b, off + lo * 16, by simp [Addr.add], fun i hi' j hj => ?_⟩
          rw [hlen] at hi'
          have := g3 (lo + i) (by omega) j hj
          rw [show off + lo * 16 + i * 16 + j = off + (lo + i) * 16 + j by rw [Nat.add_mul]; omega, this]
          simp [List.getElem_drop, List.getElem_take]
  · simp only [List.getElem_drop, List.getElem_take]
    exact hs (lo + i) (by simp at hi'; omega) (by simp at hk; omega)
end Go.Proofs.Yteindmdggpahfaa
