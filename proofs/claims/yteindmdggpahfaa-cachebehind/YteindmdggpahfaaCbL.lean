/- Of a list that rises, those above a zxid are all among the last ones, if it is not below the one ahead of these. No Go function is walked here. -/
import Derived.Test.YteindmdggpahfaaCbJ
namespace Go.Proofs.Yteindmdggpahfaa
open Go.RowKit
set_option maxRecDepth 8000

theorem zcmp_pos {e n f m : Int} : 0 < zcmp e n f m ↔ f < e ∨ (f = e ∧ m < n) := by
  unfold zcmp
  split
  · constructor
    · intro h; omega
    · intro h; omega
  · split
    · constructor
      · intro h; omega
      · intro h; omega
    · constructor
      · intro h; omega
      · intro h; omega

theorem zcmp_nn {e n f m : Int} : 0 ≤ zcmp e n f m ↔ f < e ∨ (f = e ∧ m ≤ n) := by
  unfold zcmp
  split
  · constructor
    · intro h; omega
    · intro h; omega
  · split
    · constructor
      · intro h; omega
      · intro h; omega
    · constructor
      · intro h; omega
      · intro h; omega

/-- In a list that rises each is above those ahead of it. -/
theorem rises_lt2 {l : List TxD} {e n : Int} (h : rises e n l = true) {i j : Nat} (hij : i < j) (hj : j < l.length) : l[i].ep < l[j].ep ∨ (l[i].ep = l[j].ep ∧ l[i].n < l[j].n) := by
  have h1 := (rises_drop l e n i (by omega) h).1
  have h2 := (rises_drop (l.drop (i + 1)) l[i].ep l[i].n (j - (i + 1)) (by rw [List.length_drop]; omega) h1).2.2
  simp only [List.getElem_drop, show i + 1 + (j - (i + 1)) = j by omega] at h2
  exact h2

theorem filter_last {l : List TxD} (h : rises 0 0 l = true) (m : Nat) (ze zn : Int) (hm : m < l.length) (hz : 0 ≤ zcmp ze zn (l[l.length - m - 1]'(by omega)).ep (l[l.length - m - 1]'(by omega)).n) : (lastN m l).filter (abvZ ze zn) = l.filter (abvZ ze zn) := by
  have h1 : l.filter (abvZ ze zn) = (l.take (l.length - m)).filter (abvZ ze zn) ++ (lastN m l).filter (abvZ ze zn) := by
    unfold lastN
    rw [← List.filter_append, List.take_append_drop]
  have h2 : (l.take (l.length - m)).filter (abvZ ze zn) = [] := by
    rw [List.filter_eq_nil_iff]
    intro t ht
    obtain ⟨i, hi, rfl⟩ := List.getElem_of_mem ht
    rw [List.length_take] at hi
    simp only [List.getElem_take]
    unfold abvZ
    rw [zcmp_nn] at hz
    have hh : ¬ 0 < zcmp (l[i]'(by omega)).ep (l[i]'(by omega)).n ze zn := by
      rw [zcmp_pos]
      by_cases e : i = l.length - m - 1
      · subst e; omega
      · have := rises_lt2 h (i := i) (j := l.length - m - 1) (by omega) (by omega)
        omega
    simpa using hh
  rw [h1, h2, List.nil_append]

/-- The next one that is above stands in its place among those that are. -/
theorem filter_at {l : List TxD} {f : TxD → Bool} {i : Nat} (hi : i < l.length) (hf : f l[i] = true) : (l.filter f)[((l.take i).filter f).length]? = some l[i] ∧ ((l.take (i + 1)).filter f).length = ((l.take i).filter f).length + 1 := by
  have e1 : l.take (i + 1) = l.take i ++ [l[i]] := List.take_succ_eq_append_getElem hi
  have e2 : (l.take (i + 1)).filter f = (l.take i).filter f ++ [l[i]] := by
    rw [e1, List.filter_append, List.filter_cons_of_pos hf, List.filter_nil]
  refine ⟨?_, by rw [e2, List.length_append]; rfl⟩
  have e3 : l.filter f = ((l.take i).filter f ++ [l[i]]) ++ (l.drop (i + 1)).filter f := by
    rw [← e2, ← List.filter_append, List.take_append_drop]
  rw [e3, List.append_assoc, List.getElem?_append_right (Nat.le_refl _), Nat.sub_self]
  rfl

theorem filter_not {l : List TxD} {f : TxD → Bool} {i : Nat} (hi : i < l.length) (hf : f l[i] = false) : (l.take (i + 1)).filter f = (l.take i).filter f := by
  rw [List.take_succ_eq_append_getElem hi, List.filter_append, List.filter_cons_of_neg (by simp [hf]), List.filter_nil, List.append_nil]
end Go.Proofs.Yteindmdggpahfaa
