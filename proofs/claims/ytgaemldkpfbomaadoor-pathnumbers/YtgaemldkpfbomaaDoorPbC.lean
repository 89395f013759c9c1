/- Plain facts: a path's parent and its last name, put together; a name put below a path. No Go function is walked here. -/
import Derived.Test.YtgaemldkpfbomaaDoorPaZ
namespace Go.Proofs.YtgaemldkpfbomaaDoor
open Go.RowKit Go.Shelf
set_option maxRecDepth 8000

theorem par_bas {p : Bs} (h : isPb p = true) (h1 : p ≠ [47]) (hl : p.length ≤ 4294967296) : ∃ a b, p = a ++ 47 :: b ∧ NoSlash b ∧ a ≠ [47] ∧ parL p = (if a = [] then [47] else a) ∧ basL p = b := by
  obtain ⟨a, b, hc, hab, hn⟩ := cut_path h hl
  have hcond : ¬ (p = [47] ∨ isPb p = false) := by rintro (e | e); exact h1 e; rw [h] at e; simp at e
  refine ⟨a, b, hab, hn, ?_, by unfold parL; rw [if_neg hcond, hc], by unfold basL; rw [if_neg hcond, hc]⟩
  rintro rfl
  rcases (isPb_iff hl).1 h with e | ⟨r, e, _, hs⟩
  · exact h1 e
  · rw [hab] at e
    simp only [List.cons_append, List.nil_append, List.cons.injEq, true_and] at e
    have := (hs [] (by rw [← e]; simp [segs])).1
    exact absurd this (by decide)

theorem join_back {p : Bs} (h : isPb p = true) (h1 : p ≠ [47]) (hl : p.length ≤ 4294967296) :
    joinV (parL p) (basL p) = .tuple #[bytesV p, .int .i64 0] ∧ parL p ∈ abv p ∧ isPb (parL p) = true ∧ (parL p).length ≤ p.length ∧ (basL p).length ≤ p.length := by
  obtain ⟨a, b, hab, hn, ha47, hp, hb⟩ := par_bas h h1 hl
  have hnm : nmB b = true := isPb_behind (by rw [← hab]; exact h) hn (by rw [← hab]; exact h1) (by rw [← hab]; exact hl)
  rw [hp, hb]
  by_cases ha : a = []
  · rw [if_pos ha]
    subst ha
    have hj : jn [47] b = p := by unfold jn; rw [if_pos rfl, hab]; rfl
    refine ⟨?_, (mem_abv h hl h1 _).2 (.inl rfl), by decide, by rw [hab]; simp, by rw [hab]; simp⟩
    unfold joinV
    rw [hj, hnm, h, show isPb [47] = true from by decide]
    rfl
  · rw [if_neg ha]
    have hj : jn a b = p := by unfold jn; rw [if_neg ha47, hab]
    have hpa : isPb a = true := isPb_ahead (by rw [← hab]; exact h) ha (by rw [← hab]; exact hl)
    refine ⟨?_, (mem_abv h hl h1 _).2 (.inr ⟨ha, b, hab⟩), hpa, by rw [hab]; simp, by rw [hab]; simp; omega⟩
    unfold joinV
    rw [hj, hnm, h, hpa]
    rfl

theorem join_fits {p n : Bs} (hp : isPb p = true) (hn : nmB n = true) (hq : isPb (jn p n) = true) (hl : (jn p n).length ≤ 4294967296) :
    parL (jn p n) = p ∧ basL (jn p n) = n ∧ p ∈ abv (jn p n) ∧ jn p n ≠ [47] := by
  have hnn := (nmB_iff n).1 hn
  have hn0 := (nf_ok hnn.1.1).1
  have hp0 : p ≠ [] := fun e => by rw [e] at hp; exact absurd hp (by decide)
  have h1 : jn p n ≠ [47] := by
    unfold jn
    split
    · simpa using hn0
    · intro e
      have := congrArg List.length e
      have h1 := List.length_pos_iff.2 hn0
      simp only [List.length_append, List.length_cons, List.length_nil] at this
      omega
  have hcond : ¬ (jn p n = [47] ∨ isPb (jn p n) = false) := by rintro (e | e); exact h1 e; rw [hq] at e; simp at e
  by_cases h47 : p = [47]
  · have hj : jn p n = [] ++ 47 :: n := by unfold jn; rw [if_pos h47]; rfl
    have hc : cutL (jn p n) = some ([], n) := by rw [hj]; exact cutL_app n hnn.2 []
    refine ⟨by unfold parL; rw [if_neg hcond, hc, h47]; rfl, by unfold basL; rw [if_neg hcond, hc], (mem_abv hq hl h1 _).2 (.inl h47), h1⟩
  · have hj : jn p n = p ++ 47 :: n := by unfold jn; rw [if_neg h47]
    have hc : cutL (jn p n) = some (p, n) := by rw [hj]; exact cutL_app n hnn.2 p
    refine ⟨by unfold parL; rw [if_neg hcond, hc]; simp [hp0], by unfold basL; rw [if_neg hcond, hc], (mem_abv hq hl h1 _).2 (.inr ⟨hp0, n, hj⟩), h1⟩

end Go.Proofs.YtgaemldkpfbomaaDoor
