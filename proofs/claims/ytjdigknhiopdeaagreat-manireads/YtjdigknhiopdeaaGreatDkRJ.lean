/- The statements' own calls: act; a list of calls in memory. -/
import Derived.Test.YtjdigknhiopdeaaGreatDkQJ
namespace Go.Proofs.YtjdigknhiopdeaaGreat
open Go.RowKit Go.Shelf
set_option maxRecDepth 8000

theorem errA_zero {D : DkD} {n : ByteArray} {k : Nat} (h : D.errA n k = 0) : D.on = true ∧ isNm n = true ∧ ¬ (hasF D.files n = false ∧ 64 ≤ D.files.length) ∧ (k : Int) ≤ D.room - usedD D.files := by
  unfold DkD.errA at h
  cases h1 : D.on <;> rw [h1] at h
  · simp at h
  · cases h2 : isNm n <;> rw [h2] at h
    · simp at h
    · rw [if_pos rfl, if_pos rfl] at h
      split at h
      · simp at h
      · rename_i h3
        split at h
        · rename_i h4; exact ⟨rfl, rfl, h3, h4⟩
        · simp at h

theorem errR_zero {D : DkD} {a b : ByteArray} (h : D.errR a b = 0) : D.on = true ∧ isNm a = true ∧ isNm b = true ∧ hasF D.files a = true := by
  unfold DkD.errR at h
  cases h1 : D.on <;> rw [h1] at h
  · simp at h
  · cases h2 : isNm a <;> cases h3 : isNm b <;> rw [h2, h3] at h
    · simp at h
    · simp at h
    · simp at h
    · cases h4 : hasF D.files a <;> rw [h4] at h
      · simp at h
      · exact ⟨rfl, rfl, rfl, rfl⟩

end Go.Proofs.YtjdigknhiopdeaaGreat
