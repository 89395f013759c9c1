/- A count, and so many texts behind it: what reading any bytes gives, by the document. No Go function is walked here. -/
import Derived.Test.YtickndnaejdanaaGreatDoorReaderAllJ
namespace Go.Proofs.YtickndnaejdanaaGreatDoor
open Go.RowKit
set_option maxRecDepth 8000

/-- A count: by the document (-1 where there is none). -/
def rdCnt (most : Int) (xs : List Int) (f : Int) : Rd :=
  if f ≠ 0 then ⟨-1, xs, f⟩ else if xs.length < 4 then ⟨-1, xs, 10⟩ else if ahead xs < 0 ∨ most < ahead xs then ⟨-1, xs, 11⟩
  else if (xs.length : Int) - 4 < ahead xs then ⟨-1, xs, 10⟩ else ⟨ahead xs, xs.drop 4, 0⟩

/-- What so many readings of a text of at most 8 bytes give: the texts, what is left, the fault. -/
def gs (xs : List Int) (f : Int) : Nat → List (List Int) × List Int × Int
  | 0 => ([], xs, f)
  | i + 1 => if (gs xs f i).2.2 ≠ 0 then gs xs f i else ((gs xs f i).1 ++ [(rdBuf 8 (gs xs f i).2.1 0).1], (rdBuf 8 (gs xs f i).2.1 0).2.rest, (rdBuf 8 (gs xs f i).2.1 0).2.fault)

theorem gs_stop {xs : List Int} {f : Int} {i : Nat} (h : (gs xs f i).2.2 ≠ 0) : ∀ n, gs xs f (i + n) = gs xs f i
  | 0 => rfl
  | n + 1 => by
    have ih := gs_stop h n
    rw [show i + (n + 1) = (i + n) + 1 from rfl, gs, ih, if_pos h]

theorem gs_next {xs : List Int} {f : Int} {i : Nat} (h : (gs xs f i).2.2 = 0) : gs xs f (i + 1) = ((gs xs f i).1 ++ [(rdBuf 8 (gs xs f i).2.1 0).1], (rdBuf 8 (gs xs f i).2.1 0).2.rest, (rdBuf 8 (gs xs f i).2.1 0).2.fault) := by
  rw [gs, if_neg (by simp [h])]

/-- What is left is an end of what was there. -/
theorem rdBuf_drop (most : Int) (xs : List Int) (f : Int) : ∃ k, (rdBuf most xs f).2.rest = xs.drop k := by
  unfold rdBuf
  split
  · exact ⟨0, rfl⟩
  · split
    · exact ⟨0, rfl⟩
    · split
      · exact ⟨0, rfl⟩
      · split
        · exact ⟨0, rfl⟩
        · exact ⟨4 + (ahead xs).toNat, by rw [List.drop_drop]⟩

theorem gs_drop (xs : List Int) (f : Int) : ∀ i, ∃ k, (gs xs f i).2.1 = xs.drop k
  | 0 => ⟨0, rfl⟩
  | i + 1 => by
    obtain ⟨k, hk⟩ := gs_drop xs f i
    rw [gs]
    split
    · exact ⟨k, hk⟩
    · obtain ⟨m, hm⟩ := rdBuf_drop 8 (gs xs f i).2.1 0
      exact ⟨k + m, by rw [hm, hk, List.drop_drop]⟩

theorem gs_len (xs : List Int) (f : Int) : ∀ i, (gs xs f i).1.length ≤ i
  | 0 => Nat.le_refl _
  | i + 1 => by
    have := gs_len xs f i
    rw [gs]
    split
    · omega
    · simp; omega

theorem gs_bytes {xs : List Int} (f : Int) (hb : Byts xs) (i : Nat) : Byts (gs xs f i).2.1 := by
  obtain ⟨k, hk⟩ := gs_drop xs f i
  rw [hk]
  exact fun x hx => hb x (List.mem_of_mem_drop hx)

/-- A list of texts of at most 8 bytes: what has been read, what is left, the fault. -/
def gl (most : Int) (xs : List Int) : List (List Int) × List Int × Int := gs (rdCnt most xs 0).rest (rdCnt most xs 0).fault (rdCnt most xs 0).out.toNat

/-- The list that is answered. -/
def glL (most : Int) (xs : List Int) : List (List Int) := if (gl most xs).2.2 = 0 then (gl most xs).1 else []

theorem gl_bad {most : Int} {xs : List Int} {f : Int} (h : rdCnt most xs 0 = ⟨-1, xs, f⟩) (hf : f ≠ 0) : gl most xs = ([], xs, f) ∧ glL most xs = [] := by
  have e : gl most xs = ([], xs, f) := by unfold gl; rw [h]; rfl
  exact ⟨e, by unfold glL; rw [e, if_neg hf]⟩

theorem gl_ok {most : Int} {xs : List Int} {n : Nat} (h : rdCnt most xs 0 = ⟨(n : Int), xs.drop 4, 0⟩) : gl most xs = gs (xs.drop 4) 0 n := by
  unfold gl; rw [h]; rfl

/-- A count by its four ways. -/
theorem rdCnt_ways (most : Int) (xs : List Int) : (xs.length < 4 ∧ rdCnt most xs 0 = ⟨-1, xs, 10⟩) ∨ (4 ≤ xs.length ∧ (ahead xs < 0 ∨ most < ahead xs) ∧ rdCnt most xs 0 = ⟨-1, xs, 11⟩) ∨ (4 ≤ xs.length ∧ 0 ≤ ahead xs ∧ ahead xs ≤ most ∧ (xs.length : Int) - 4 < ahead xs ∧ rdCnt most xs 0 = ⟨-1, xs, 10⟩) ∨ (4 ≤ xs.length ∧ 0 ≤ ahead xs ∧ ahead xs ≤ most ∧ ahead xs ≤ (xs.length : Int) - 4 ∧ rdCnt most xs 0 = ⟨ahead xs, xs.drop 4, 0⟩) := by
  unfold rdCnt
  rw [if_neg (by simp)]
  by_cases h1 : xs.length < 4
  · exact .inl ⟨h1, by rw [if_pos h1]⟩
  · rw [if_neg h1]
    by_cases h2 : ahead xs < 0 ∨ most < ahead xs
    · exact .inr (.inl ⟨by omega, h2, by rw [if_pos h2]⟩)
    · rw [if_neg h2]
      by_cases h3 : (xs.length : Int) - 4 < ahead xs
      · exact .inr (.inr (.inl ⟨by omega, by omega, by omega, h3, by rw [if_pos h3]⟩))
      · exact .inr (.inr (.inr ⟨by omega, by omega, by omega, by omega, by rw [if_neg h3]⟩))

/-- Readings that have no fault are as many as they should be. -/
theorem gs_full {xs : List Int} {f : Int} : ∀ {i : Nat}, (gs xs f i).2.2 = 0 → (gs xs f i).1.length = i
  | 0, _ => rfl
  | i + 1, h => by
    by_cases h0 : (gs xs f i).2.2 = 0
    · rw [gs_next h0]
      have := gs_full h0
      simp [this]
    · rw [gs, if_pos h0] at h
      exact absurd h h0

theorem gs_end {xs : List Int} {f : Int} {k n : Nat} (hk : k ≤ n) (h : k = n ∨ (gs xs f k).2.2 ≠ 0) : gs xs f n = gs xs f k := by
  rcases h with rfl | h
  · rfl
  · have := gs_stop h (n - k)
    rwa [show k + (n - k) = n by omega] at this

/-- Texts as values. -/
abbrev txV (l : List (List Int)) : List Value := l.map fun x => .string (strOfNums x)
end Go.Proofs.YtickndnaejdanaaGreatDoor
