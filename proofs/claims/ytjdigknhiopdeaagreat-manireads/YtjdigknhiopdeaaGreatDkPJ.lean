/- A disk's files as data: names in their order, where a name lies, files put in and taken out. -/
import Derived.Test.YtjdigknhiopdeaaGreatBaseJ
import Derived.Lib.Bytealg
namespace Go.Proofs.YtjdigknhiopdeaaGreat
open Go.RowKit

/-- How two names stand to each other. -/
abbrev ncmp (a b : ByteArray) : Int := Lib.compareBytes a.data.toList b.data.toList

theorem cmpB_range : ∀ (a b : List UInt8), Lib.compareBytes a b = -1 ∨ Lib.compareBytes a b = 0 ∨ Lib.compareBytes a b = 1
  | [], [] => by simp [Lib.compareBytes]
  | [], _ :: _ => by simp [Lib.compareBytes]
  | _ :: _, [] => by simp [Lib.compareBytes]
  | a :: ax, b :: bs => by
    unfold Lib.compareBytes
    split
    · simp
    · split
      · simp
      · exact cmpB_range ax bs

theorem cmpB_eq : ∀ (a b : List UInt8), Lib.compareBytes a b = 0 ↔ a = b
  | [], [] => by simp [Lib.compareBytes]
  | [], _ :: _ => by simp [Lib.compareBytes]
  | _ :: _, [] => by simp [Lib.compareBytes]
  | a :: ax, b :: bs => by
    unfold Lib.compareBytes
    split
    · rename_i h; simp; intro e; subst e; exact absurd h (UInt8.lt_irrefl _)
    · split
      · rename_i h; simp; intro e; subst e; exact absurd h (UInt8.lt_irrefl _)
      · rename_i h1 h2
        rw [cmpB_eq ax bs]
        have : a = b := UInt8.le_antisymm (UInt8.not_lt.1 h2) (UInt8.not_lt.1 h1)
        simp [this]

theorem cmpB_flip : ∀ (a b : List UInt8), Lib.compareBytes a b = -Lib.compareBytes b a
  | [], [] => by simp [Lib.compareBytes]
  | [], _ :: _ => by simp [Lib.compareBytes]
  | _ :: _, [] => by simp [Lib.compareBytes]
  | a :: ax, b :: bs => by
    unfold Lib.compareBytes
    by_cases h1 : a < b
    · have h2 : ¬ b < a := UInt8.not_lt.2 (UInt8.le_of_lt h1)
      rw [if_pos h1, if_neg h2, if_pos h1]
    · by_cases h2 : b < a
      · rw [if_neg h1, if_pos h2, if_pos h2]; rfl
      · rw [if_neg h1, if_neg h2, if_neg h2, if_neg h1]; exact cmpB_flip ax bs

theorem cmpB_trans : ∀ (a b c : List UInt8), Lib.compareBytes a b < 0 → Lib.compareBytes b c < 0 → Lib.compareBytes a c < 0
  | [], b, [], h1, h2 => by cases b <;> simp [Lib.compareBytes] at *
  | [], _, _ :: _, _, _ => by simp [Lib.compareBytes]
  | _ :: _, [], _, h1, _ => by simp [Lib.compareBytes] at h1
  | _ :: _, _ :: _, [], _, h2 => by simp [Lib.compareBytes] at h2
  | a :: ax, b :: bs, c :: cs, h1, h2 => by
    unfold Lib.compareBytes at *
    by_cases hab : a < b
    · by_cases hbc : b < c
      · rw [if_pos (UInt8.lt_trans hab hbc)]; decide
      · rw [if_neg hbc] at h2
        by_cases hcb : c < b
        · rw [if_pos hcb] at h2; simp at h2
        · have e : b = c := UInt8.le_antisymm (UInt8.not_lt.1 hcb) (UInt8.not_lt.1 hbc)
          subst e
          rw [if_pos hab]; decide
    · rw [if_neg hab] at h1
      by_cases hba : b < a
      · rw [if_pos hba] at h1; simp at h1
      · have e : a = b := UInt8.le_antisymm (UInt8.not_lt.1 hba) (UInt8.not_lt.1 hab)
        subst e
        rw [if_neg hba] at h1
        by_cases hbc : a < c
        · rw [if_pos hbc]; decide
        · rw [if_neg hbc] at h2 ⊢
          by_cases hcb : c < a
          · rw [if_pos hcb] at h2; simp at h2
          · rw [if_neg hcb] at h2 ⊢
            exact cmpB_trans ax bs cs h1 h2

theorem ncmp_eq (a b : ByteArray) : ncmp a b = 0 ↔ a = b := by
  unfold ncmp
  rw [cmpB_eq]
  constructor
  · intro h; cases a; cases b; simpa using h
  · intro h; rw [h]

/-- A file, as data. -/
structure FiD where
  name : ByteArray
  bytes : List Int
  dur : Int

/-- The names rise. -/
def Rise (fs : List FiD) : Prop := fs.Pairwise (fun a b => ncmp a.name b.name < 0)

/-- How many files have lesser names. -/
def pl (fs : List FiD) (n : ByteArray) : Nat := (fs.takeWhile (fun f => decide (ncmp f.name n < 0))).length

theorem pl_le (fs : List FiD) (n : ByteArray) : pl fs n ≤ fs.length := by
  unfold pl
  exact (List.takeWhile_sublist _).length_le

theorem pl_cons (f : FiD) (fs : List FiD) (n : ByteArray) : pl (f :: fs) n = if ncmp f.name n < 0 then pl fs n + 1 else 0 := by
  unfold pl
  rw [List.takeWhile_cons]
  split <;> rename_i h <;> simp at h <;> simp [h]

theorem pl_iff {fs : List FiD} (hr : Rise fs) (n : ByteArray) (k : Nat) (hk : k < fs.length) : ncmp fs[k].name n < 0 ↔ k < pl fs n := by
  induction fs generalizing k with
  | nil => simp at hk
  | cons f fs ih =>
    obtain ⟨h1, h2⟩ := List.pairwise_cons.1 hr
    rw [pl_cons]
    cases k with
    | zero =>
      simp only [List.getElem_cons_zero]
      split <;> rename_i h <;> simp [h]
    | succ k =>
      simp only [List.getElem_cons_succ]
      simp at hk
      split
      · rw [ih h2 k hk]; omega
      · rename_i h
        constructor
        · intro h3
          exact absurd (cmpB_trans _ _ _ (h1 fs[k] (List.getElem_mem hk)) h3) h
        · intro h3; omega

/-- Is there such a file? -/
def hasF (fs : List FiD) (n : ByteArray) : Bool := decide (∃ h : pl fs n < fs.length, fs[pl fs n].name = n)

theorem hasF_iff (fs : List FiD) (n : ByteArray) : hasF fs n = true ↔ ∃ h : pl fs n < fs.length, fs[pl fs n].name = n := by
  unfold hasF; simp

theorem rise_insert {fs : List FiD} (hr : Rise fs) (f : FiD) (hn : hasF fs f.name = false) : Rise (fs.take (pl fs f.name) ++ f :: fs.drop (pl fs f.name)) := by
  have hle := pl_le fs f.name
  have hlo : ∀ a ∈ fs.take (pl fs f.name), ncmp a.name f.name < 0 := fun a ha => by
    obtain ⟨k, hk, rfl⟩ := List.getElem_of_mem ha
    have hk' : k < pl fs f.name := by rw [List.length_take] at hk; omega
    rw [List.getElem_take]
    exact (pl_iff hr f.name k (by omega)).2 hk'
  have hhi : ∀ a ∈ fs.drop (pl fs f.name), ncmp f.name a.name < 0 := fun a ha => by
    obtain ⟨k, hk, rfl⟩ := List.getElem_of_mem ha
    rw [List.length_drop] at hk
    rw [List.getElem_drop]
    have h1 : ¬ ncmp fs[pl fs f.name + k].name f.name < 0 := fun e => by have := (pl_iff hr f.name _ (by omega)).1 e; omega
    have h2 : ncmp fs[pl fs f.name + k].name f.name ≠ 0 := fun e => by
      have e := (ncmp_eq _ _).1 e
      cases k with
      | zero =>
        have : hasF fs f.name = true := (hasF_iff _ _).2 ⟨by omega, e⟩
        rw [hn] at this; cases this
      | succ k =>
        have h3 := List.pairwise_iff_getElem.1 hr (pl fs f.name) (pl fs f.name + (k + 1)) (by omega) (by omega) (by omega)
        rw [e] at h3
        have := (pl_iff hr f.name _ (by omega)).1 h3
        omega
    have h3 := cmpB_range fs[pl fs f.name + k].name.data.toList f.name.data.toList
    have h4 := cmpB_flip f.name.data.toList fs[pl fs f.name + k].name.data.toList
    unfold ncmp at h1 h2 ⊢
    omega
  unfold Rise
  rw [List.pairwise_append]
  refine ⟨hr.sublist (List.take_sublist _ _), List.pairwise_cons.2 ⟨hhi, hr.sublist (List.drop_sublist _ _)⟩, fun a ha b hb => ?_⟩
  rcases List.mem_cons.1 hb with rfl | hb
  · exact hlo a ha
  · exact cmpB_trans _ _ _ (hlo a ha) (hhi b hb)

theorem rise_erase {fs : List FiD} (hr : Rise fs) (k : Nat) : Rise (fs.eraseIdx k) := hr.sublist (List.eraseIdx_sublist _ _)

end Go.Proofs.YtjdigknhiopdeaaGreat
