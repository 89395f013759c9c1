/- What the document's Point and Good answer. -/
import Derived.Test.YtgdbcdddcejehaaPaUJ
namespace Go.Proofs.Ytgdbcdddcejehaa
open Go.RowKit Go.Shelf
set_option maxRecDepth 8000

/-- A byte of a text as a number. -/
def bn (l : Bs) (k : Nat) : Nat := (l.getD k 0).toNat
theorem bn_lt (l : Bs) (k : Nat) : bn l k < 256 := (l.getD k 0).toNat_lt

/-- A byte that goes on with a code point. -/
def Goes (l : Bs) (k : Nat) : Prop := k < l.length ∧ 128 ≤ bn l k ∧ bn l k ≤ 191

/-- The number that the first j bytes make, the first one's part being c. -/
def accI (l : Bs) (c : Int) : Nat → Int
  | 0 => c
  | k + 1 => 64 * accI l c k + (bn l (k + 1) : Int) - 128

theorem cont_goes (l : Bs) (k : Nat) : (decide (k < l.length) && (l.getD k 0).toNat / 64 == 2) = true ↔ Goes l k := by
  unfold Goes bn
  simp only [Bool.and_eq_true, decide_eq_true_eq, beq_iff_eq]
  have := (l.getD k 0).toNat_lt
  omega

theorem dec_low (l : Bs) (h : bn l 0 < 128) : dec l = (bn l 0, 1) := by
  unfold bn at *
  unfold dec
  simp only
  rw [if_pos h]

theorem dec_bad (l : Bs) (h0 : 128 ≤ bn l 0) (h1 : bn l 0 < 192 ∨ 248 ≤ bn l 0) : dec l = (65533, 1) := by
  unfold bn at *
  unfold dec
  simp only
  have a1 : ¬ (l.getD 0 0).toNat / 32 = 6 := by omega
  have a2 : ¬ (l.getD 0 0).toNat / 16 = 14 := by omega
  have a3 : ¬ (l.getD 0 0).toNat / 8 = 30 := by omega
  rw [if_neg (by omega)]
  simp only [beq_eq_false_iff_ne.2 a1, beq_eq_false_iff_ne.2 a2, beq_eq_false_iff_ne.2 a3, Bool.false_and]
  simp

theorem dec_stop (l : Bs) (n : Nat) (hn : (n = 2 ∧ 192 ≤ bn l 0 ∧ bn l 0 < 224) ∨ (n = 3 ∧ 224 ≤ bn l 0 ∧ bn l 0 < 240) ∨ (n = 4 ∧ 240 ≤ bn l 0 ∧ bn l 0 < 248)) (j : Nat) (h1 : 1 ≤ j) (h2 : j < n) (hj : ¬ Goes l j) : dec l = (65533, 1) := by
  have hc := fun k => cont_goes l k
  unfold bn at hn
  unfold dec
  simp only
  rw [if_neg (by omega)]
  have hf : ∀ k, ¬ Goes l k → (decide (k < l.length) && (l.getD k 0).toNat / 64 == 2) = false := fun k h => by
    cases e : (decide (k < l.length) && (l.getD k 0).toNat / 64 == 2) with
    | true => exact absurd ((hc k).1 e) h
    | false => rfl
  rcases hn with ⟨rfl, g1, g2⟩ | ⟨rfl, g1, g2⟩ | ⟨rfl, g1, g2⟩
  · have : j = 1 := by omega
    subst this
    have a2 : ¬ (l.getD 0 0).toNat / 16 = 14 := by omega
    have a3 : ¬ (l.getD 0 0).toNat / 8 = 30 := by omega
    rw [hf 1 hj]
    simp only [beq_eq_false_iff_ne.2 a2, beq_eq_false_iff_ne.2 a3, Bool.false_and, Bool.and_false]
    simp
  · have a1 : ¬ (l.getD 0 0).toNat / 32 = 6 := by omega
    have a3 : ¬ (l.getD 0 0).toNat / 8 = 30 := by omega
    have : j = 1 ∨ j = 2 := by omega
    rcases this with rfl | rfl
    · rw [hf 1 hj]
      simp only [beq_eq_false_iff_ne.2 a1, beq_eq_false_iff_ne.2 a3, Bool.false_and, Bool.and_false]
      simp
    · rw [hf 2 hj]
      simp only [beq_eq_false_iff_ne.2 a1, beq_eq_false_iff_ne.2 a3, Bool.false_and, Bool.and_false]
      simp
  · have a1 : ¬ (l.getD 0 0).toNat / 32 = 6 := by omega
    have a2 : ¬ (l.getD 0 0).toNat / 16 = 14 := by omega
    have : j = 1 ∨ j = 2 ∨ j = 3 := by omega
    rcases this with rfl | rfl | rfl
    · rw [hf 1 hj]
      simp only [beq_eq_false_iff_ne.2 a1, beq_eq_false_iff_ne.2 a2, Bool.false_and, Bool.and_false]
      simp
    · rw [hf 2 hj]
      simp only [beq_eq_false_iff_ne.2 a1, beq_eq_false_iff_ne.2 a2, Bool.false_and, Bool.and_false]
      simp
    · rw [hf 3 hj]
      simp only [beq_eq_false_iff_ne.2 a1, beq_eq_false_iff_ne.2 a2, Bool.false_and, Bool.and_false]
      simp

theorem dec_goes (l : Bs) (n : Nat) (c0 least : Int) (hn : (n = 2 ∧ 192 ≤ bn l 0 ∧ bn l 0 < 224 ∧ c0 = bn l 0 - 192 ∧ least = 128) ∨ (n = 3 ∧ 224 ≤ bn l 0 ∧ bn l 0 < 240 ∧ c0 = bn l 0 - 224 ∧ least = 2048) ∨ (n = 4 ∧ 240 ≤ bn l 0 ∧ bn l 0 < 248 ∧ c0 = bn l 0 - 240 ∧ least = 65536))
    (hg : ∀ j, 1 ≤ j → j < n → Goes l j) :
    ((accI l c0 (n - 1) < least ∨ accI l c0 (n - 1) > 1114111 ∨ (55296 ≤ accI l c0 (n - 1) ∧ accI l c0 (n - 1) ≤ 57343)) → dec l = (65533, 1)) ∧
    (¬ (accI l c0 (n - 1) < least ∨ accI l c0 (n - 1) > 1114111 ∨ (55296 ≤ accI l c0 (n - 1) ∧ accI l c0 (n - 1) ≤ 57343)) → ((dec l).1 : Int) = accI l c0 (n - 1) ∧ (dec l).2 = n) := by
  have hc := fun k (h : Goes l k) => (cont_goes l k).2 h
  unfold bn at hn
  rcases hn with ⟨rfl, g1, g2, rfl, rfl⟩ | ⟨rfl, g1, g2, rfl, rfl⟩ | ⟨rfl, g1, g2, rfl, rfl⟩
  · have d1 := hg 1 (by omega) (by omega)
    have e1 := hc 1 d1
    unfold Goes at d1
    have a1 : ((l.getD 0 0).toNat / 32 == 6) = true := by rw [beq_iff_eq]; omega
    have ha : accI l ((l.getD 0 0).toNat - 192) (2 - 1) = (((l.getD 0 0).toNat % 32 * 64 + (l.getD 1 0).toNat % 64 : Nat) : Int) := by
      unfold bn at d1; simp only [accI, bn, Nat.zero_add]; omega
    rw [ha]
    unfold dec
    simp only [e1, a1, Bool.and_self, if_true]
    rw [if_neg (by omega)]
    constructor
    · intro h
      rw [if_neg (by omega)]
    · intro h
      rw [if_pos (by omega)]
      exact ⟨rfl, rfl⟩
  · have d1 := hg 1 (by omega) (by omega)
    have d2 := hg 2 (by omega) (by omega)
    have e1 := hc 1 d1
    have e2 := hc 2 d2
    unfold Goes at d1 d2
    have a0 : ((l.getD 0 0).toNat / 32 == 6) = false := by rw [beq_eq_false_iff_ne]; omega
    have a1 : ((l.getD 0 0).toNat / 16 == 14) = true := by rw [beq_iff_eq]; omega
    have ha : accI l ((l.getD 0 0).toNat - 224) (3 - 1) = (((l.getD 0 0).toNat % 16 * 4096 + (l.getD 1 0).toNat % 64 * 64 + (l.getD 2 0).toNat % 64 : Nat) : Int) := by
      unfold bn at d1 d2; simp only [accI, bn, Nat.zero_add, Nat.reduceAdd]; omega
    rw [ha]
    unfold dec
    simp only [e1, e2, a0, a1, Bool.and_self, Bool.false_and, if_true, Bool.false_eq_true, if_false]
    rw [if_neg (by omega)]
    generalize (l.getD 0 0).toNat % 16 * 4096 + (l.getD 1 0).toNat % 64 * 64 + (l.getD 2 0).toNat % 64 = c
    constructor
    · intro h
      rw [if_neg]
      simp only [Utf8.valid, Bool.and_eq_true, Bool.or_eq_true, decide_eq_true_eq]
      omega
    · intro h
      rw [if_pos]
      · exact ⟨rfl, rfl⟩
      · simp only [Utf8.valid, Bool.and_eq_true, Bool.or_eq_true, decide_eq_true_eq]
        omega
  · have d1 := hg 1 (by omega) (by omega)
    have d2 := hg 2 (by omega) (by omega)
    have d3 := hg 3 (by omega) (by omega)
    have e1 := hc 1 d1
    have e2 := hc 2 d2
    have e3 := hc 3 d3
    unfold Goes at d1 d2 d3
    have a0 : ((l.getD 0 0).toNat / 32 == 6) = false := by rw [beq_eq_false_iff_ne]; omega
    have a1 : ((l.getD 0 0).toNat / 16 == 14) = false := by rw [beq_eq_false_iff_ne]; omega
    have a2 : ((l.getD 0 0).toNat / 8 == 30) = true := by rw [beq_iff_eq]; omega
    have ha : accI l ((l.getD 0 0).toNat - 240) (4 - 1) = (((l.getD 0 0).toNat % 8 * 262144 + (l.getD 1 0).toNat % 64 * 4096 + (l.getD 2 0).toNat % 64 * 64 + (l.getD 3 0).toNat % 64 : Nat) : Int) := by
      unfold bn at d1 d2 d3; simp only [accI, bn, Nat.zero_add, Nat.reduceAdd]; omega
    rw [ha]
    unfold dec
    simp only [e1, e2, e3, a0, a1, a2, Bool.and_self, Bool.false_and, if_true, Bool.false_eq_true, if_false]
    rw [if_neg (by omega)]
    generalize (l.getD 0 0).toNat % 8 * 262144 + (l.getD 1 0).toNat % 64 * 4096 + (l.getD 2 0).toNat % 64 * 64 + (l.getD 3 0).toNat % 64 = c
    constructor
    · intro h
      rw [if_neg]
      simp only [Utf8.valid, Bool.and_eq_true, Bool.or_eq_true, decide_eq_true_eq]
      omega
    · intro h
      rw [if_pos]
      · exact ⟨rfl, rfl⟩
      · simp only [Utf8.valid, Bool.and_eq_true, Bool.or_eq_true, decide_eq_true_eq]
        omega

end Go.Proofs.Ytgdbcdddcejehaa
