/- Quorums as data: the weight of a set in each group, what a quorum is, and what follows; no Go function is walked here. -/
import Derived.WalkKit
import Derived.Laws.BitsLemmas
namespace Go.Proofs.Ytlnoighjdmjdeaa
open Go.RowKit
set_option maxRecDepth 8000

/-- The sum of the first ones. -/
def sumQ (f : Nat → Int) : Nat → Int
  | 0 => 0
  | n + 1 => sumQ f n + f n

theorem sumQ_le {f g : Nat → Int} {n : Nat} (h : ∀ i, i < n → f i ≤ g i) : sumQ f n ≤ sumQ g n := by
  induction n with
  | zero => exact Int.le_refl _
  | succ n ih =>
    have h1 := ih (fun i hi => h i (by omega))
    have h2 := h n (by omega)
    show sumQ f n + f n ≤ sumQ g n + g n
    omega
theorem sumQ_congr {f g : Nat → Int} {n : Nat} (h : ∀ i, i < n → f i = g i) : sumQ f n = sumQ g n :=
  Int.le_antisymm (sumQ_le fun i hi => Int.le_of_eq (h i hi)) (sumQ_le fun i hi => Int.le_of_eq (h i hi).symm)
theorem sumQ_zero (n : Nat) : sumQ (fun _ => 0) n = 0 := by
  induction n with
  | zero => rfl
  | succ n ih => show sumQ _ n + 0 = 0; rw [ih]; rfl
theorem sumQ_nonneg {f : Nat → Int} {n : Nat} (h : ∀ i, i < n → 0 ≤ f i) : 0 ≤ sumQ f n := by
  have := sumQ_le (f := fun _ => 0) h
  rwa [sumQ_zero] at this
theorem sumQ_most {f : Nat → Int} {n : Nat} (c : Int) (h : ∀ i, i < n → f i ≤ c) : sumQ f n ≤ n * c := by
  induction n with
  | zero => simp [sumQ]
  | succ n ih =>
    have h1 := ih (fun i hi => h i (by omega))
    have h2 := h n (by omega)
    show sumQ f n + f n ≤ _
    rw [Int.natCast_succ, Int.add_mul]
    omega
theorem sumQ_add (f g : Nat → Int) (n : Nat) : sumQ f n + sumQ g n = sumQ (fun i => f i + g i) n := by
  induction n with
  | zero => rfl
  | succ n ih => show sumQ f n + f n + (sumQ g n + g n) = sumQ _ n + (f n + g n); rw [← ih]; omega
theorem sumQ_pos {f : Nat → Int} {n : Nat} (h : ∀ i, i < n → 0 ≤ f i) {j : Nat} (hj : j < n) (hp : 0 < f j) : 0 < sumQ f n := by
  induction n with
  | zero => omega
  | succ n ih =>
    show 0 < sumQ f n + f n
    have h1 := sumQ_nonneg (fun i (hi : i < n) => h i (by omega))
    have h2 := h n (by omega)
    by_cases e : j = n
    · subst e; omega
    · have := ih (fun i hi => h i (by omega)) (by omega); omega
/-- Some one is more. -/
theorem sumQ_some {f g : Nat → Int} {n : Nat} (h : sumQ g n < sumQ f n) : ∃ i, i < n ∧ g i < f i :=
  Classical.byContradiction fun hn => absurd (sumQ_le (f := f) (g := g) fun i hi => by
    by_cases e : g i < f i
    · exact absurd ⟨i, hi, e⟩ hn
    · omega) (by omega)

/-- A system: servers, weights, groups. -/
structure SyD where
  n : Nat
  ws : Nat → Int
  gs : Nat → Nat

structure SyD.Good (D : SyD) : Prop where
  n1 : 1 ≤ D.n
  n7 : D.n ≤ 7
  w0 : ∀ i, 0 ≤ D.ws i
  w1 : ∀ i, D.ws i ≤ 100
  g6 : ∀ i, D.gs i ≤ 6
  one : ∃ i, i < D.n ∧ 0 < D.ws i

/-- The weight of a set's servers in a group, among the first k. -/
def SyD.part (D : SyD) (S : Nat → Bool) (g k : Nat) : Int := sumQ (fun i => if S i = true ∧ D.gs i = g then D.ws i else 0) k
/-- The weight of a group, among the first k. -/
def SyD.whole (D : SyD) (g k : Nat) : Int := sumQ (fun i => if D.gs i = g then D.ws i else 0) k
/-- How many groups count. -/
def SyD.cnt (D : SyD) (k : Nat) : Int := sumQ (fun g => if 0 < D.whole g D.n then 1 else 0) k
/-- How many groups a set holds. -/
def SyD.held (D : SyD) (S : Nat → Bool) (k : Nat) : Int := sumQ (fun g => if D.whole g D.n < 2 * D.part S g D.n then 1 else 0) k
/-- Is a set a quorum? -/
def SyD.has (D : SyD) (S : Nat → Bool) : Bool := decide (D.cnt 7 < 2 * D.held S 7)

theorem SyD.part_nonneg {D : SyD} (h : D.Good) (S : Nat → Bool) (g k : Nat) : 0 ≤ D.part S g k := sumQ_nonneg fun i _ => by
  have := h.w0 i
  split <;> omega
theorem SyD.part_le {D : SyD} (h : D.Good) (S : Nat → Bool) (g k : Nat) : D.part S g k ≤ D.whole g k := sumQ_le fun i _ => by
  have := h.w0 i
  by_cases e : D.gs i = g <;> simp [e] <;> split <;> omega
theorem SyD.whole_le {D : SyD} (h : D.Good) (g k : Nat) : D.whole g k ≤ k * 100 := sumQ_most 100 fun i _ => by
  have := h.w1 i
  split <;> omega
theorem SyD.whole_nonneg {D : SyD} (h : D.Good) (g k : Nat) : 0 ≤ D.whole g k := Int.le_trans (D.part_nonneg h (fun _ => false) g k) (D.part_le h _ g k)
theorem SyD.cnt_bounds (D : SyD) (k : Nat) : 0 ≤ D.cnt k ∧ D.cnt k ≤ k := by
  refine ⟨sumQ_nonneg fun i _ => by split <;> omega, ?_⟩
  have := sumQ_most (f := fun g => if 0 < D.whole g D.n then 1 else 0) (n := k) 1 (fun i _ => by split <;> omega)
  rw [Int.mul_one] at this
  exact this
theorem SyD.held_bounds (D : SyD) (S : Nat → Bool) (k : Nat) : 0 ≤ D.held S k ∧ D.held S k ≤ k := by
  refine ⟨sumQ_nonneg fun i _ => by split <;> omega, ?_⟩
  have := sumQ_most (f := fun g => if D.whole g D.n < 2 * D.part S g D.n then 1 else 0) (n := k) 1 (fun i _ => by split <;> omega)
  rw [Int.mul_one] at this
  exact this
theorem SyD.part_mono {D : SyD} (h : D.Good) {S T : Nat → Bool} (hs : ∀ i, i < D.n → S i = true → T i = true) (g : Nat) : D.part S g D.n ≤ D.part T g D.n := sumQ_le fun i hi => by
  have h0 := h.w0 i
  have h1 := hs i hi
  by_cases e : S i = true
  · rw [h1 e, e]; exact Int.le_refl _
  · rw [if_neg (fun q => e q.1)]; split <;> omega
/-- What holds a quorum is one. -/
theorem SyD.has_mono {D : SyD} (h : D.Good) {S T : Nat → Bool} (hs : ∀ i, i < D.n → S i = true → T i = true) (hh : D.has S = true) : D.has T = true := by
  have : D.held S 7 ≤ D.held T 7 := sumQ_le fun g _ => by
    have := D.part_mono h hs g
    split <;> split <;> omega
  unfold SyD.has at *
  simp at *
  omega
theorem SyD.has_congr {D : SyD} {S T : Nat → Bool} (hs : ∀ i, i < D.n → S i = T i) : D.has S = D.has T := by
  have : ∀ g, D.part S g D.n = D.part T g D.n := fun g => sumQ_congr fun i hi => by rw [hs i hi]
  have : D.held S 7 = D.held T 7 := sumQ_congr fun g _ => by rw [this]
  unfold SyD.has
  rw [this]
/-- Two quorums have a server in common that counts. -/
theorem SyD.meet {D : SyD} (h : D.Good) {A B : Nat → Bool} (ha : D.has A = true) (hb : D.has B = true) : ∃ i, i < D.n ∧ A i = true ∧ B i = true ∧ 0 < D.ws i := by
  unfold SyD.has at ha hb
  simp at ha hb
  have h1 : D.cnt 7 < sumQ (fun g => (if D.whole g D.n < 2 * D.part A g D.n then 1 else 0) + (if D.whole g D.n < 2 * D.part B g D.n then 1 else 0)) 7 := by
    rw [← sumQ_add]
    show D.cnt 7 < D.held A 7 + D.held B 7
    omega
  obtain ⟨g, _, hg⟩ := sumQ_some h1
  have pa := D.part_le h A g D.n
  have pb := D.part_le h B g D.n
  have p0 := D.whole_nonneg h g D.n
  have h2 : D.whole g D.n < D.part A g D.n + D.part B g D.n := by
    by_cases e1 : D.whole g D.n < 2 * D.part A g D.n
    · by_cases e2 : D.whole g D.n < 2 * D.part B g D.n
      · omega
      · rw [if_pos e1, if_neg e2, if_pos (by omega)] at hg; omega
    · by_cases e2 : D.whole g D.n < 2 * D.part B g D.n
      · rw [if_neg e1, if_pos e2, if_pos (by omega)] at hg; omega
      · rw [if_neg e1, if_neg e2] at hg; split at hg <;> omega
  unfold SyD.part at h2
  rw [sumQ_add] at h2
  obtain ⟨i, hi, hw⟩ := sumQ_some h2
  have w0 := h.w0 i
  refine ⟨i, hi, ?_⟩
  by_cases eg : D.gs i = g
  · by_cases ea : A i = true
    · by_cases eb : B i = true
      · refine ⟨ea, eb, ?_⟩
        rw [if_pos eg, if_pos ⟨ea, eg⟩, if_pos ⟨eb, eg⟩] at hw
        omega
      · rw [if_pos eg, if_pos ⟨ea, eg⟩, if_neg (fun q => eb q.1)] at hw; omega
    · rw [if_pos eg, if_neg (fun q => ea q.1)] at hw; split at hw <;> omega
  · rw [if_neg eg, if_neg (fun q => eg q.2), if_neg (fun q => eg q.2)] at hw; omega
theorem SyD.whole_pos {D : SyD} (h : D.Good) {i : Nat} (hi : i < D.n) (hw : 0 < D.ws i) : 0 < D.whole (D.gs i) D.n :=
  sumQ_pos (fun j _ => by have := h.w0 j; split <;> omega) hi (by rw [if_pos rfl]; exact hw)
theorem SyD.cnt_pos {D : SyD} (h : D.Good) : 0 < D.cnt 7 := by
  obtain ⟨i, hi, hw⟩ := h.one
  exact sumQ_pos (fun j _ => by split <;> omega) (show D.gs i < 7 by have := h.g6 i; omega) (by rw [if_pos (D.whole_pos h hi hw)]; omega)
theorem SyD.has_all {D : SyD} (h : D.Good) {S : Nat → Bool} (hs : ∀ i, i < D.n → S i = true) : D.has S = true := by
  have h1 : ∀ g, D.part S g D.n = D.whole g D.n := fun g => sumQ_congr fun i hi => by rw [hs i hi]; simp
  have h2 : D.held S 7 = D.cnt 7 := sumQ_congr fun g _ => by
    rw [h1]
    by_cases e : 0 < D.whole g D.n
    · rw [if_pos e, if_pos (by omega)]
    · rw [if_neg e, if_neg (by omega)]
  have := D.cnt_pos h
  unfold SyD.has
  simp
  omega
theorem SyD.has_none {D : SyD} (h : D.Good) {S : Nat → Bool} (hs : ∀ i, i < D.n → S i = false) : D.has S = false := by
  cases e : D.has S with
  | false => rfl
  | true =>
    obtain ⟨i, hi, ha, _⟩ := D.meet h e e
    rw [hs i hi] at ha
    cases ha

/-- Is a set a least quorum, as the program asks? -/
def SyD.lst (D : SyD) (S : Nat → Bool) : Nat → Bool
  | 0 => true
  | k + 1 => D.lst S k && !(S k && D.has (fun j => S j && j != k))
def SyD.least (D : SyD) (S : Nat → Bool) : Bool := D.has S && D.lst S D.n
theorem SyD.lst_iff (D : SyD) (S : Nat → Bool) (k : Nat) : D.lst S k = true ↔ ∀ i, i < k → S i = true → D.has (fun j => S j && j != i) = false := by
  induction k with
  | zero => simp [SyD.lst]
  | succ k ih =>
    show (D.lst S k && _) = true ↔ _
    rw [Bool.and_eq_true, ih]
    constructor
    · rintro ⟨h1, h2⟩ i hi hs
      by_cases e : i = k
      · subst e; rw [hs] at h2; simpa using h2
      · exact h1 i (by omega) hs
    · intro h1
      refine ⟨fun i hi => h1 i (by omega), ?_⟩
      cases e : S k with
      | false => rfl
      | true => have := h1 k (by omega) e; rw [this]; rfl

/-- The server of a set of bits that is left out. -/
def delB (S i : Nat) : Nat := S &&& (255 ^^^ 2 ^ i)
theorem delB_bit {S i : Nat} (hS : S < 256) (j : Nat) : (delB S i).testBit j = (S.testBit j && j != i) := by
  unfold delB
  rw [Nat.testBit_and, Nat.testBit_xor, show (255 : Nat) = 2 ^ 8 - 1 from rfl, Nat.testBit_two_pow_sub_one, Nat.testBit_two_pow]
  by_cases e : j < 8
  · by_cases e2 : i = j
    · subst e2; simp [e]
    · have : ¬ j = i := fun q => e2 q.symm
      simp [e, e2, this]
  · have : S.testBit j = false := Nat.testBit_lt_two_pow (Nat.lt_of_lt_of_le hS (show 256 ≤ 2 ^ j by rw [show (256 : Nat) = 2 ^ 8 from rfl]; exact Nat.pow_le_pow_right (by omega) (by omega)))
    rw [this]; simp
theorem delB_lt {S i : Nat} (hS : S < 256) : delB S i < 256 := Nat.lt_of_le_of_lt Nat.and_le_left hS
theorem delB_less {S i : Nat} (h : S.testBit i = true) (hS : S < 256) : delB S i < S := by
  have h1 : delB S i ≤ S := Nat.and_le_left
  have h2 : delB S i ≠ S := fun e => by
    have := delB_bit (i := i) hS i
    rw [e, h] at this
    simp at this
  omega

/-- Each quorum holds a least one. -/
theorem SyD.has_least {D : SyD} {S : Nat} (hS : S < 128) (hh : D.has S.testBit = true) : ∃ t, t < 128 ∧ t &&& S = t ∧ D.least t.testBit = true := by
  induction S using Nat.strongRecOn with
  | ind S ih =>
    cases hl : D.lst S.testBit D.n with
    | true => exact ⟨S, hS, Nat.and_self S, by unfold SyD.least; rw [hh, hl]; rfl⟩
    | false =>
      have : ¬ D.lst S.testBit D.n = true := by rw [hl]; simp
      rw [D.lst_iff] at this
      obtain ⟨i, hi⟩ := Classical.not_forall.1 this
      obtain ⟨hi1, hi2⟩ := Classical.not_imp.1 hi
      obtain ⟨hi2, hi3⟩ := Classical.not_imp.1 hi2
      have hd : D.has (delB S i).testBit = true := by
        rw [D.has_congr (T := fun j => S.testBit j && j != i) (fun j _ => delB_bit (by omega) j)]
        revert hi3
        cases D.has (fun j => S.testBit j && j != i) <;> simp
      have hlt := delB_less hi2 (show S < 256 by omega)
      obtain ⟨t, t1, t2, t3⟩ := ih (delB S i) hlt (by omega) hd
      refine ⟨t, t1, ?_, t3⟩
      have e2 : delB S i &&& S = delB S i := by
        unfold delB
        rw [Nat.and_comm, ← Nat.and_assoc, Nat.and_self]
      rw [← t2, Nat.and_assoc, e2]

end Go.Proofs.Ytlnoighjdmjdeaa
