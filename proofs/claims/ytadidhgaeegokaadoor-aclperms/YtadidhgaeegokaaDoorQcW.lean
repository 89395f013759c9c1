/- Permissions' texts: the program's and the document's answers are the same; there and back. -/
import Derived.Test.YtadidhgaeegokaaDoorQcV
namespace Go.Proofs.YtadidhgaeegokaaDoor
open Go.RowKit Go.Shelf
set_option maxRecDepth 8000

/-- The letter of a bit's place. -/
def ltr (j : Nat) : UInt8 := if j = 0 then 114 else if j = 1 then 119 else if j = 2 then 99 else if j = 3 then 100 else 97
/-- How many bits are set. -/
def popc (p : Nat) : Nat := p % 2 + p / 2 % 2 + p / 4 % 2 + p / 8 % 2 + p / 16 % 2

theorem bitB_ltr : ∀ j : Fin 5, bitB (ltr j.1) = 2 ^ j.1 := by decide
theorem bitB_five (b : UInt8) (h : bitB b ≠ 0) : ∃ j : Fin 5, b = ltr j.1 := by
  unfold bitB at h
  by_cases h0 : b.toNat = 99
  · exact ⟨2, UInt8.toNat_inj.1 h0⟩
  rw [if_neg h0] at h
  by_cases h1 : b.toNat = 100
  · exact ⟨3, UInt8.toNat_inj.1 h1⟩
  rw [if_neg h1] at h
  by_cases h2 : b.toNat = 114
  · exact ⟨0, UInt8.toNat_inj.1 h2⟩
  rw [if_neg h2] at h
  by_cases h3 : b.toNat = 119
  · exact ⟨1, UInt8.toNat_inj.1 h3⟩
  rw [if_neg h3] at h
  by_cases h4 : b.toNat = 97
  · exact ⟨4, UInt8.toNat_inj.1 h4⟩
  rw [if_neg h4] at h
  exact absurd rfl h

theorem ltr_inj : ∀ i j : Fin 5, ltr i.1 = ltr j.1 → i = j := by decide

theorem add_bit : ∀ (p : Fin 32) (s : Fin 5), p.1 / 2 ^ s.1 % 2 ≠ 1 → p.1 + 2 ^ s.1 < 32 ∧ popc (p.1 + 2 ^ s.1) = popc p.1 + 1 ∧ ∀ j : Fin 5, (p.1 + 2 ^ s.1) / 2 ^ j.1 % 2 = p.1 / 2 ^ j.1 % 2 + (if j = s then 1 else 0) := by decide +kernel

/-- What letters that are read make. -/
theorem ppF_some : ∀ (l : Bs) (p q : Nat), p < 32 → ppF l p = some q → q < 32 ∧ popc q = popc p + l.length ∧ ∀ j : Fin 5, q / 2 ^ j.1 % 2 = p / 2 ^ j.1 % 2 + l.count (ltr j.1)
  | [], p, q, hp, h => by
    cases h
    exact ⟨hp, rfl, fun j => rfl⟩
  | b :: t, p, q, hp, h => by
    rw [ppF] at h
    by_cases hb : bitB b = 0 ∨ p / bitB b % 2 = 1
    · rw [if_pos hb] at h; cases h
    rw [if_neg hb] at h
    obtain ⟨s, rfl⟩ := bitB_five b (fun e => hb (.inl e))
    rw [bitB_ltr] at hb h
    obtain ⟨a1, a2, a3⟩ := add_bit ⟨p, hp⟩ s (fun e => hb (.inr e))
    dsimp only at a1 a2 a3
    obtain ⟨c1, c2, c3⟩ := ppF_some t _ q a1 h
    refine ⟨c1, by rw [c2, a2, List.length_cons]; omega, fun j => ?_⟩
    rw [c3 j, a3 j, List.count_cons]
    by_cases hj : j = s
    · subst hj; simp; omega
    · rw [if_neg hj, if_neg (fun e => hj (ltr_inj s j (by simpa using e)).symm)]
      omega

/-- Letters, each once, are read. -/
theorem ppF_good : ∀ (l : Bs) (p : Nat), p < 32 → (∀ b, b ∈ l → bitB b ≠ 0) → (∀ j : Fin 5, l.count (ltr j.1) + p / 2 ^ j.1 % 2 ≤ 1) → ∃ q, ppF l p = some q
  | [], p, _, _, _ => ⟨p, rfl⟩
  | b :: t, p, hp, hl, hc => by
    obtain ⟨s, rfl⟩ := bitB_five b (hl b (List.mem_cons_self ..))
    have h0 := hc s
    rw [List.count_cons_self] at h0
    obtain ⟨a1, a2, a3⟩ := add_bit ⟨p, hp⟩ s (by dsimp only; omega)
    dsimp only at a1 a2 a3
    rw [ppF, bitB_ltr, if_neg (fun h => by
      rcases h with h | h
      · exact absurd h (Nat.ne_of_gt (Nat.two_pow_pos _))
      · omega)]
    refine ppF_good t _ a1 (fun b hb => hl b (List.mem_cons_of_mem _ hb)) (fun j => ?_)
    rw [a3 j]
    have h1 := hc j
    rw [List.count_cons] at h1
    by_cases hj : j = s
    · subst hj
      simp at h1 ⊢
      omega
    · rw [if_neg hj]
      omega

theorem ltr_is : ∀ s : Fin 5, (ltr s.1 == ltr 0) = decide (s = 0) ∧ (ltr s.1 == ltr 1) = decide (s = 1) ∧ (ltr s.1 == ltr 2) = decide (s = 2) ∧ (ltr s.1 == ltr 3) = decide (s = 3) ∧ (ltr s.1 == ltr 4) = decide (s = 4) := by decide

theorem count_all : ∀ l : Bs, l.count (ltr 0) + l.count (ltr 1) + l.count (ltr 2) + l.count (ltr 3) + l.count (ltr 4) + l.countP (fun b => bitB b == 0) = l.length
  | [] => rfl
  | b :: t => by
    have ih := count_all t
    simp only [List.count_cons, List.countP_cons, List.length_cons]
    by_cases hb : bitB b = 0
    · have hn : ∀ j : Fin 5, (b == ltr j.1) = false := fun j => by
        rw [beq_eq_false_iff_ne]
        intro e
        rw [e, bitB_ltr] at hb
        exact absurd hb (Nat.ne_of_gt (Nat.two_pow_pos _))
      have n0 := hn 0
      have n1 := hn 1
      have n2 := hn 2
      have n3 := hn 3
      have n4 := hn 4
      simp only [Fin.isValue, Fin.val_zero, Fin.val_one, Fin.val_two] at n0 n1 n2
      rw [show (b == ltr 0) = false from n0, show (b == ltr 1) = false from n1, show (b == ltr 2) = false from n2, show (b == ltr 3) = false from n3, show (b == ltr 4) = false from n4]
      simp [hb]
      omega
    · obtain ⟨s, rfl⟩ := bitB_five b hb
      have e0 : (bitB (ltr s.1) == 0) = false := by rw [beq_eq_false_iff_ne]; exact hb
      rw [e0, (ltr_is s).1, (ltr_is s).2.1, (ltr_is s).2.2.1, (ltr_is s).2.2.2.1, (ltr_is s).2.2.2.2]
      have hs : s = 0 ∨ s = 1 ∨ s = 2 ∨ s = 3 ∨ s = 4 := by omega
      rcases hs with rfl | rfl | rfl | rfl | rfl <;> simp <;> omega

theorem permL_fact : ∀ k : Fin 32, k.1 ≠ 0 → (permL k.1).length = popc k.1 ∧ (∀ j : Fin 5, k.1 / 2 ^ j.1 % 2 = 1 → ltr j.1 ∈ permL k.1) ∧ ∀ c ∈ permL k.1, ∃ j : Fin 5, c = ltr j.1 ∧ k.1 / 2 ^ j.1 % 2 = 1 := by decide +kernel

theorem bits_eq : ∀ k q : Fin 32, (∀ j : Fin 5, k.1 / 2 ^ j.1 % 2 = 1 → q.1 / 2 ^ j.1 % 2 = 1) → popc k.1 = popc q.1 → k = q := by decide +kernel

theorem mat_mem {f l : Bs} : mat f l = true ↔ f.length = l.length ∧ ∀ c, c ∈ f → l.count c = 1 := by
  unfold mat
  rw [Bool.and_eq_true, decide_eq_true_eq, List.all_eq_true]
  simp only [beq_iff_eq]

theorem mat_of_pp {l : Bs} {q : Nat} (h : ppF l 0 = some q) (h0 : q ≠ 0) : q < 32 ∧ mat (permL q) l = true := by
  obtain ⟨c1, c2, c3⟩ := ppF_some l 0 q (by omega) h
  obtain ⟨p1, p2, p3⟩ := permL_fact ⟨q, c1⟩ h0
  dsimp only at p1 p2 p3
  refine ⟨c1, mat_mem.2 ⟨by rw [p1, c2]; simp [popc], fun c hc => ?_⟩⟩
  obtain ⟨j, rfl, hj⟩ := p3 c hc
  have := c3 j
  simp only [Nat.zero_div, Nat.zero_mod, Nat.zero_add] at this
  omega

theorem pp_of_mat {l : Bs} {k : Nat} (hk : k < 32) (h0 : k ≠ 0) (h : mat (permL k) l = true) : ppF l 0 = some k := by
  obtain ⟨m1, m2⟩ := mat_mem.1 h
  obtain ⟨p1, p2, p3⟩ := permL_fact ⟨k, hk⟩ h0
  dsimp only at p1 p2 p3
  have hge : ∀ j : Fin 5, k / 2 ^ j.1 % 2 ≤ l.count (ltr j.1) := fun j => by
    by_cases hj : k / 2 ^ j.1 % 2 = 1
    · rw [m2 _ (p2 j hj)]; omega
    · omega
  have g0 := hge 0
  have g1 := hge 1
  have g2 := hge 2
  have g3 := hge 3
  have g4 := hge 4
  have hsum := count_all l
  have hp : popc k = k % 2 + k / 2 % 2 + k / 4 % 2 + k / 8 % 2 + k / 16 % 2 := rfl
  simp only [Fin.isValue, Fin.val_zero, Fin.val_one, Fin.val_two, Nat.pow_zero, Nat.div_one, Nat.pow_one] at g0 g1 g2
  replace g2 : k / 4 % 2 ≤ l.count (ltr 2) := g2
  replace g3 : k / 8 % 2 ≤ l.count (ltr 3) := g3
  replace g4 : k / 16 % 2 ≤ l.count (ltr 4) := g4
  replace g0 : k % 2 ≤ l.count (ltr 0) := g0
  replace g1 : k / 2 % 2 ≤ l.count (ltr 1) := g1
  have hz : l.countP (fun b => bitB b == 0) = 0 := by omega
  have e0 : l.count (ltr 0) = k % 2 := by omega
  have e1 : l.count (ltr 1) = k / 2 % 2 := by omega
  have e2 : l.count (ltr 2) = k / 4 % 2 := by omega
  have e3 : l.count (ltr 3) = k / 8 % 2 := by omega
  have e4 : l.count (ltr 4) = k / 16 % 2 := by omega
  obtain ⟨q, hq⟩ := ppF_good l 0 (by omega) (fun b hb e => by
    have := List.countP_eq_zero.1 hz b hb
    simp [e] at this) (fun j => by
    have hj : j = 0 ∨ j = 1 ∨ j = 2 ∨ j = 3 ∨ j = 4 := by omega
    rw [Nat.zero_div, Nat.zero_mod, Nat.add_zero]
    rcases hj with rfl | rfl | rfl | rfl | rfl
    · show l.count (ltr 0) ≤ 1; omega
    · show l.count (ltr 1) ≤ 1; omega
    · show l.count (ltr 2) ≤ 1; omega
    · show l.count (ltr 3) ≤ 1; omega
    · show l.count (ltr 4) ≤ 1; omega)
  obtain ⟨c1, c2, c3⟩ := ppF_some l 0 q (by omega) hq
  have : (⟨k, hk⟩ : Fin 32) = ⟨q, c1⟩ := bits_eq _ _ (fun j hj => by
    dsimp only at hj ⊢
    have := c3 j
    rw [m2 _ (p2 j hj)] at this
    simpa using this) (by dsimp only; rw [c2, ← m1, p1]; simp [popc])
  have e := congrArg Fin.val this
  dsimp only at e
  rw [hq, e]

theorem mat_zero {l : Bs} (h : mat (permL 0) l = true) : l = [45] := by
  obtain ⟨m1, m2⟩ := mat_mem.1 h
  have h2 := m2 45 (by decide)
  match l, m1 with
  | [b], _ =>
    by_cases e : b = 45
    · rw [e]
    · rw [List.count_cons, List.count_nil] at h2
      simp [e] at h2

theorem parse_same (l : Bs) : rpV l = ppV l := by
  by_cases hd : l = [45]
  · subst hd; kernel_rfl
  unfold rpV ppV
  rw [if_neg hd]
  have hno : ∀ j, j < 32 → ppF l 0 ≠ some j → mat (permL j) l = false := fun j hj hp => by
    cases hm : mat (permL j) l
    · rfl
    · by_cases hj0 : j = 0
      · subst hj0; exact absurd (mat_zero hm) hd
      · exact absurd (pp_of_mat hj hj0 hm) hp
  cases hp : ppF l 0 with
  | none =>
    have : firstM l (32 + 0) 0 = firstM l 0 (0 + 32) := firstM_skip l 32 0 0 (fun j hj => by rw [Nat.zero_add]; exact hno j hj (by rw [hp]; simp))
    rw [show firstM l 32 0 = none from this]
    split <;> rfl
  | some q =>
    cases q with
    | zero =>
      have hl : l = [] := by
        have := (ppF_some l 0 0 (by omega) hp).2.1
        exact List.length_eq_zero_iff.1 (by simpa [popc] using this.symm)
      have : firstM l (32 + 0) 0 = firstM l 0 (0 + 32) := firstM_skip l 32 0 0 (fun j hj => by
        rw [Nat.zero_add]
        by_cases hj0 : j = 0
        · subst hj0; rw [hl]; decide
        · exact hno j hj (by rw [hp]; simp; omega))
      rw [show firstM l 32 0 = none from this]
      split <;> rfl
    | succ q =>
      obtain ⟨c1, hm⟩ := mat_of_pp hp (by omega)
      have h5 : ¬ 5 < l.length := by
        have := (ppF_some l 0 _ (by omega) hp).2.1
        have h0 : popc 0 = 0 := rfl
        unfold popc at this h0
        omega
      have hf : firstM l 32 0 = some (q + 1) := by
        rw [show (32 : Nat) = (q + 1) + ((30 - q) + 1) by omega, firstM_skip l (q + 1) _ 0 (fun j hj => by rw [Nat.zero_add]; exact hno j (by omega) (by rw [hp]; simp; omega)), Nat.zero_add, firstM, if_pos hm]
      rw [if_neg h5, hf]

theorem back_pp : ∀ n : Fin 32, n.1 ≠ 0 → ppF (permL n.1) 0 = some n.1 ∧ permL n.1 ≠ [45] := by decide +kernel

theorem back_all {n : Nat} (h : n < 32) : ppV (permL n) = .tuple #[.int .i8 (n : Int), .int .i64 0] := by
  by_cases h0 : n = 0
  · subst h0; rfl
  · obtain ⟨h1, h2⟩ := back_pp ⟨n, h⟩ h0
    dsimp only at h1 h2
    unfold ppV
    rw [if_neg h2, h1]
    cases n with
    | zero => exact absurd rfl h0
    | succ m => rfl

theorem none_back : ppV [] = .tuple #[.int .i8 0, .int .i64 60] := rfl

end Go.Proofs.YtadidhgaeegokaaDoor
