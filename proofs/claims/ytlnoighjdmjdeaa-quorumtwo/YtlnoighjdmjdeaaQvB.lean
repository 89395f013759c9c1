/- What the document's Has and Least answer. -/
import Derived.Test.YtlnoighjdmjdeaaQvA
namespace Go.Proofs.Ytlnoighjdmjdeaa
open Go.RowKit Go.Shelf
set_option maxRecDepth 8000

theorem part_255 (D : SyD) (hD : D.Good) (g : Nat) : D.part (255 : Nat).testBit g D.n = D.whole g D.n := sumQ_congr fun i hi => by
  have := hD.n7
  rw [show (255 : Nat) = 2 ^ 8 - 1 from rfl, Nat.testBit_two_pow_sub_one, decide_eq_true (show i < 8 by omega)]
  simp

theorem refHas20 {w : World} {r : Nat} {ws gs : List Int} (h : IsDs w r ws gs) (ok : NewOk ws gs) {S : Nat} (hS : S < 256) : Calls Try.prog 23 #[.pointer (some ⟨r, 0, none⟩), .int .u8 (S : Int)] w fun e w' => e = .returned (.bool ((syD ws gs).has S.testBit)) ∧ w' = w := by
  have HD : Hid (syD ws gs).Good := ok.good
  have HA : Hid (∀ g : Nat, Calls Try.prog 42 #[.pointer (some ⟨r, 0, none⟩), .int .u8 255, .int .i64 (g : Int)] w fun e w' => e = .returned (.int .i64 ((syD ws gs).whole g (syD ws gs).n)) ∧ w' = w) := fun g => by
    have := weight20 h ok (S := 255) (g := g) (by decide)
    rw [show ws.length = (syD ws gs).n from rfl, part_255 _ ok.good] at this
    exact this
  have HP : Hid (∀ g : Nat, Calls Try.prog 42 #[.pointer (some ⟨r, 0, none⟩), .int .u8 (S : Int), .int .i64 (g : Int)] w fun e w' => e = .returned (.int .i64 ((syD ws gs).part S.testBit g (syD ws gs).n)) ∧ w' = w) := fun g => weight20 h ok hS
  clear h ok
  generalize syD ws gs = D at *
  obtain ⟨val, hval⟩ : ∃ val, val = D.has S.testBit := ⟨_, rfl⟩
  rw [← hval]
  have HV : Hid (val = D.has S.testBit) := hval
  clear hval
  go_enter Try.func23, Try.ntmps23
  go_wp2
  go_loopw [5, 6, 7] (fun v5 v6 vk wr => ∃ k : Nat, k ≤ 7 ∧ v5 = .int .i64 (D.held S.testBit k) ∧ v6 = .int .i64 (D.cnt k) ∧ vk = .int .i64 (k : Int) ∧ Hid (wr = w)) (fun _ _ vk _ => 7 - (intOf vk).toNat)
  case atStart => exact ⟨0, by omega, rfl, rfl, rfl, rfl⟩
  case round =>
    obtain ⟨k, hk, rfl, rfl, rfl, HE⟩ := hrel
    rw [HE.out]
    clear HE
    have hC := D.cnt_bounds k
    have hH := D.held_bounds S.testBit k
    have sC := D.cnt_step k
    have sH := D.held_step S.testBit k
    by_cases hk7 : k < 7
    · have hi0 : (0 : Int) ≤ (k : Int) := by omega
      have hi7 : (k : Int) < 7 := by omega
      have b0 := D.part_nonneg HD.out S.testBit k D.n
      have b1 := D.part_le HD.out S.testBit k D.n
      have b2 := D.whole_le HD.out k D.n
      have b3 := HD.out.n7
      have b5 : D.whole k D.n ≤ 700 := by omega
      have HAk := HA.out k
      have HPk := HP.out k
      clear b2 b3
      generalize D.part S.testBit k D.n = x at *
      generalize D.whole k D.n = y at *
      generalize D.cnt k = C at *
      generalize D.held S.testBit k = H at *
      by_cases e1 : 0 < y
      · have HC : Hid (Value.int .i64 (C + 1) = .int .i64 (D.cnt (k + 1))) := by show _ = _; rw [sC, if_pos e1]
        by_cases e2 : y < 2 * x
        · have HH : Hid (Value.int .i64 (H + 1) = .int .i64 (D.held S.testBit (k + 1))) := by show _ = _; rw [sH, if_pos e2]
          clear sC sH
          go_wp2_with fail
          refine Calls.mono HAk ?_
          rintro e w1 ⟨rfl, rfl⟩
          go_wp2_with fail
          refine Calls.mono HPk ?_
          rintro e w1 ⟨rfl, rfl⟩
          clear HAk HPk
          go_wp2
          go_roundw
          case rel => exact ⟨k + 1, by omega, HH.out, HC.out, by simp, trivial⟩
          case measure => simp [intOf]; omega
        · have HH : Hid (Value.int .i64 H = .int .i64 (D.held S.testBit (k + 1))) := by show _ = _; rw [sH, if_neg e2, Int.add_zero]
          clear sC sH
          go_wp2_with fail
          refine Calls.mono HAk ?_
          rintro e w1 ⟨rfl, rfl⟩
          go_wp2_with fail
          refine Calls.mono HPk ?_
          rintro e w1 ⟨rfl, rfl⟩
          clear HAk HPk
          go_wp2
          go_roundw
          case rel => exact ⟨k + 1, by omega, HH.out, HC.out, by simp, trivial⟩
          case measure => simp [intOf]; omega
      · have HC : Hid (Value.int .i64 C = .int .i64 (D.cnt (k + 1))) := by show _ = _; rw [sC, if_neg e1, Int.add_zero]
        have HH : Hid (Value.int .i64 H = .int .i64 (D.held S.testBit (k + 1))) := by show _ = _; rw [sH, if_neg (by omega), Int.add_zero]
        clear sC sH
        go_wp2_with fail
        refine Calls.mono HAk ?_
        rintro e w1 ⟨rfl, rfl⟩
        clear HAk HPk
        go_wp2
        go_roundw
        case rel => exact ⟨k + 1, by omega, HH.out, HC.out, by simp, trivial⟩
        case measure => simp [intOf]; omega
    · obtain rfl : k = 7 := by omega
      clear sC sH
      have HV2 : Hid (val = decide (D.cnt 7 < 2 * D.held S.testBit 7)) := HV.out
      clear HV
      generalize D.cnt 7 = C at *
      generalize D.held S.testBit 7 = H at *
      by_cases e : C < 2 * H
      · have HV3 : Hid (val = true) := by show _ = _; rw [HV2.out, decide_eq_true e]
        clear HV2
        rw [show (((7 : Nat) : Int)) = 7 from rfl]
        go_wp2
        all_goals (go_ret; exact ⟨by rw [HV3.out]; first | rfl | (simp; omega), rfl⟩)
      · have HV3 : Hid (val = false) := by show _ = _; rw [HV2.out, decide_eq_false e]
        clear HV2
        rw [show (((7 : Nat) : Int)) = 7 from rfl]
        go_wp2
        all_goals (go_ret; exact ⟨by rw [HV3.out]; first | rfl | (simp; omega), rfl⟩)

/-- Among the first k servers: is t a part of S; are they the same? -/
def paB (t S : Nat) : Nat → Bool
  | 0 => true
  | k + 1 => paB t S k && (S.testBit k || !t.testBit k)
def saB (t S : Nat) : Nat → Bool
  | 0 => true
  | k + 1 => saB t S k && (t.testBit k == S.testBit k)
theorem paB_iff (t S k : Nat) : paB t S k = true ↔ ∀ i, i < k → t.testBit i = true → S.testBit i = true := by
  induction k with
  | zero => simp [paB]
  | succ k ih =>
    unfold paB
    rw [Bool.and_eq_true, ih]
    constructor
    · rintro ⟨h1, h2⟩ i hi ht
      by_cases e : i = k
      · subst e; rw [ht] at h2; simpa using h2
      · exact h1 i (by omega) ht
    · intro h
      refine ⟨fun i hi => h i (by omega), ?_⟩
      have := h k (by omega)
      cases e1 : t.testBit k <;> cases e2 : S.testBit k <;> simp_all
theorem saB_iff (t S k : Nat) : saB t S k = true ↔ ∀ i, i < k → t.testBit i = S.testBit i := by
  induction k with
  | zero => simp [saB]
  | succ k ih =>
    unfold saB
    rw [Bool.and_eq_true, ih]
    constructor
    · rintro ⟨h1, h2⟩ i hi
      by_cases e : i = k
      · subst e; simpa using h2
      · exact h1 i (by omega)
    · intro h
      exact ⟨fun i hi => h i (by omega), by rw [h k (by omega)]; simp⟩
/-- The document's least, over the first k sets. -/
def SyD.ldB (D : SyD) (S : Nat) : Nat → Bool
  | 0 => true
  | t + 1 => D.ldB S t && !(paB t S D.n && !saB t S D.n && D.has t.testBit)
theorem SyD.ldB_iff (D : SyD) (S k : Nat) : D.ldB S k = true ↔ ∀ t, t < k → paB t S D.n = true → saB t S D.n = false → D.has t.testBit = false := by
  induction k with
  | zero => simp [SyD.ldB]
  | succ k ih =>
    unfold SyD.ldB
    rw [Bool.and_eq_true, ih]
    constructor
    · rintro ⟨h1, h2⟩ t ht p s
      by_cases e : t = k
      · subst e; rw [p, s] at h2; simpa using h2
      · exact h1 t (by omega) p s
    · intro h
      refine ⟨fun t ht => h t (by omega), ?_⟩
      have := h k (by omega)
      cases e1 : paB k S D.n <;> cases e2 : saB k S D.n <;> cases e3 : D.has k.testBit <;> simp_all
theorem SyD.ld_least {D : SyD} (hD : D.Good) {S : Nat} (hS : S < 256) : D.ldB S 128 = D.lst S.testBit D.n := by
  have n7 := hD.n7
  have iff : D.ldB S 128 = true ↔ D.lst S.testBit D.n = true := by
    rw [D.ldB_iff, D.lst_iff]
    constructor
    · intro h i hi hs
      have hb := fun j => delB_bit (i := i) hS j
      have h7 : delB S i &&& 127 < 128 := Nat.lt_of_le_of_lt Nat.and_le_right (by omega)
      have ht : ∀ j, j < D.n → (delB S i &&& 127).testBit j = (S.testBit j && j != i) := fun j hj => by
        rw [Nat.testBit_and, show (127 : Nat) = 2 ^ 7 - 1 from rfl, Nat.testBit_two_pow_sub_one, decide_eq_true (show j < 7 by omega), Bool.and_true, hb]
      have := h _ h7 ((paB_iff _ _ _).2 fun j hj q => by rw [ht j hj] at q; simp at q; exact q.1) (by
        cases e : saB (delB S i &&& 127) S D.n with
        | false => rfl
        | true =>
          have := (saB_iff _ _ _).1 e i hi
          rw [ht i hi, hs] at this
          simp at this)
      rw [← this]
      exact (D.has_congr fun j hj => (ht j hj).symm)
    · intro h t ht p s
      have p' := (paB_iff _ _ _).1 p
      have : ∃ i, i < D.n ∧ S.testBit i = true ∧ t.testBit i = false := Classical.byContradiction fun q => by
        have : saB t S D.n = true := (saB_iff _ _ _).2 fun i hi => by
          cases e1 : t.testBit i with
          | true => rw [p' i hi e1]
          | false =>
            cases e2 : S.testBit i with
            | false => rfl
            | true => exact absurd ⟨i, hi, e2, e1⟩ q
        rw [s] at this
        cases this
      obtain ⟨i, hi, hs, htf⟩ := this
      cases e : D.has t.testBit with
      | false => rfl
      | true =>
        have h2 := h i hi hs
        have := D.has_mono hD (S := t.testBit) (T := fun j => S.testBit j && j != i) (fun j hj q => by
          have h1 := p' j hj q
          have h3 : j ≠ i := fun e => by rw [e, htf] at q; cases q
          simp [h1, h3]) e
        rw [h2] at this
        cases this
  cases e1 : D.ldB S 128 <;> cases e2 : D.lst S.testBit D.n <;> simp_all

end Go.Proofs.Ytlnoighjdmjdeaa
