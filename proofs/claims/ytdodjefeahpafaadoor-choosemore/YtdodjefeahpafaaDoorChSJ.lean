/- What Way answers where all is at hand, and where nothing is: plain facts, for ChooseHand. -/
import Derived.Test.YtdodjefeahpafaaDoorChGJ
import Derived.Laws.Small
import Derived.Test.YtdodjefeahpafaaDoorChRJ
namespace Go.Proofs.YtdodjefeahpafaaDoor
set_option maxRecDepth 8000

theorem szL_le (l : List TxD) : szL l ≤ 4096 * l.length := by
  have := szL_take l l.length
  rwa [List.take_length] at this

theorem sendW_ne (b : Bool) (m : Nat) : sendW b m = 1 ∨ sendW b m = 2 ∨ sendW b m = 3 := by
  unfold sendW
  split
  · exact .inl rfl
  · split
    · exact .inr (.inl rfl)
    · exact .inr (.inr rfl)

theorem hand_bad (pe pn se sn : Int) (l : List TxD) (ca im : Int) (x : Nat) (h : rises se sn l = false ∨ im < 0) : chW pe pn se sn l ca im x = ⟨0, 0, 0, false, 1⟩ := by
  unfold chW
  rcases h with h | h
  · rw [if_pos (.inl h)]
  · rw [if_pos (.inr (.inr (.inr h)))]

theorem hand_behind (pe pn se sn : Int) (l : List TxD) (ca im : Int) (x : Nat) (hr : rises se sn l = true) (h0 : 0 ≤ ca) (h1 : ca ≤ l.length) (hi : 0 ≤ im) (hb : zcmp pe pn se sn < 0) : chW pe pn se sn l ca im x = ⟨4, 0, 0, false, 0⟩ := by
  unfold chW
  rw [if_neg (by rw [hr]; rintro (h | h | h | h) <;> first | cases h | omega), if_pos hb]

theorem hand_not (pe pn se sn : Int) (l : List TxD) (ca im : Int) (x : Nat) (hr : rises se sn l = true) (h0 : 0 ≤ ca) (h1 : ca ≤ l.length) (hi : 0 ≤ im) (hb : ¬ zcmp pe pn se sn < 0) : chW pe pn se sn l ca im x = chN pe pn se sn l ca im x (upN pe pn l) := by
  unfold chW
  rw [if_neg (by rw [hr]; rintro (h | h | h | h) <;> first | cases h | omega), if_neg hb]

/-- All at hand: it is sent. -/
theorem hand_all (pe pn se sn : Int) (l : List TxD) (im : Int) (x : Nat) (hr : rises se sn l = true) (hi : 0 ≤ im) (hb : ¬ zcmp pe pn se sn < 0) : ∃ wy a b, (wy = 1 ∨ wy = 2 ∨ wy = 3) ∧ chW pe pn se sn l l.length im x = ⟨wy, a, b, true, 0⟩ := by
  rw [hand_not pe pn se sn l _ im x hr (by omega) (by omega) hi hb]
  unfold chN
  rw [if_pos (by omega)]
  exact ⟨_, _, _, sendW_ne _ _, rfl⟩

/-- Nothing at hand, and no measure: who lacks something gets a copy. -/
theorem hand_none (pe pn se sn : Int) (l : List TxD) (im : Nat) (hr : rises se sn l = true) (hl : l.length ≤ 1000000) (hi : 1 ≤ im) (hi' : im < 9007199254740992) (hb : ¬ zcmp pe pn se sn < 0) :
    (zcmp pe pn (lstE se l l.length) (lstN sn l l.length) < 0 ∧ chW pe pn se sn l 0 im 13830554455654793216 = ⟨4, 0, 0, false, 0⟩) ∨ (¬ zcmp pe pn (lstE se l l.length) (lstN sn l l.length) < 0 ∧ ∃ wy a b, (wy = 1 ∨ wy = 2 ∨ wy = 3) ∧ chW pe pn se sn l 0 im 13830554455654793216 = ⟨wy, a, b, true, 0⟩) := by
  rw [hand_not pe pn se sn l _ im _ hr (by omega) (by omega) (by omega) hb]
  have hu := upN_le pe pn l
  by_cases hk : upN pe pn l = l.length
  · refine .inr ⟨?_, ?_⟩
    · by_cases h0 : l.length = 0
      · rw [h0, lstE_zero, lstN_zero]; exact hb
      · obtain ⟨j, hj⟩ : ∃ j, l.length = j + 1 := ⟨l.length - 1, by omega⟩
        have hjl : j < l.length := by omega
        have a := lstE_next se l j hjl
        have b := lstN_next sn l j hjl
        rw [← hj] at a b
        rw [a, b]
        have := upN_below pe pn l j (by omega) hjl
        intro h
        unfold zcmp at this h
        split at this <;> (try split at this) <;> split at h <;> (try split at h) <;> omega
    · unfold chN
      rw [if_pos (by rw [hk]; omega)]
      exact ⟨_, _, _, sendW_ne _ _, rfl⟩
  · refine .inl ⟨?_, ?_⟩
    · obtain ⟨j, hj⟩ : ∃ j, l.length = j + 1 := ⟨l.length - 1, by omega⟩
      have hjl : j < l.length := by omega
      have a := lstE_next se l j hjl
      have b := lstN_next sn l j hjl
      rw [← hj] at a b
      rw [a, b]
      have h1 := upN_stop pe pn l (by omega)
      have h2 := rises_lt l se sn (upN pe pn l) j hjl (by omega) hr
      generalize l[upN pe pn l] = t at h1 h2
      generalize l[j] = u at h2 ⊢
      unfold zcmp at h1 h2 ⊢
      split at h1 <;> (try split at h1) <;> split at h2 <;> (try split at h2) <;> split <;> (try split) <;> omega
    · unfold chN
      have hs : szL (l.drop (upN pe pn l)) < 9007199254740992 := by
        have := szL_le (l.drop (upN pe pn l))
        rw [List.length_drop] at this
        omega
      rw [if_neg (by omega), undB_neg _ im hs hi hi']
      rfl

theorem hand_prod (im : Int) : 0 ≤ Int.tmod im 1000 * Int.tmod im 1000 ∧ Int.tmod im 1000 * Int.tmod im 1000 ≤ 998001 := by
  have h1 : -1000 < Int.tmod im 1000 ∧ Int.tmod im 1000 < 1000 := by
    rw [Go.tmod_eq_if]
    split <;> omega
  have h2 : 0 ≤ Int.tmod im 1000 * Int.tmod im 1000 := by
    rcases Int.le_total 0 (Int.tmod im 1000) with h | h
    · exact Int.mul_nonneg h h
    · exact Int.mul_nonneg_of_nonpos_of_nonpos h h
  have h3 : Int.tmod im 1000 * Int.tmod im 1000 ≤ 999 * 999 := by
    rcases Int.le_total 0 (Int.tmod im 1000) with h | h
    · exact Int.mul_le_mul (by omega) (by omega) h (by omega)
    · have := Int.mul_le_mul (a := -Int.tmod im 1000) (b := -Int.tmod im 1000) (c := 999) (d := 999) (by omega) (by omega) (by omega) (by omega)
      rwa [Int.neg_mul_neg] at this
  exact ⟨h2, by omega⟩

/-- The image that the statement makes of another. -/
theorem hand_image (im : Int) : ∃ n : Nat, 1 + Int.tmod im 1000 * Int.tmod im 1000 = (n : Int) ∧ 1 ≤ n ∧ n < 9007199254740992 := by
  obtain ⟨h2, h3⟩ := hand_prod im
  generalize Int.tmod im 1000 * Int.tmod im 1000 = p at *
  exact ⟨(1 + p).toNat, by omega, by omega, by omega⟩
end Go.Proofs.YtdodjefeahpafaaDoor

/- More at hand and a greater measure never turn a choice into a copy: plain facts, for ChooseMore. -/
namespace Go.Proofs.YtdodjefeahpafaaDoor
set_option maxRecDepth 8000

/-- A choice that is no error and no copy. -/
theorem more_inv (pe pn se sn : Int) (l : List TxD) (ca im : Int) (x : Nat) (he : (chW pe pn se sn l ca im x).err = 0) (hw : (chW pe pn se sn l ca im x).way ≠ 4) :
    rises se sn l = true ∧ 0 ≤ ca ∧ ca ≤ l.length ∧ 0 ≤ im ∧ ¬ zcmp pe pn se sn < 0 := by
  unfold chW at he hw
  split at he
  · cases he
  · rename_i h
    rw [if_neg h] at hw
    split at hw
    · exact absurd rfl hw
    · rename_i hz
      have h1 : rises se sn l = true := by
        cases hr : rises se sn l
        · exact absurd (.inl hr) h
        · rfl
      refine ⟨h1, ?_, ?_, ?_, hz⟩
      · exact Int.not_lt.1 (fun c => h (.inr (.inl c)))
      · exact Int.not_lt.1 (fun c => h (.inr (.inr (.inl c))))
      · exact Int.not_lt.1 (fun c => h (.inr (.inr (.inr c))))

/-- With more at hand, a greater image and factor: the same choice. -/
theorem more_same (pe pn se sn : Int) (l : List TxD) (ca im ca' im' : Int) (x y : Nat) (hl : l.length ≤ 1000000) (he : (chW pe pn se sn l ca im x).err = 0) (hw : (chW pe pn se sn l ca im x).way ≠ 4) (h1 : ca ≤ ca') (h2 : ca' ≤ l.length) (h3 : im ≤ im') (h4 : im' ≤ 9223372036854775807)
    (hu : ∀ s i i' : Nat, s ≤ 9223372036854775807 → i' ≤ 9223372036854775807 → i ≤ i' → undB s i x = true → undB s i' y = true) :
    (chW pe pn se sn l ca' im' y).err = 0 ∧ (chW pe pn se sn l ca' im' y).way = (chW pe pn se sn l ca im x).way ∧ (chW pe pn se sn l ca' im' y).fe = (chW pe pn se sn l ca im x).fe ∧ (chW pe pn se sn l ca' im' y).fn = (chW pe pn se sn l ca im x).fn ∧ ((chW pe pn se sn l ca' im' y).near = true ∨ (chW pe pn se sn l ca im x).near = false) := by
  obtain ⟨a1, a2, a3, a4, a5⟩ := more_inv pe pn se sn l ca im x he hw
  have e1 := hand_not pe pn se sn l ca im x a1 a2 a3 a4 a5
  have e2 := hand_not pe pn se sn l ca' im' y a1 (by omega) h2 (by omega) a5
  rw [e1] at hw ⊢
  rw [e2]
  generalize upN pe pn l = k at *
  unfold chN at hw ⊢
  by_cases c : ((l.length - k : Nat) : Int) ≤ ca
  · rw [if_pos c, if_pos (show ((l.length - k : Nat) : Int) ≤ ca' by omega)]
    exact ⟨rfl, rfl, rfl, rfl, .inl rfl⟩
  · rw [if_neg c] at hw ⊢
    by_cases u : undB (szL (l.drop k)) im x = true
    · rw [if_pos u]
      by_cases c' : ((l.length - k : Nat) : Int) ≤ ca'
      · rw [if_pos c']
        exact ⟨rfl, rfl, rfl, rfl, .inl rfl⟩
      · rw [if_neg c']
        obtain ⟨i, rfl⟩ := Int.eq_ofNat_of_zero_le a4
        obtain ⟨i', rfl⟩ := Int.eq_ofNat_of_zero_le (show 0 ≤ im' by omega)
        have hs := szL_le (l.drop k)
        rw [List.length_drop] at hs
        rw [if_pos (hu _ i i' (by omega) (by omega) (by omega) u)]
        exact ⟨rfl, rfl, rfl, rfl, .inr rfl⟩
    · rw [if_neg u] at hw
      exact absurd rfl hw
end Go.Proofs.YtdodjefeahpafaaDoor
