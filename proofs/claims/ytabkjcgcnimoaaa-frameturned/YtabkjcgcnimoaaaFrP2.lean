/- Frames in which one byte is turned, none of a length: the frame that it lies in is no more whole. No Go function is walked here. -/
import Derived.Test.YtabkjcgcnimoaaaFrP
namespace Go.Proofs.Ytabkjcgcnimoaaa
open Go.RowKit
set_option maxRecDepth 8000

theorem sumSet (xs : List Int) (k : Nat) (y : Int) (h : k < xs.length) : (xs.set k y).sum = xs.sum - xs.getD k 0 + y := by
  induction xs generalizing k with
  | nil => simp at h
  | cons x xs ih =>
    cases k with
    | zero => simp; omega
    | succ k =>
      have := ih k (by simpa using h)
      simp [List.set_cons_succ] at this ⊢
      omega

theorem adlLow (xs : List Int) : (adl xs).1 = (1 + xs.sum) % 65521 := by
  suffices h : ∀ s : Int × Int, (xs.foldl adlStep s).1 % 65521 = (s.1 + xs.sum) % 65521 by
    have h1 := h (1, 0)
    have h2 := adl_bd xs
    unfold adl at h2 ⊢
    simp only at h1
    omega
  induction xs with
  | nil => intro s; simp
  | cons x xs ih =>
    intro s
    rw [List.foldl_cons, ih, List.sum_cons]
    simp only [adlStep]
    omega

theorem adler_turn (xs : List Int) (k : Nat) (y : Int) (hk : k < xs.length) (hb : Byts xs) (h0 : 0 ≤ y) (h1 : y ≤ 255) (hne : y ≠ xs.getD k 0) : adler xs ≠ adler (xs.set k y) := by
  have hx := hb.nth k
  have hs := sumSet xs k y hk
  have l1 := adlLow xs
  have l2 := adlLow (xs.set k y)
  have b1 := adl_bd xs
  have b2 := adl_bd (xs.set k y)
  unfold adler
  intro e
  have : (adl xs).1 = (adl (xs.set k y)).1 := by omega
  rw [l1, l2, hs] at this
  omega

theorem bodyLen_turn (b rest : List Int) (k : Nat) (y : Int) (hs : isSz b.length = true) (hb : Byts b) (h4 : 4 ≤ k) (hk : k < b.length + 9) (h0 : 0 ≤ y) (h1 : y ≤ 255) (hne : y ≠ (frameL b ++ rest).getD k 0) :
    bodyLen ((frameL b ++ rest).set k y) = 0 := by
  obtain ⟨zs, hz⟩ : ∃ zs, zs = frameL b ++ rest := ⟨_, rfl⟩
  have t4 : zs.take 4 = be4 b.length := by
    rw [hz]
    unfold frameL headL
    simp only [List.append_assoc]
    exact takeF (be4L _)
  have t8 : zs.take 8 = headL b := by
    rw [hz]
    unfold frameL
    rw [List.append_assoc]
    exact takeF (headL_len b)
  have d8 : zs.drop 8 = b ++ ([66] ++ rest) := by
    rw [hz]
    unfold frameL
    rw [List.append_assoc, dropF (headL_len b), List.append_assoc]
  have hl : zs.length = b.length + 9 + rest.length := by rw [hz, List.length_append, frameL_len]
  have hm : zs.getD (8 + b.length) 0 = 66 := by
    rw [hz]
    unfold frameL
    rw [List.getD_eq_getElem?_getD, List.append_assoc, List.getElem?_append_right (by rw [headL_len]; omega), headL_len, List.append_assoc, List.getElem?_append_right (by omega)]
    have e : 8 + b.length - 8 - b.length = 0 := by omega
    rw [e]; rfl
  rw [← hz] at hne ⊢
  have s4 : (zs.set k y).take 4 = be4 b.length := by
    rw [List.take_set_of_le h4, t4]
  unfold bodyLen
  rw [List.length_set, if_neg (by omega)]
  simp only
  rw [s4, num4, if_neg (by rw [hs]; simp; omega)]
  simp only [Int.toNat_natCast]
  rw [if_pos]
  by_cases c1 : k < 8
  · refine .inr ?_
    rw [List.drop_set_of_lt c1, d8, takeF rfl]
    intro e
    rw [← t8] at e
    have := congrArg (fun l : List Int => l.getD k 0) e
    simp only [List.getD_eq_getElem?_getD, List.getElem?_take, if_pos c1, List.getElem?_set_self (show k < zs.length by omega)] at this
    rw [List.getD_eq_getElem?_getD] at hne
    exact hne this
  · by_cases c2 : k < 8 + b.length
    · refine .inr ?_
      rw [List.take_set_of_le (by omega), t8, List.drop_set, if_neg c1, d8, List.set_append_left _ _ (by omega), takeF (by rw [List.length_set])]
      have hne' : y ≠ b.getD (k - 8) 0 := by
        have e : zs.getD k 0 = b.getD (k - 8) 0 := by
          have : zs.getD k 0 = (zs.drop 8).getD (k - 8) 0 := by
            simp only [List.getD_eq_getElem?_getD, List.getElem?_drop]
            rw [show 8 + (k - 8) = k by omega]
          rw [this, d8, List.getD_eq_getElem?_getD, List.getElem?_append_left (by omega), ← List.getD_eq_getElem?_getD]
        rw [← e]; exact hne
      have ht := adler_turn b (k - 8) y (by omega) hb h0 h1 hne'
      intro e
      unfold headL at e
      rw [List.length_set] at e
      have e2 := List.append_cancel_left e
      have := congrArg num e2
      rw [num4, num4] at this
      exact ht this
    · refine .inl ?_
      have ek : k = 8 + b.length := by omega
      subst ek
      rw [List.getD_eq_getElem?_getD, List.getElem?_set_self (by omega)]
      rw [hm] at hne
      exact hne

theorem bodies_turned : ∀ (l : List (List Int)) (n k : Nat) (y : Int), (∀ b ∈ l, isSz b.length = true ∧ Byts b) → n < l.length → pos (l.take n) + 4 ≤ k → k < pos (l.take (n + 1)) → 0 ≤ y → y ≤ 255 → y ≠ (framesL l).getD k 0 → Bodies ((framesL l).set k y) (l.take n)
  | [], n, k, y, _, hn, _, _, _, _, _ => by simp at hn
  | b :: l, 0, k, y, hs, _, hp, hk, h0, h1, hne => by
    simp only [List.take_succ_cons, List.take_zero, pos, Nat.add_zero, Nat.zero_add] at hp hk
    exact bodies_nil (bodyLen_turn b (framesL l) k y (hs b (by simp)).1 (hs b (by simp)).2 hp hk h0 h1 hne)
  | b :: l, n + 1, k, y, hs, hn, hp, hk, h0, h1, hne => by
    simp only [List.take_succ_cons, pos] at hp hk
    have hge : (frameL b).length ≤ k := by rw [frameL_len]; omega
    have hne2 : y ≠ (framesL l).getD (k - (b.length + 9)) 0 := by
      simp only [framesL, List.getD_eq_getElem?_getD] at hne ⊢
      rw [List.getElem?_append_right hge, frameL_len] at hne
      exact hne
    have ih := bodies_turned l n (k - (b.length + 9)) y (fun x hx => hs x (by simp [hx])) (by simpa using hn) (by omega) (by omega) h0 h1 hne2
    have e : (framesL (b :: l)).set k y = frameL b ++ (framesL l).set (k - (b.length + 9)) y := by
      simp only [framesL]
      rw [List.set_append_right _ _ hge, frameL_len]
    rw [List.take_succ_cons, e]
    exact bodies_cons (frameAt_front b _ (hs b (by simp)).1) (by rw [dropF (frameL_len b)]; exact ih)

end Go.Proofs.Ytabkjcgcnimoaaa
