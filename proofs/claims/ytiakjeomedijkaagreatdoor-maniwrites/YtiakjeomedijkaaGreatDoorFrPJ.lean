/- Frames one behind the other, as lists of bytes: which are whole at the beginning of a text, of one that is cut off, of one in which a byte is turned. No Go function is walked here. -/
import Derived.Test.YtiakjeomedijkaaGreatDoorFr2J
namespace Go.Proofs.YtiakjeomedijkaaGreatDoor
open Go.RowKit
set_option maxRecDepth 8000

theorem num4 (n : Int) : num (be4 n) = n := by
  simp only [num, be4, List.foldl_cons, List.foldl_nil]
  omega

/-- Where the frames of these bodies end. -/
def pos : List (List Int) → Nat
  | [] => 0
  | b :: l => b.length + 9 + pos l

theorem pos_append (l m : List (List Int)) : pos (l ++ m) = pos l + pos m := by
  induction l with
  | nil => simp [pos]
  | cons b l ih => simp only [List.cons_append, pos, ih]; omega
theorem pos_snoc (l : List (List Int)) (b : List Int) : pos (l ++ [b]) = pos l + b.length + 9 := by
  rw [pos_append]; simp [pos]; omega

/-- The frame of b stands at place p. -/
def FrameAt (xs : List Int) (p : Nat) (b : List Int) : Prop := 0 < b.length ∧ bodyLen (xs.drop p) = b.length ∧ b = (xs.drop (p + 8)).take b.length

/-- The frames of these bodies stand one behind the other, the first at place p. -/
def Chain (xs : List Int) : Nat → List (List Int) → Prop
  | _, [] => True
  | p, b :: l => FrameAt xs p b ∧ Chain xs (p + b.length + 9) l

theorem chain_snoc (xs : List Int) (b : List Int) : ∀ (l : List (List Int)) (p : Nat), Chain xs p (l ++ [b]) ↔ Chain xs p l ∧ FrameAt xs (p + pos l) b
  | [], p => by simp [Chain, pos]
  | c :: l, p => by
    have ih := chain_snoc xs b l (p + c.length + 9)
    have e : p + pos (c :: l) = p + c.length + 9 + pos l := by simp only [pos]; omega
    rw [e]
    simp only [List.cons_append, Chain, ih, and_assoc]

/-- The whole frames at the beginning are those of these bodies. -/
def Bodies (xs : List Int) (l : List (List Int)) : Prop := Chain xs 0 l ∧ bodyLen (xs.drop (pos l)) = 0

theorem chain_one {xs : List Int} : ∀ (l m : List (List Int)) (p : Nat), Chain xs p l → bodyLen (xs.drop (p + pos l)) = 0 → Chain xs p m → bodyLen (xs.drop (p + pos m)) = 0 → l = m
  | [], [], _, _, _, _, _ => rfl
  | [], c :: m, p, _, h0, ⟨⟨h1, h2, _⟩, _⟩, _ => by
    simp only [pos, Nat.add_zero] at h0
    omega
  | b :: l, [], p, ⟨⟨h1, h2, _⟩, _⟩, _, _, h0 => by
    simp only [pos, Nat.add_zero] at h0
    omega
  | b :: l, c :: m, p, ⟨⟨_, h2, h3⟩, h4⟩, h5, ⟨⟨_, g2, g3⟩, g4⟩, g5 => by
    have hl : b.length = c.length := by omega
    have e : b = c := by rw [h3, g3, hl]
    subst e
    have e1 : p + pos (b :: l) = p + b.length + 9 + pos l := by simp only [pos]; omega
    have e2 : p + pos (b :: m) = p + b.length + 9 + pos m := by simp only [pos]; omega
    rw [e1] at h5
    rw [e2] at g5
    rw [chain_one l m _ h4 h5 g4 g5]

theorem bodies_one {xs : List Int} {l m : List (List Int)} (h : Bodies xs l) (g : Bodies xs m) : l = m :=
  chain_one l m 0 h.1 (by rw [Nat.zero_add]; exact h.2) g.1 (by rw [Nat.zero_add]; exact g.2)

theorem bodyLen_le (xs : List Int) (h : bodyLen xs ≠ 0) : bodyLen xs + 9 ≤ xs.length := by
  unfold bodyLen at h ⊢
  by_cases h9 : xs.length < 9
  · rw [if_pos h9] at h; exact absurd rfl h
  · rw [if_neg h9] at h ⊢
    simp only at h ⊢
    by_cases h1 : num (xs.take 4) > (xs.length : Int) - 9 ∨ isSz (num (xs.take 4)) = false
    · rw [if_pos h1] at h; exact absurd rfl h
    · rw [if_neg h1] at h ⊢
      split at h
      · exact absurd rfl h
      · rename_i h2
        rw [if_neg h2]
        omega

theorem bodyLen_size (xs : List Int) (h : bodyLen xs ≠ 0) : isSz (bodyLen xs) = true := by
  unfold bodyLen at h ⊢
  by_cases h9 : xs.length < 9
  · rw [if_pos h9] at h; exact absurd rfl h
  · rw [if_neg h9] at h ⊢
    simp only at h ⊢
    by_cases h1 : num (xs.take 4) > (xs.length : Int) - 9 ∨ isSz (num (xs.take 4)) = false
    · rw [if_pos h1] at h; exact absurd rfl h
    · rw [if_neg h1] at h ⊢
      split at h
      · exact absurd rfl h
      · rename_i h2
        rw [if_neg h2]
        have : isSz (num (xs.take 4)) = true := by
          cases hq : isSz (num (xs.take 4))
          · exact absurd (.inr hq) h1
          · rfl
        rw [Int.toNat_of_nonneg (by simp [isSz] at this; omega)]
        exact this

theorem frameAt_le {xs : List Int} {p : Nat} {b : List Int} (h : FrameAt xs p b) : p + b.length + 9 ≤ xs.length := by
  have := bodyLen_le (xs.drop p) (by rw [h.2.1]; have := h.1; omega)
  rw [h.2.1] at this
  simp at this
  omega

theorem chain_le {xs : List Int} : ∀ (l : List (List Int)) (p : Nat), p ≤ xs.length → Chain xs p l → p + pos l ≤ xs.length
  | [], p, hp, _ => by simpa [pos] using hp
  | b :: l, p, hp, ⟨h1, h2⟩ => by
    have := chain_le l _ (frameAt_le h1) h2
    simp only [pos]
    omega

theorem takeF {a b : List Int} {n : Nat} (h : a.length = n) : (a ++ b).take n = a := by subst h; simp
theorem dropF {a b : List Int} {n : Nat} (h : a.length = n) : (a ++ b).drop n = b := by subst h; simp
theorem be4L (n : Int) : (be4 n).length = 4 := rfl

theorem bodyLen_frame (b rest : List Int) (hs : isSz b.length = true) : bodyLen (frameL b ++ rest) = b.length := by
  have h4 : (frameL b ++ rest).take 4 = be4 b.length := by
    unfold frameL headL
    simp only [List.append_assoc]
    exact takeF (be4L _)
  have h8 : (frameL b ++ rest).take 8 = headL b := by
    unfold frameL
    rw [List.append_assoc]
    exact takeF (headL_len b)
  have h8' : (frameL b ++ rest).drop 8 = b ++ ([66] ++ rest) := by
    unfold frameL
    rw [List.append_assoc, dropF (headL_len b), List.append_assoc]
  have hl : (frameL b ++ rest).length = b.length + 9 + rest.length := by rw [List.length_append, frameL_len]
  have hm : (frameL b ++ rest).getD (8 + b.length) 0 = 66 := by
    unfold frameL
    rw [List.getD_eq_getElem?_getD, List.append_assoc, List.getElem?_append_right (by rw [headL_len]; omega), headL_len, List.append_assoc, List.getElem?_append_right (by omega)]
    have e : 8 + b.length - 8 - b.length = 0 := by omega
    rw [e]; rfl
  unfold bodyLen
  rw [if_neg (by omega)]
  simp only
  rw [h4, num4, if_neg (by rw [hs, hl]; simp; omega)]
  simp only [Int.toNat_natCast]
  rw [hm, h8, h8', takeF rfl, if_neg (by simp)]

theorem frameAt_front (b rest : List Int) (hs : isSz b.length = true) : FrameAt (frameL b ++ rest) 0 b := by
  refine ⟨by simp [isSz] at hs; omega, by rw [List.drop_zero]; exact bodyLen_frame b rest hs, ?_⟩
  unfold frameL
  rw [Nat.zero_add, List.append_assoc, dropF (headL_len b), List.append_assoc, takeF rfl]

theorem bodyLen_cut (b rest : List Int) (c : Nat) (hc : c < b.length + 9) : bodyLen ((frameL b ++ rest).take c) = 0 := by
  have hl : ((frameL b ++ rest).take c).length = c := by simp [frameL_len]; omega
  unfold bodyLen
  by_cases h9 : ((frameL b ++ rest).take c).length < 9
  · rw [if_pos h9]
  · rw [if_neg h9]
    simp only
    have h4 : ((frameL b ++ rest).take c).take 4 = be4 b.length := by
      rw [List.take_take, Nat.min_eq_left (by omega)]
      unfold frameL headL
      simp only [List.append_assoc]
      exact takeF (be4L _)
    rw [h4, num4, hl, if_pos (.inl (by omega))]

/-- The frames of bodies, one behind the other. -/
def framesL : List (List Int) → List Int
  | [] => []
  | b :: l => frameL b ++ framesL l

theorem framesL_len : ∀ l : List (List Int), (framesL l).length = pos l
  | [] => rfl
  | b :: l => by simp only [framesL, List.length_append, frameL_len, framesL_len l, pos]
theorem framesL_append : ∀ l m : List (List Int), framesL (l ++ m) = framesL l ++ framesL m
  | [], m => rfl
  | b :: l, m => by simp only [List.cons_append, framesL, framesL_append l m, List.append_assoc]

theorem chain_drop (xs : List Int) : ∀ (l : List (List Int)) (p q : Nat), Chain xs (p + q) l ↔ Chain (xs.drop p) q l
  | [], _, _ => Iff.rfl
  | b :: l, p, q => by
    have ih := chain_drop xs l p (q + b.length + 9)
    have e1 : p + q + b.length + 9 = p + (q + b.length + 9) := by omega
    simp only [Chain, FrameAt, e1, ih, List.drop_drop]
    have e2 : p + q + 8 = p + (q + 8) := by omega
    rw [e2]

theorem bodies_cons {xs : List Int} {b : List Int} {l : List (List Int)} (h : FrameAt xs 0 b) (g : Bodies (xs.drop (b.length + 9)) l) : Bodies xs (b :: l) := by
  refine ⟨⟨h, ?_⟩, ?_⟩
  · have := (chain_drop xs l (b.length + 9) 0).2 g.1
    rw [Nat.add_zero] at this
    rw [Nat.zero_add]
    exact this
  · have := g.2
    rw [List.drop_drop] at this
    exact this

theorem bodies_nil {xs : List Int} (h : bodyLen xs = 0) : Bodies xs [] := ⟨trivial, by simpa [pos] using h⟩

theorem bodyLen_nil : bodyLen [] = 0 := by unfold bodyLen; rw [if_pos (by simp)]

/-- Of frames that are cut off those are whole that lie ahead of the cut. -/
theorem bodies_torn : ∀ (l : List (List Int)) (n c : Nat), (∀ b ∈ l, isSz b.length = true) → n ≤ l.length → pos (l.take n) ≤ c → (n < l.length → c < pos (l.take (n + 1))) → Bodies ((framesL l).take c) (l.take n)
  | [], n, c, _, hn, _, _ => by
    simp at hn
    subst hn
    simp only [framesL, List.take_nil]
    exact bodies_nil bodyLen_nil
  | b :: l, 0, c, hs, _, _, hc => by
    have := hc (by simp)
    simp only [List.take_succ_cons, List.take_zero, pos, Nat.add_zero] at this
    exact bodies_nil (bodyLen_cut b (framesL l) c this)
  | b :: l, n + 1, c, hs, hn, hp, hc => by
    simp only [List.take_succ_cons, pos] at hp
    have hb : isSz b.length = true := hs b (by simp)
    have ih := bodies_torn l n (c - (b.length + 9)) (fun x hx => hs x (by simp [hx])) (by simpa using hn) (by omega) (fun h => by
      have := hc (by simpa using h)
      simp only [List.take_succ_cons, pos] at this
      omega)
    have e : (framesL (b :: l)).take c = frameL b ++ (framesL l).take (c - (b.length + 9)) := by
      simp only [framesL, List.take_append, frameL_len]
      rw [List.take_of_length_le (by rw [frameL_len]; omega)]
    rw [List.take_succ_cons, e]
    exact bodies_cons (frameAt_front b _ hb) (by rw [dropF (frameL_len b)]; exact ih)

theorem bodies_all (l : List (List Int)) (hs : ∀ b ∈ l, isSz b.length = true) : Bodies (framesL l) l := by
  have := bodies_torn l l.length (pos l) hs (Nat.le_refl _) (by simp) (fun h => by omega)
  rwa [List.take_length, List.take_of_length_le (by rw [framesL_len]; exact Nat.le_refl _)] at this

end Go.Proofs.YtiakjeomedijkaaGreatDoor
