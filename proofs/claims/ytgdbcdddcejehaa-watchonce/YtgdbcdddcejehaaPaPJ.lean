/- Plain facts on the bytes of paths: what a text's first code point is, the place of the first one that may not stand, and how both fall apart at a slash. No Go function is walked here. -/
import Derived.WalkKit
namespace Go.Proofs.Ytgdbcdddcejehaa
open Go.RowKit
set_option maxRecDepth 8000

abbrev Bs := List UInt8

/-- The first code point of a text and its width, as a range over the text tells it. -/
def dec (l : Bs) : Nat × Nat :=
  let at' (k : Nat) : Nat := (l.getD k 0).toNat
  let cont (k : Nat) : Bool := k < l.length && at' k / 64 == 2
  let b0 := at' 0
  if b0 < 0x80 then (b0, 1)
  else if b0 / 32 == 6 && cont 1 then
    let c := (b0 % 32) * 64 + at' 1 % 64
    if c ≥ 0x80 then (c, 2) else (0xFFFD, 1)
  else if b0 / 16 == 14 && cont 1 && cont 2 then
    let c := (b0 % 16) * 4096 + (at' 1 % 64) * 64 + at' 2 % 64
    if c ≥ 0x800 && Utf8.valid c then (c, 3) else (0xFFFD, 1)
  else if b0 / 8 == 30 && cont 1 && cont 2 && cont 3 then
    let c := (b0 % 8) * 262144 + (at' 1 % 64) * 4096 + (at' 2 % 64) * 64 + at' 3 % 64
    if c ≥ 0x10000 && Utf8.valid c then (c, 4) else (0xFFFD, 1)
  else (0xFFFD, 1)

theorem get_drop (s : ByteArray) (i k : Nat) : s.get! (i + k) = (s.data.toList.drop i).getD k 0 := by
  cases s with
  | mk d =>
    show d[i + k]! = _
    rw [List.getD_eq_getElem?_getD, List.getElem?_drop, Array.getElem?_toList, getElem!_def]
    cases d[i + k]? <;> rfl

theorem size_list (s : ByteArray) : s.size = s.data.toList.length := by rw [Array.length_toList]; rfl

theorem decode_dec (s : ByteArray) (i : Nat) : Utf8.decode s i = dec (s.data.toList.drop i) := by
  have h : ∀ k, decide (i + k < s.size) = decide (k < (s.data.toList.drop i).length) := fun k => by
    simp only [decide_eq_decide, List.length_drop, size_list]; omega
  simp only [Utf8.decode, dec, get_drop, h, Utf8.runeError]

theorem dec_width (l : Bs) (hl : l ≠ []) : 1 ≤ (dec l).2 ∧ (dec l).2 ≤ l.length := by
  have h0 : 0 < l.length := List.length_pos_iff.2 hl
  unfold dec
  simp only
  split
  · exact ⟨Nat.le_refl _, h0⟩
  · split
    · rename_i h; simp only [Bool.and_eq_true, decide_eq_true_eq] at h
      split <;> simp only <;> omega
    · split
      · rename_i h; simp only [Bool.and_eq_true, decide_eq_true_eq] at h
        split <;> simp only <;> omega
      · split
        · rename_i h; simp only [Bool.and_eq_true, decide_eq_true_eq] at h
          split <;> simp only <;> omega
        · simp only; omega

theorem dec_ascii (b : UInt8) (c : Bs) (h : b.toNat < 128) : dec (b :: c) = (b.toNat, 1) := by
  simp [dec, h]

theorem getD_app (a c : Bs) (k : Nat) (h : k < a.length) : (a ++ c).getD k 0 = a.getD k 0 := by
  simp [List.getD_eq_getElem?_getD, List.getElem?_append_left h]

theorem getD_mid (a c : Bs) (b : UInt8) : (a ++ b :: c).getD a.length 0 = b := by
  simp [List.getD_eq_getElem?_getD]

theorem dec_app (a c : Bs) (b : UInt8) (ha : a ≠ []) (h : b.toNat < 128) : dec (a ++ b :: c) = dec a := by
  have h0 : 0 < a.length := List.length_pos_iff.2 ha
  have e0 := getD_app a (b :: c) 0 h0
  have hn : (b.toNat / 64 == 2) = false := by
    have : ¬ b.toNat / 64 = 2 := by omega
    simpa using this
  unfold dec
  simp only [List.length_append, List.length_cons, e0]
  by_cases h1 : a.length = 1
  · have e1 := getD_mid a c b
    rw [h1] at e1
    simp only [e1, hn, h1]
    simp
  · have g1 : 1 < a.length := by omega
    have e1 := getD_app a (b :: c) 1 g1
    have d1 : 1 < a.length + (c.length + 1) := by omega
    by_cases h2 : a.length = 2
    · have e2 := getD_mid a c b
      rw [h2] at e2
      simp only [e1, e2, hn, h2]
      simp
      have : 1 < 2 + (c.length + 1) := by omega
      simp [this]
    · have g2 : 2 < a.length := by omega
      have e2 := getD_app a (b :: c) 2 g2
      have d2 : 2 < a.length + (c.length + 1) := by omega
      by_cases h3 : a.length = 3
      · have e3 := getD_mid a c b
        rw [h3] at e3
        simp only [e1, e2, e3, hn, h3]
        have q1 : 1 < 3 + (c.length + 1) := by omega
        have q2 : 2 < 3 + (c.length + 1) := by omega
        simp [q1, q2]
      · have g3 : 3 < a.length := by omega
        have e3 := getD_app a (b :: c) 3 g3
        have d3 : 3 < a.length + (c.length + 1) := by omega
        simp only [e1, e2, e3, g1, g2, g3, d1, d2, d3]

/-- May this code point stand in a path? -/
def stand (r : Nat) : Bool := 0x1F < r && (r < 0x7F || 0x9F < r) && (r < 0xE000 || 0xF8FF < r) && (r < 0xFFF0 || 0xFFFF < r)

/-- The place of the first code point that may not stand. -/
def rf (l : Bs) : Option Nat :=
  if _h : l = [] then none
  else if stand (dec l).1 then (rf (l.drop (dec l).2)).map (· + (dec l).2) else some 0
termination_by l.length
decreasing_by
  have := dec_width l ‹_›
  rw [List.length_drop]
  omega

theorem rf_nil : rf [] = none := by rw [rf]; simp
theorem rf_cons {l : Bs} (h : l ≠ []) : rf l = if stand (dec l).1 then (rf (l.drop (dec l).2)).map (· + (dec l).2) else some 0 := by
  rw [rf]; simp [h]

theorem rf_ascii (b : UInt8) (c : Bs) (h : b.toNat < 128) (hs : stand b.toNat = true) : rf (b :: c) = (rf c).map (· + 1) := by
  rw [rf_cons (by simp), dec_ascii b c h]
  simp [hs]

theorem rf_app (n : Nat) : ∀ (a c : Bs) (b : UInt8), a.length ≤ n → b.toNat < 128 → stand b.toNat = true →
    rf (a ++ b :: c) = match rf a with | some k => some k | none => (rf c).map (· + (a.length + 1)) := by
  induction n with
  | zero =>
    intro a c b ha hb hs
    have : a = [] := List.eq_nil_of_length_eq_zero (by omega)
    subst this
    rw [rf_nil, List.nil_append, rf_ascii b c hb hs]
    rfl
  | succ n ih =>
    intro a c b ha hb hs
    by_cases h0 : a = []
    · subst h0
      rw [rf_nil, List.nil_append, rf_ascii b c hb hs]
      rfl
    · have hw := dec_width a h0
      rw [rf_cons (l := a ++ b :: c) (by simp), rf_cons h0, dec_app a c b h0 hb]
      split
      · rw [List.drop_append_of_le_length hw.2, ih _ c b (by rw [List.length_drop]; omega) hb hs]
        cases hr : rf (a.drop (dec a).2) with
        | some k => rfl
        | none =>
          simp only [Option.map_none, Option.map_map]
          congr 1
          funext x
          simp only [Function.comp, List.length_drop]
          omega
      · rfl

theorem rf_lt (n : Nat) : ∀ (l : Bs) (k : Nat), l.length ≤ n → rf l = some k → k < l.length := by
  induction n with
  | zero =>
    intro l k hl h
    have : l = [] := List.eq_nil_of_length_eq_zero (by omega)
    subst this
    rw [rf_nil] at h; simp at h
  | succ n ih =>
    intro l k hl h
    by_cases h0 : l = []
    · subst h0; rw [rf_nil] at h; simp at h
    · have hw := dec_width l h0
      rw [rf_cons h0] at h
      split at h
      · cases hr : rf (l.drop (dec l).2) with
        | none => rw [hr] at h; simp at h
        | some j =>
          rw [hr] at h
          simp at h
          have := ih _ j (by rw [List.length_drop]; omega) hr
          rw [List.length_drop] at this
          omega
      · simp at h; omega

end Go.Proofs.Ytgdbcdddcejehaa
