/- Plain facts on the bytes of paths: the names of a text, their places and faults, and what a path is. No Go function is walked here. -/
import Derived.Test.YtkcapiblicfboaaGreatDoorWaAJ
namespace Go.Proofs.YtkcapiblicfboaaGreatDoor
open Go.RowKit
set_option maxRecDepth 8000

/-- What stands ahead of the first slash. -/
def seg : Bs → Bs
  | [] => []
  | b :: r => if b = 47 then [] else b :: seg r

/-- What stands between the slashes. -/
def segs : Bs → List Bs
  | [] => [[]]
  | b :: r => if b = 47 then [] :: segs r else match segs r with | s :: t => (b :: s) :: t | [] => [[b]]

/-- The places behind each slash, and what stands there up to the next one. -/
def slots : Bs → Nat → List (Nat × Bs)
  | [], _ => []
  | b :: r, k => if b = 47 then (k + 1, seg r) :: slots r (k + 1) else slots r (k + 1)

/-- Names and their places. -/
def lay : Nat → List Bs → List (Nat × Bs)
  | _, [] => []
  | f, s :: t => (f, s) :: lay (f + s.length + 1) t

def NoSlash (l : Bs) : Prop := (47 : UInt8) ∉ l

theorem segs_head (l : Bs) : ∃ t, segs l = seg l :: t := by
  induction l with
  | nil => exact ⟨[], rfl⟩
  | cons b r ih =>
    obtain ⟨t, h⟩ := ih
    by_cases hb : b = 47
    · exact ⟨segs r, by simp [segs, seg, hb]⟩
    · exact ⟨t, by simp [segs, seg, hb, h]⟩

theorem segs_app (a b : Bs) : segs (a ++ 47 :: b) = segs a ++ segs b := by
  induction a with
  | nil => simp [segs]
  | cons x a ih =>
    by_cases hx : x = 47
    · simp [segs, hx, ih]
    · obtain ⟨t, h⟩ := segs_head a
      simp [segs, hx, ih, h]

theorem segs_none {l : Bs} (h : NoSlash l) : segs l = [l] := by
  induction l with
  | nil => rfl
  | cons b r ih =>
    have h1 : ¬ b = 47 := fun e => h (by simp [e])
    have h2 : NoSlash r := fun e => h (List.mem_cons_of_mem _ e)
    simp [segs, h1, ih h2]

theorem seg_none {l : Bs} (h : NoSlash l) : seg l = l := by
  induction l with
  | nil => rfl
  | cons b r ih =>
    have h1 : ¬ b = 47 := fun e => h (by simp [e])
    have h2 : NoSlash r := fun e => h (List.mem_cons_of_mem _ e)
    simp [seg, h1, ih h2]

theorem seg_app {a : Bs} (h : NoSlash a) (b : Bs) : seg (a ++ 47 :: b) = a := by
  induction a with
  | nil => simp [seg]
  | cons x r ih =>
    have h1 : ¬ x = 47 := fun e => h (by simp [e])
    have h2 : NoSlash r := fun e => h (List.mem_cons_of_mem _ e)
    simp [seg, h1, ih h2]

theorem seg_noslash (l : Bs) : NoSlash (seg l) := by
  induction l with
  | nil => simp [seg, NoSlash]
  | cons b r ih =>
    by_cases hb : b = 47
    · simp [seg, hb, NoSlash]
    · simp only [seg, if_neg hb, NoSlash, List.mem_cons, not_or]
      exact ⟨fun e => hb e.symm, ih⟩

/-- A text falls apart at its first slash, or has none. -/
theorem seg_split (l : Bs) : (NoSlash l ∧ seg l = l) ∨ ∃ b, l = seg l ++ 47 :: b := by
  induction l with
  | nil => exact .inl ⟨by simp [NoSlash], rfl⟩
  | cons x r ih =>
    by_cases hx : x = 47
    · exact .inr ⟨r, by simp [seg, hx]⟩
    · rcases ih with ⟨h1, h2⟩ | ⟨b, hb⟩
      · refine .inl ⟨?_, by simp [seg, hx, h2]⟩
        simp only [NoSlash, List.mem_cons, not_or]
        exact ⟨fun e => hx e.symm, h1⟩
      · refine .inr ⟨b, ?_⟩
        simp only [seg, if_neg hx, List.cons_append]
        rw [← hb]

theorem segs_noslash (l : Bs) : ∀ s ∈ segs l, NoSlash s := by
  induction l with
  | nil => intro s hs; simp [segs] at hs; subst hs; simp [NoSlash]
  | cons b r ih =>
    intro s hs
    by_cases hb : b = 47
    · simp [segs, hb] at hs
      rcases hs with rfl | hs
      · simp [NoSlash]
      · exact ih s hs
    · obtain ⟨t, h⟩ := segs_head r
      simp [segs, hb, h] at hs
      rcases hs with rfl | hs
      · simp only [NoSlash, List.mem_cons, not_or]
        exact ⟨fun e => hb e.symm, seg_noslash r⟩
      · exact ih s (by rw [h]; exact List.mem_cons_of_mem _ hs)

theorem slots_skip {a : Bs} (h : NoSlash a) (b : Bs) (k : Nat) : slots (a ++ b) k = slots b (k + a.length) := by
  induction a generalizing k with
  | nil => rfl
  | cons x r ih =>
    have h1 : ¬ x = 47 := fun e => h (by simp [e])
    have h2 : NoSlash r := fun e => h (List.mem_cons_of_mem _ e)
    simp only [List.cons_append, slots, if_neg h1, ih h2, List.length_cons]
    congr 1; omega

theorem slots_none {a : Bs} (h : NoSlash a) (k : Nat) : slots a k = [] := by
  have := slots_skip h [] k
  simpa [slots] using this

theorem slots_lay (n : Nat) : ∀ (r : Bs) (k : Nat), r.length ≤ n → slots (47 :: r) k = lay (k + 1) (segs r) := by
  induction n with
  | zero =>
    intro r k hr
    have : r = [] := List.eq_nil_of_length_eq_zero (by omega)
    subst this
    simp [slots, lay, segs, seg]
  | succ n ih =>
    intro r k hr
    rcases seg_split r with ⟨h1, h2⟩ | ⟨b, hb⟩
    · simp [slots, h2, slots_none h1, segs_none h1, lay]
    · have hn := seg_noslash r
      obtain ⟨a, ha⟩ : ∃ a, a = seg r := ⟨_, rfl⟩
      rw [← ha] at hb hn
      subst hb
      have hl : b.length ≤ n := by simp at hr; omega
      rw [segs_app, segs_none hn]
      simp only [slots, if_true, List.cons_append, List.nil_append, lay]
      rw [slots_skip hn, seg_app hn]
      have e := ih b (k + 1 + a.length) hl
      rw [e]

/-! ### The faults of names -/
/-- The fault of a name's shape. -/
def nf (s : Bs) : Option Nat := if 24 < s.length then some 24 else if s = [] ∨ s = [46] ∨ s = [46, 46] then some 0 else none

theorem nf_le {s : Bs} {k : Nat} (h : nf s = some k) : k ≤ s.length := by
  unfold nf at h
  split at h
  · simp at h; omega
  · split at h
    · simp at h; omega
    · simp at h

theorem rf_le {s : Bs} {k : Nat} (h : rf s = some k) : k ≤ s.length := Nat.le_of_lt (rf_lt _ s k (Nat.le_refl _) h)

/-- The first fault of this kind among names and their places. -/
def firstF (g : Bs → Option Nat) : List (Nat × Bs) → Option Nat
  | [] => none
  | x :: t => match g x.2 with | some k => some (x.1 + k) | none => firstF g t

theorem firstF_ge {g : Bs → Option Nat} : ∀ (l : List Bs) (f k : Nat), firstF g (lay f l) = some k → f ≤ k := by
  intro l
  induction l with
  | nil => intro f k h; simp [lay, firstF] at h
  | cons s t ih =>
    intro f k h
    simp only [lay, firstF] at h
    split at h
    · simp at h; omega
    · have := ih _ _ h; omega

/-- How many bytes names have, each with a slash ahead of it. -/
def total : List Bs → Nat
  | [] => 0
  | s :: t => s.length + 1 + total t

theorem total_app (a b : List Bs) : total (a ++ b) = total a + total b := by
  induction a with
  | nil => simp [total]
  | cons s t ih => simp [total, ih]; omega

theorem total_segs (l : Bs) : total (segs l) = l.length + 1 := by
  induction l with
  | nil => rfl
  | cons b r ih =>
    by_cases hb : b = 47
    · simp [segs, hb, total, ih]; omega
    · obtain ⟨t, h⟩ := segs_head r
      rw [h] at ih
      simp [segs, hb, h, total] at ih ⊢
      omega

theorem firstF_lt {g : Bs → Option Nat} (hg : ∀ s k, g s = some k → k ≤ s.length) : ∀ (l : List Bs) (f k : Nat), firstF g (lay f l) = some k → k < f + total l := by
  intro l
  induction l with
  | nil => intro f k h; simp [lay, firstF] at h
  | cons s t ih =>
    intro f k h
    simp only [lay, firstF, total] at h ⊢
    split at h
    · rename_i j hj
      have := hg _ _ hj
      simp at h; omega
    · have := ih _ _ h; omega

theorem firstF_none {g : Bs → Option Nat} : ∀ (l : List Bs) (f : Nat), firstF g (lay f l) = none ↔ ∀ s ∈ l, g s = none := by
  intro l
  induction l with
  | nil => intro f; simp [lay, firstF]
  | cons s t ih =>
    intro f
    simp only [lay, firstF, List.mem_cons, forall_eq_or_imp]
    cases hs : g s with
    | some k => simp
    | none => simp [ih]

theorem rf_segs (n : Nat) : ∀ (r : Bs) (f : Nat), r.length ≤ n → (rf r).map (f + ·) = firstF rf (lay f (segs r)) := by
  induction n with
  | zero =>
    intro r f hr
    have : r = [] := List.eq_nil_of_length_eq_zero (by omega)
    subst this
    simp [segs, lay, firstF, rf_nil]
  | succ n ih =>
    intro r f hr
    rcases seg_split r with ⟨h1, h2⟩ | ⟨b, hb⟩
    · rw [segs_none h1]
      simp only [lay, firstF]
      cases rf r <;> rfl
    · have hn := seg_noslash r
      obtain ⟨a, ha⟩ : ∃ a, a = seg r := ⟨_, rfl⟩
      rw [← ha] at hb hn
      subst hb
      have hl : b.length ≤ n := by simp at hr; omega
      rw [segs_app, segs_none hn, rf_app _ a b 47 (Nat.le_refl _) (by decide) (by decide)]
      simp only [List.cons_append, List.nil_append, lay, firstF]
      cases hr : rf a with
      | some k => rfl
      | none =>
        simp only [Option.map_map]
        rw [← ih b _ hl]
        congr 1
        funext x
        simp only [Function.comp]
        omega

/-! ### The fault of a text, and paths -/
/-- No fault: the code's own word for it. -/
def sound : Nat := 9223372036854775807

def sizeF (p : Bs) : Option Nat := if 64 < p.length then some 64 else none

/-- The least place of a fault; sound, if there is none. -/
def faultL (p : Bs) : Nat :=
  if p = [47] then sound else match p with
  | [] => 0
  | b :: _ => if b = 47 then min ((rf p).getD sound) (min ((firstF nf (slots p 0)).getD sound) ((sizeF p).getD sound)) else 0

/-- A name. -/
def NameOK (s : Bs) : Prop := nf s = none ∧ rf s = none

/-- A path. -/
def IsP (p : Bs) : Prop := p = [47] ∨ ∃ r, p = 47 :: r ∧ p.length ≤ 64 ∧ ∀ s ∈ segs r, NameOK s

theorem rf_slash (r : Bs) : rf (47 :: r) = firstF rf (lay 1 (segs r)) := by
  rw [rf_ascii 47 r (by decide) (by decide), ← rf_segs _ r 1 (Nat.le_refl _)]
  congr 1
  funext x
  omega

theorem fault_slash (r : Bs) (hr : r ≠ []) : faultL (47 :: r) = min ((firstF rf (lay 1 (segs r))).getD sound) (min ((firstF nf (lay 1 (segs r))).getD sound) ((sizeF (47 :: r)).getD sound)) := by
  unfold faultL
  rw [if_neg (by simpa using hr)]
  simp only [if_true]
  rw [rf_slash, slots_lay _ r 0 (Nat.le_refl _)]

theorem lay_lt {g : Bs → Option Nat} (hg : ∀ s k, g s = some k → k ≤ s.length) {r : Bs} {k : Nat} (h : firstF g (lay 1 (segs r)) = some k) : k ≤ r.length + 1 := by
  have := firstF_lt hg _ _ _ h
  rw [total_segs] at this
  omega

theorem getD_sound {o : Option Nat} (h : ∀ k, o = some k → k < sound) : o.getD sound = sound ↔ o = none := by
  cases o with
  | none => simp
  | some k => have := h k rfl; simp; omega

theorem min3_sound (a b c : Nat) (ha : a ≤ sound) (hb : b ≤ sound) (hc : c ≤ sound) : min a (min b c) = sound ↔ a = sound ∧ b = sound ∧ c = sound := by omega

theorem getD_le {o : Option Nat} (h : ∀ k, o = some k → k < sound) : o.getD sound ≤ sound := by
  cases o with
  | none => simp
  | some k => have := h k rfl; simp; omega

theorem sizeF_lt {p : Bs} {k : Nat} (h : sizeF p = some k) : k = 64 ∧ 64 < p.length := by
  unfold sizeF at h
  split at h
  · simp at h; exact ⟨h.symm, by assumption⟩
  · simp at h

theorem fault_sound (p : Bs) (hp : p.length < sound) : faultL p = sound ↔ IsP p := by
  cases p with
  | nil => simp [faultL, IsP, sound]
  | cons b r =>
    by_cases hb : b = 47
    · subst hb
      by_cases hr : r = []
      · subst hr; simp [faultL, IsP]
      · rw [fault_slash r hr]
        simp only [List.length_cons] at hp
        have h1 : ∀ k, firstF rf (lay 1 (segs r)) = some k → k < sound := fun k h => by
          have := lay_lt (fun s k => rf_le) h; omega
        have h2 : ∀ k, firstF nf (lay 1 (segs r)) = some k → k < sound := fun k h => by
          have := lay_lt (fun s k => nf_le) h; omega
        have h3 : ∀ k, sizeF (47 :: r) = some k → k < sound := fun k h => by
          have := sizeF_lt h; unfold sound; omega
        rw [min3_sound _ _ _ (getD_le h1) (getD_le h2) (getD_le h3), getD_sound h1, getD_sound h2, getD_sound h3, firstF_none, firstF_none]
        constructor
        · rintro ⟨g1, g2, g3⟩
          refine .inr ⟨r, rfl, ?_, fun s hs => ⟨g2 s hs, g1 s hs⟩⟩
          unfold sizeF at g3
          split at g3
          · simp at g3
          · omega
        · rintro (h | ⟨r', e, hl, h⟩)
          · simp at h; exact absurd h hr
          · simp at e
            subst e
            refine ⟨fun s hs => (h s hs).2, fun s hs => (h s hs).1, ?_⟩
            unfold sizeF
            rw [if_neg (by omega)]
    · constructor
      · intro h
        unfold faultL at h
        rw [if_neg (by simp [hb])] at h
        simp [hb, sound] at h
      · rintro (h | ⟨r', e, _⟩)
        · simp at h; exact absurd h.1 hb
        · simp at e; exact absurd e.1 hb

theorem fault_le (p : Bs) (hp : p.length < sound) : faultL p = sound ∨ faultL p ≤ p.length := by
  by_cases h : faultL p = sound
  · exact .inl h
  · refine .inr ?_
    cases p with
    | nil => simp [faultL]
    | cons b r =>
      by_cases hb : b = 47
      · subst hb
        by_cases hr : r = []
        · subst hr; simp [faultL] at h
        · rw [fault_slash r hr] at h ⊢
          simp only [List.length_cons] at hp ⊢
          cases h1 : firstF rf (lay 1 (segs r)) with
          | some k => have := lay_lt (fun s k => rf_le) h1; simp; omega
          | none =>
            cases h2 : firstF nf (lay 1 (segs r)) with
            | some k => have := lay_lt (fun s k => nf_le) h2; simp; omega
            | none =>
              cases h3 : sizeF (47 :: r) with
              | some k => have := sizeF_lt h3; simp at this ⊢; omega
              | none => rw [h1, h2, h3] at h; simp at h
      · unfold faultL
        rw [if_neg (by simp [hb])]
        simp [hb]

end Go.Proofs.YtkcapiblicfboaaGreatDoor
