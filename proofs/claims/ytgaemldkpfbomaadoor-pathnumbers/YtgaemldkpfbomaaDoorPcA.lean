/- Plain facts on numbers of ten digits, and how they rise as texts. No Go function is walked here. -/
import Derived.Test.YtgaemldkpfbomaaDoorPbC
import Derived.Lib.ItoaNum
import Derived.Lib.Repeat
namespace Go.Proofs.YtgaemldkpfbomaaDoor
open Go.RowKit Go.Shelf
set_option maxRecDepth 8000

/-- A number in k digits. -/
def padk : Nat → Nat → Bs
  | 0, _ => []
  | k + 1, u => padk k (u / 10) ++ [UInt8.ofNat (48 + u % 10)]

theorem padk_len : ∀ k u, (padk k u).length = k
  | 0, _ => rfl
  | k + 1, u => by simp [padk, padk_len k]

theorem padk_zero : ∀ k, padk k 0 = List.replicate k 48
  | 0 => rfl
  | k + 1 => by
    rw [padk, Nat.zero_div, padk_zero k]
    show List.replicate k 48 ++ [48] = _
    rw [← List.replicate_succ']

theorem dec_pad : ∀ (k u : Nat), u < 10 ^ (k + 1) → (Lib.decDigits u).length ≤ k + 1 ∧ List.replicate (k + 1 - (Lib.decDigits u).length) 48 ++ Lib.decDigits u = padk (k + 1) u
  | k, u, h => by
    by_cases hu : u < 10
    · rw [Lib.decDigits, dif_pos hu]
      refine ⟨by simp, ?_⟩
      simp only [List.length_cons, List.length_nil, Nat.zero_add, Nat.add_sub_cancel, padk]
      rw [Nat.div_eq_of_lt hu, padk_zero, Nat.mod_eq_of_lt hu]
    · cases k with
      | zero => simp at h; omega
      | succ k =>
        have h10 : u / 10 < 10 ^ (k + 1) := by
          rw [Nat.pow_succ] at h
          omega
        have ih := dec_pad k (u / 10) h10
        rw [Lib.decDigits, dif_neg hu]
        refine ⟨by simp; exact ih.1, ?_⟩
        simp only [List.length_append, List.length_cons, List.length_nil]
        rw [show k + 1 + 1 - ((Lib.decDigits (u / 10)).length + (0 + 1)) = k + 1 - (Lib.decDigits (u / 10)).length by omega, ← List.append_assoc, ih.2]
        rfl

/-- The one text lies ahead of the other one. -/
def Ahead (s t : Bs) : Prop := ∃ c x y r1 r2, s = c ++ x :: r1 ∧ t = c ++ y :: r2 ∧ x.toNat < y.toNat

theorem Ahead.app {s t : Bs} (h : Ahead s t) (a b : Bs) : Ahead (s ++ a) (t ++ b) := by
  obtain ⟨c, x, y, r1, r2, rfl, rfl, hxy⟩ := h
  exact ⟨c, x, y, r1 ++ a, r2 ++ b, by simp, by simp, hxy⟩

theorem Ahead.pre {s t : Bs} (h : Ahead s t) (p : Bs) : Ahead (p ++ s) (p ++ t) := by
  obtain ⟨c, x, y, r1, r2, rfl, rfl, hxy⟩ := h
  exact ⟨p ++ c, x, y, r1, r2, by simp, by simp, hxy⟩

theorem padk_rises : ∀ (k a b : Nat), a < b → b < 10 ^ k → Ahead (padk k a) (padk k b)
  | 0, a, b, h, hb => by simp at hb; omega
  | k + 1, a, b, h, hb => by
    by_cases hd : a / 10 < b / 10
    · exact (padk_rises k (a / 10) (b / 10) hd (by rw [Nat.pow_succ] at hb; omega)).app _ _
    · have he : a / 10 = b / 10 := by omega
      refine ⟨padk k (b / 10), UInt8.ofNat (48 + a % 10), UInt8.ofNat (48 + b % 10), [], [], by rw [padk, he], rfl, ?_⟩
      have e1 : (UInt8.ofNat (48 + a % 10)).toNat = 48 + a % 10 := by rw [UInt8.toNat_ofNat']; omega
      have e2 : (UInt8.ofNat (48 + b % 10)).toNat = 48 + b % 10 := by rw [UInt8.toNat_ofNat']; omega
      rw [e1, e2]
      omega

theorem less_ahead : ∀ (c : Bs) (x y : UInt8) (r1 r2 : Bs), x.toNat < y.toNat → Op.bytesLess (c ++ x :: r1) (c ++ y :: r2) = true
  | [], x, y, r1, r2, h => by
    simp only [List.nil_append, Op.bytesLess, Bool.or_eq_true, decide_eq_true_eq]
    exact .inl (UInt8.lt_iff_toNat_lt.2 h)
  | b :: c, x, y, r1, r2, h => by
    simp only [List.cons_append, Op.bytesLess, less_ahead c x y r1 r2 h, beq_self_eq_true, Bool.and_self, Bool.or_true]

/-- Digits. -/
def Digs (l : Bs) : Prop := ∀ b ∈ l, 48 ≤ b.toNat ∧ b.toNat ≤ 57

theorem padk_digs : ∀ k u, Digs (padk k u)
  | 0, _ => fun b hb => by simp [padk] at hb
  | k + 1, u => fun b hb => by
    rw [padk, List.mem_append] at hb
    rcases hb with hb | hb
    · exact padk_digs k _ b hb
    · simp only [List.mem_cons, List.not_mem_nil, or_false] at hb
      rw [hb, UInt8.toNat_ofNat']
      omega

theorem digs_noslash {l : Bs} (h : Digs l) : NoSlash l := fun hm => by have := (h 47 hm).1; simp at this

theorem rf_digs : ∀ {l : Bs}, Digs l → rf l = none
  | [], _ => rf_nil
  | b :: r, h => by
    have hb := h b (by simp)
    have hr := rf_digs (l := r) (fun x hx => h x (by simp [hx]))
    rw [rf_ascii b r (by omega) (by unfold stand; simp only [Bool.and_eq_true, Bool.or_eq_true, decide_eq_true_eq]; omega), hr]
    rfl

/-- Digits behind a text: whether its code points may stand does not hang on which. -/
theorem rf_digs_app {d : Bs} (hd : Digs d) (h0 : d ≠ []) (l : Bs) : rf (l ++ d) = none ↔ rf l = none := by
  cases d with
  | nil => exact absurd rfl h0
  | cons b r =>
    have hb := hd b (by simp)
    have hr : rf r = none := rf_digs (fun x hx => hd x (by simp [hx]))
    rw [rf_app _ l r b (Nat.le_refl _) (by omega) (by unfold stand; simp only [Bool.and_eq_true, Bool.or_eq_true, decide_eq_true_eq]; omega)]
    cases rf l with
    | none => simp [hr]
    | some k => simp

theorem nf_digs_app {d : Bs} (hd : Digs d) (h0 : d ≠ []) (l : Bs) : nf (l ++ d) = none ↔ l.length + d.length ≤ 24 := by
  unfold nf
  by_cases h : 24 < (l ++ d).length
  · rw [if_pos h]
    simp only [List.length_append] at h
    simp
    omega
  · rw [if_neg h]
    have hx : ¬ (l ++ d = [] ∨ l ++ d = [46] ∨ l ++ d = [46, 46]) := by
      have hmem : ∀ b ∈ d, b ≠ 46 := fun b hb e => by have := (hd b hb).1; rw [e] at this; simp at this
      obtain ⟨b, hb⟩ := List.exists_mem_of_ne_nil d h0
      rintro (e | e | e)
      · simp at e; exact h0 e.2
      · have : b ∈ l ++ d := List.mem_append_right _ hb
        rw [e] at this; simp at this; exact hmem b hb this
      · have : b ∈ l ++ d := List.mem_append_right _ hb
        rw [e] at this; simp at this; exact hmem b hb this
    rw [if_neg hx]
    simp only [List.length_append] at h
    simp
    omega

theorem cutL_digs {d : Bs} (hd : NoSlash d) : ∀ l : Bs, cutL (l ++ d) = (cutL l).map fun x => (x.1, x.2 ++ d)
  | [] => by simp [cutL, cutL_free hd]
  | x :: l => by
    simp only [List.cons_append, cutL, cutL_digs hd l]
    cases h : cutL l with
    | some ab => rfl
    | none =>
      simp only [Option.map_none]
      split <;> rfl

theorem segs_digs {d : Bs} (hd : NoSlash d) (l : Bs) : ∃ init last, segs l = init ++ [last] ∧ segs (l ++ d) = init ++ [last ++ d] := by
  cases h : cutL l with
  | none =>
    have hn := cutL_none h
    refine ⟨[], l, segs_none hn, segs_none ?_⟩
    intro hm
    rcases List.mem_append.1 hm with hm | hm
    · exact hn hm
    · exact hd hm
  | some ab =>
    obtain ⟨a, b⟩ := ab
    obtain ⟨rfl, hb⟩ := cutL_some h
    refine ⟨segs a, b, by rw [segs_app, segs_none hb], ?_⟩
    have hbd : NoSlash (b ++ d) := by
      intro hm
      rcases List.mem_append.1 hm with hm | hm
      · exact hb hm
      · exact hd hm
    rw [List.append_assoc, List.cons_append, segs_app, segs_none hbd]

/-- Two texts that end with digits, as many: both are paths, or none. -/
theorem isPb_digs {d1 d2 : Bs} (h1 : Digs d1) (h2 : Digs d2) (hl : d1.length = d2.length) (h0 : d1 ≠ []) (p : Bs) (hp : (p ++ d1).length ≤ 4294967296) (h : isPb (p ++ d1) = true) : isPb (p ++ d2) = true := by
  have h02 : d2 ≠ [] := fun e => h0 (List.eq_nil_of_length_eq_zero (by rw [hl, e]; rfl))
  have hp2 : (p ++ d2).length ≤ 4294967296 := by simp only [List.length_append] at hp ⊢; omega
  rw [isPb_iff hp2]
  rcases (isPb_iff hp).1 h with e | ⟨r, e, h64, hs⟩
  · exfalso
    have hpos := List.length_pos_iff.2 h0
    obtain ⟨b, hb⟩ := List.exists_mem_of_ne_nil d1 h0
    have hm : b ∈ p ++ d1 := List.mem_append_right _ hb
    rw [e] at hm
    simp only [List.mem_cons, List.not_mem_nil, or_false] at hm
    have := (h1 b hb).1
    rw [hm] at this
    simp at this
  · cases p with
    | nil =>
      simp only [List.nil_append] at e
      have := (h1 47 (by rw [e]; simp)).1
      simp at this
    | cons x q =>
      simp only [List.cons_append, List.cons.injEq] at e
      obtain ⟨rfl, rfl⟩ := e
      refine .inr ⟨q ++ d2, rfl, by simp only [List.length_append, List.cons_append, List.length_cons] at h64 ⊢; omega, ?_⟩
      obtain ⟨init, last, e1, e2⟩ := segs_digs (digs_noslash h1) q
      obtain ⟨init', last', e1', e2'⟩ := segs_digs (digs_noslash h2) q
      rw [e1] at e1'
      obtain ⟨rfl, e3⟩ := List.append_inj' e1' rfl
      simp only [List.cons.injEq, and_true] at e3
      subst e3
      intro s hs'
      rw [e2', List.mem_append] at hs'
      rcases hs' with hs' | hs'
      · exact hs s (by rw [e2]; exact List.mem_append_left _ hs')
      · simp only [List.mem_cons, List.not_mem_nil, or_false] at hs'
        subst hs'
        have := hs (last ++ d1) (by rw [e2]; simp)
        exact ⟨(nf_digs_app h2 h02 last).2 (by have := (nf_digs_app h1 h0 last).1 this.1; omega), (rf_digs_app h2 h02 last).2 ((rf_digs_app h1 h0 last).1 this.2)⟩

theorem parL_digs {d1 d2 : Bs} (h1 : Digs d1) (h2 : Digs d2) (hl : d1.length = d2.length) (h0 : d1 ≠ []) (p : Bs) (hp : (p ++ d1).length ≤ 4294967296) (h : isPb (p ++ d1) = true) : parL (p ++ d1) = parL (p ++ d2) := by
  have hb := isPb_digs h1 h2 hl h0 p hp h
  have h02 : d2 ≠ [] := fun e => h0 (List.eq_nil_of_length_eq_zero (by rw [hl, e]; rfl))
  have n47 : ∀ d : Bs, Digs d → d ≠ [] → p ++ d ≠ [47] := fun d hd hd0 e => by
    obtain ⟨b, hb⟩ := List.exists_mem_of_ne_nil d hd0
    have hm : b ∈ p ++ d := List.mem_append_right _ hb
    rw [e] at hm
    simp only [List.mem_cons, List.not_mem_nil, or_false] at hm
    have := (hd b hb).1
    rw [hm] at this
    simp at this
  have c1 : ¬ (p ++ d1 = [47] ∨ isPb (p ++ d1) = false) := by rintro (e | e); exact n47 d1 h1 h0 e; rw [h] at e; simp at e
  have c2 : ¬ (p ++ d2 = [47] ∨ isPb (p ++ d2) = false) := by rintro (e | e); exact n47 d2 h2 h02 e; rw [hb] at e; simp at e
  unfold parL
  rw [if_neg c1, if_neg c2, cutL_digs (digs_noslash h1), cutL_digs (digs_noslash h2)]
  cases cutL p with
  | none => rfl
  | some ab => rfl

end Go.Proofs.YtgaemldkpfbomaaDoor
