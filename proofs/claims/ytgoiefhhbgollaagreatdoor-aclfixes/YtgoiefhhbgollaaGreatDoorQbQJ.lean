/- Plain facts on the bytes of addresses and ranges: the fields between dots, their numbers, and that both ways of reading an address (field by field; place by place) agree. No Go function is walked here. -/
import Derived.Test.YtgoiefhhbgollaaGreatDoorQaCJ
namespace Go.Proofs.YtgoiefhhbgollaaGreatDoor
open Go.RowKit
set_option maxRecDepth 8000

/-- What stands ahead of the first c. -/
def hdC (c : UInt8) : Bs → Bs
  | [] => []
  | b :: r => if b = c then [] else b :: hdC c r

/-- What stands behind it. -/
def tlC (c : UInt8) : Bs → Bs
  | [] => []
  | b :: r => if b = c then r else tlC c r

/-- The fields of a text. -/
def flds (c : UInt8) : Bs → List Bs
  | [] => [[]]
  | b :: r => if b = c then [] :: flds c r else match flds c r with | s :: t => (b :: s) :: t | [] => [[b]]

theorem hdC_split (c : UInt8) (l : Bs) : (c ∉ l ∧ hdC c l = l ∧ tlC c l = []) ∨ (c ∈ l ∧ c ∉ hdC c l ∧ l = hdC c l ++ c :: tlC c l) := by
  induction l with
  | nil => exact .inl ⟨by simp, rfl, rfl⟩
  | cons b r ih =>
    by_cases hb : b = c
    · refine .inr ⟨by simp [hb], by simp [hdC, hb], by simp [hdC, tlC, hb]⟩
    · have hb' : ¬ c = b := fun e => hb e.symm
      rcases ih with ⟨h1, h2, h3⟩ | ⟨h1, h2, h3⟩
      · exact .inl ⟨by simp [hb', h1], by simp [hdC, hb, h2], by simp [tlC, hb, h3]⟩
      · refine .inr ⟨by simp [h1], by simp [hdC, hb, hb', h2], ?_⟩
        simp only [hdC, tlC, if_neg hb, List.cons_append]
        rw [← h3]

theorem hdC_app {c : UInt8} {a b : Bs} (h : c ∉ a) : hdC c (a ++ c :: b) = a ∧ tlC c (a ++ c :: b) = b := by
  induction a with
  | nil => simp [hdC, tlC]
  | cons x r ih =>
    simp only [List.mem_cons, not_or] at h
    have hx : ¬ x = c := fun e => h.1 e.symm
    have := ih h.2
    simp [hdC, tlC, hx, this.1, this.2]

theorem flds_ne (c : UInt8) (l : Bs) : ∃ x t, flds c l = x :: t := by
  cases l with
  | nil => exact ⟨_, _, rfl⟩
  | cons b r =>
    by_cases hb : b = c
    · exact ⟨[], flds c r, by simp [flds, hb]⟩
    · simp only [flds, if_neg hb]
      cases flds c r with
      | nil => exact ⟨_, _, rfl⟩
      | cons s t => exact ⟨_, _, rfl⟩

theorem flds_none {c : UInt8} {a : Bs} (h : c ∉ a) : flds c a = [a] := by
  induction a with
  | nil => rfl
  | cons x r ih =>
    simp only [List.mem_cons, not_or] at h
    have hx : ¬ x = c := fun e => h.1 e.symm
    simp [flds, hx, ih h.2]

theorem flds_app {c : UInt8} {a : Bs} (b : Bs) (h : c ∉ a) : flds c (a ++ c :: b) = a :: flds c b := by
  induction a with
  | nil => simp [flds]
  | cons x r ih =>
    simp only [List.mem_cons, not_or] at h
    have hx : ¬ x = c := fun e => h.1 e.symm
    simp [flds, hx, ih h.2]

/-- The fields, one by one. -/
theorem flds_step (c : UInt8) (l : Bs) : (c ∉ l ∧ flds c l = [l]) ∨ (c ∈ l ∧ l = hdC c l ++ c :: tlC c l ∧ flds c l = hdC c l :: flds c (tlC c l)) := by
  rcases hdC_split c l with ⟨h1, _, _⟩ | ⟨h1, h2, h3⟩
  · exact .inl ⟨h1, flds_none h1⟩
  · refine .inr ⟨h1, h3, ?_⟩
    conv => lhs; rw [h3]
    exact flds_app _ h2

/-- A field's number up to a last one. -/
def numF (last : Nat) (l : Bs) : Option Nat :=
  if l = [] ∨ (l.getD 0 0 = 48 ∧ 1 < l.length) ∨ l.all isD = false ∨ last < valD l then none else some (valD l)

theorem numF_some {last : Nat} {l : Bs} {n : Nat} (h : numF last l = some n) : l ≠ [] ∧ ¬ (l.getD 0 0 = 48 ∧ 1 < l.length) ∧ l.all isD = true ∧ valD l = n ∧ n ≤ last := by
  unfold numF at h
  split at h
  · simp at h
  · rename_i hn
    simp only [not_or] at hn
    simp only [Option.some.injEq] at h
    exact ⟨hn.1, hn.2.1, by simpa using hn.2.2.1, h, by have := hn.2.2.2; omega⟩

theorem numF_of {last : Nat} {l : Bs} (h1 : l ≠ []) (h2 : ¬ (l.getD 0 0 = 48 ∧ 1 < l.length)) (h3 : l.all isD = true) (h4 : valD l ≤ last) : numF last l = some (valD l) := by
  unfold numF
  rw [if_neg]
  rintro (h | h | h | h)
  · exact h1 h
  · exact h2 h
  · rw [h3] at h; simp at h
  · omega

theorem isD_dot {b : UInt8} (h : isD b = true) : b ≠ 46 ∧ b ≠ 47 := by
  unfold isD at h
  simp only [Bool.and_eq_true, decide_eq_true_eq] at h
  constructor
  · rintro rfl; simp at h
  · rintro rfl; simp at h

theorem all_dot {l : Bs} (h : l.all isD = true) : 46 ∉ l ∧ 47 ∉ l := by
  rw [List.all_eq_true] at h
  exact ⟨fun hm => (isD_dot (h _ hm)).1 rfl, fun hm => (isD_dot (h _ hm)).2 rfl⟩

/-- It ends, or no digit is next. -/
def nd (r : Bs) : Prop := ∀ b t, r = b :: t → isD b = false

theorem dgs_all {x r : Bs} : ∀ {k : Nat}, x.all isD = true → nd r → x.length ≤ k → dgs k (x ++ r) = x := by
  induction x with
  | nil => intro k _ hr _; simpa using dgs_drop (k := k) hr
  | cons b t ih =>
    intro k hx hr hk
    simp only [List.all_cons, Bool.and_eq_true] at hx
    cases k with
    | zero => simp at hk
    | succ k =>
      simp only [List.cons_append, dgs, hx.1, if_true]
      rw [ih hx.2 hr (by simp at hk; omega)]

theorem valD_lead {b : UInt8} {t : Bs} : valD (b :: t) = (b.toNat - 48) * 10 ^ t.length + valD t := by
  have key : ∀ (t : Bs) (n : Nat), t.foldl (fun n b => 10 * n + (b.toNat - 48)) n = n * 10 ^ t.length + valD t := by
    intro t
    induction t with
    | nil => intro n; simp [valD]
    | cons c r ih =>
      intro n
      unfold valD
      simp only [List.foldl_cons, List.length_cons]
      rw [ih, ih (10 * 0 + (c.toNat - 48))]
      simp only [Nat.mul_zero, Nat.zero_add, Nat.pow_succ, Nat.add_mul]
      have : 10 * n * 10 ^ r.length = n * (10 ^ r.length * 10) := by rw [Nat.mul_comm 10 n, Nat.mul_assoc, Nat.mul_comm 10]
      omega
  unfold valD
  simp only [List.foldl_cons]
  rw [key]
  simp [valD]

theorem long_val {b : UInt8} {t : Bs} (hb : isD b = true) (h0 : b ≠ 48) (ht : 3 ≤ t.length) : 999 < valD (b :: t) := by
  rw [valD_lead]
  have hb' : 1 ≤ b.toNat - 48 := by
    unfold isD at hb
    simp only [Bool.and_eq_true, decide_eq_true_eq] at hb
    have : b.toNat ≠ 48 := fun e => h0 (UInt8.toNat_inj.1 (by simpa using e))
    omega
  have hp : 10 ^ 3 ≤ 10 ^ t.length := Nat.pow_le_pow_right (by omega) ht
  have : 1 * 10 ^ t.length ≤ (b.toNat - 48) * 10 ^ t.length := Nat.mul_le_mul_right _ hb'
  omega

theorem numF_short {l : Bs} {n : Nat} (h : numF 255 l = some n) : l.length ≤ 3 := by
  obtain ⟨h1, h2, h3, h4, h5⟩ := numF_some h
  cases l with
  | nil => simp
  | cons b t =>
    simp only [List.all_cons, Bool.and_eq_true] at h3
    by_cases hl : 3 ≤ t.length
    · have hb : b ≠ 48 := fun e => h2 ⟨by simp [e], by simp; omega⟩
      have := long_val h3.1 hb hl
      omega
    · simp; omega

theorem numR_of {x r : Bs} {n : Nat} (h : numF 255 x = some n) (hr : nd r) : numR (x ++ r) = some (n, x.length) := by
  have hs := numF_short h
  obtain ⟨h1, h2, h3, h4, h5⟩ := numF_some h
  unfold numR
  rw [dgs_all h3 hr (by omega), h4, if_neg]
  rintro (h | h | ⟨h, h'⟩)
  · exact h1 h
  · omega
  · refine h2 ⟨?_, h⟩
    cases x with
    | nil => simp at h
    | cons b t => simpa using h'

theorem dgs_spec : ∀ (k : Nat) (l : Bs), ∃ r, l = dgs k l ++ r ∧ (dgs k l).all isD = true ∧ (dgs k l).length ≤ k ∧ ((dgs k l).length < k → nd r)
  | 0, l => ⟨l, by simp [dgs], by simp [dgs], by simp [dgs], fun h => by omega⟩
  | k + 1, [] => ⟨[], by simp [dgs], by simp [dgs], by simp [dgs], fun _ b t h => by simp at h⟩
  | k + 1, b :: r => by
    by_cases hb : isD b = true
    · obtain ⟨r', h1, h2, h3, h4⟩ := dgs_spec k r
      refine ⟨r', ?_, ?_, ?_, ?_⟩
      · simp only [dgs, hb, if_true, List.cons_append]; rw [← h1]
      · simp only [dgs, hb, if_true, List.all_cons, h2, Bool.and_true]
      · simp only [dgs, hb, if_true, List.length_cons]; omega
      · simp only [dgs, hb, if_true, List.length_cons]; intro h; exact h4 (by omega)
    · refine ⟨b :: r, by simp [dgs, hb], by simp [dgs, hb], by simp [dgs, hb], fun _ c t h => ?_⟩
      simp only [List.cons.injEq] at h
      rw [← h.1]; simpa using hb

theorem numR_inv {l : Bs} {n k : Nat} (h : numR l = some (n, k)) : ∃ x r, l = x ++ r ∧ x.length = k ∧ numF 255 x = some n ∧ nd r := by
  obtain ⟨r, h1, h2, h3, h4⟩ := dgs_spec 4 l
  unfold numR at h
  split at h
  · simp at h
  · rename_i hn
    simp only [not_or, not_and] at hn
    simp only [Option.some.injEq, Prod.mk.injEq] at h
    obtain ⟨rfl, rfl⟩ := h
    obtain ⟨x, hx⟩ : ∃ x, x = dgs 4 l := ⟨_, rfl⟩
    rw [← hx] at h1 h2 h3 h4 hn ⊢
    have h0 : 1 < x.length → ¬ x.getD 0 0 = 48 := by
      intro hl e
      refine hn.2.2 hl ?_
      rw [h1]
      cases x with
      | nil => simp at hl
      | cons b t => simpa using e
    have hlt : x.length < 4 := by
      cases x with
      | nil => simp
      | cons b t =>
        simp only [List.all_cons, Bool.and_eq_true] at h2
        by_cases hl : 3 ≤ t.length
        · have hb : b ≠ 48 := fun e => h0 (by simp; omega) (by simp [e])
          have := long_val h2.1 hb hl
          omega
        · simp; omega
    exact ⟨x, r, h1, rfl, numF_of hn.1 (fun h => h0 h.2 h.1) h2 (by omega), h4 hlt⟩

/-- A text that begins with an address: its four fields, its number, and what stands behind it. -/
def AdrS (l : Bs) (a : Nat) (r : Bs) : Prop := ∃ x0 x1 x2 x3 n0 n1 n2 n3, l = x0 ++ 46 :: (x1 ++ 46 :: (x2 ++ 46 :: (x3 ++ r))) ∧ numF 255 x0 = some n0 ∧ numF 255 x1 = some n1 ∧ numF 255 x2 = some n2 ∧ numF 255 x3 = some n3 ∧ a = ((n0 * 256 + n1) * 256 + n2) * 256 + n3 ∧ nd r

theorem nd_dot (t : Bs) : nd (46 :: t) := by
  rintro b r h
  simp only [List.cons.injEq] at h
  rw [← h.1]; rfl

theorem dotR_at {l pre t : Bs} {k : Nat} (hk : k ≠ 0) (hl : l = pre ++ 46 :: t) : dotR l k pre.length = some (pre.length + 1) := by
  unfold dotR
  rw [if_neg hk, if_pos]
  subst hl
  exact ⟨by simp, by simp [List.getD_eq_getElem?_getD]⟩

theorem adr_one {l pre : Bs} {k all : Nat} {x r : Bs} {n : Nat} (hk : k ≠ 0) (h : adr l k = some (all, pre.length)) (hl : l = pre ++ 46 :: (x ++ r)) (hx : numF 255 x = some n) (hr : nd r) : adr l (k + 1) = some (all * 256 + n, (pre ++ 46 :: x).length) := by
  rw [adr_num h (dotR_at hk hl)]
  have : l.drop (pre.length + 1) = x ++ r := by
    rw [hl, show pre.length + 1 = (pre ++ [46]).length by simp]
    rw [show pre ++ 46 :: (x ++ r) = (pre ++ [46]) ++ (x ++ r) by simp, List.drop_left]
  rw [this, numR_of hx hr]
  simp
  omega

theorem adr_of {l r : Bs} {a : Nat} (h : AdrS l a r) : ∃ p, adr l 4 = some (a, p) ∧ p + r.length = l.length := by
  obtain ⟨x0, x1, x2, x3, n0, n1, n2, n3, hl, h0, h1, h2, h3, ha, hr⟩ := h
  have e1 : adr l 1 = some (n0, x0.length) := by
    have hd : dotR l 0 0 = some 0 := by unfold dotR; rw [if_pos rfl]
    rw [adr_num (k := 0) rfl hd, List.drop_zero, hl, numR_of h0 (nd_dot _)]
    simp
  have e2 := adr_one (k := 1) (by omega) e1 hl h1 (nd_dot _)
  have e3 := adr_one (k := 2) (pre := x0 ++ 46 :: x1) (r := 46 :: (x3 ++ r)) (by omega) e2 (by rw [hl]; simp) h2 (nd_dot _)
  have e4 := adr_one (k := 3) (pre := x0 ++ 46 :: x1 ++ 46 :: x2) (by omega) e3 (by rw [hl]; simp) h3 hr
  refine ⟨_, by rw [e4, ha], ?_⟩
  rw [hl]
  simp
  omega

theorem dotR_inv {l : Bs} {k p a : Nat} (hk : k ≠ 0) (h : dotR l k p = some a) : a = p + 1 ∧ p < l.length ∧ l.getD p 0 = 46 := by
  unfold dotR at h
  rw [if_neg hk] at h
  split at h
  · rename_i hc
    simp at h
    exact ⟨h.symm, hc.1, hc.2⟩
  · simp at h

theorem adr_back {l : Bs} {k a p : Nat} (hk : k ≠ 0) (h : adr l (k + 1) = some (a, p)) : ∃ all q n x r, adr l k = some (all, q) ∧ l.drop q = 46 :: (x ++ r) ∧ numF 255 x = some n ∧ nd r ∧ a = all * 256 + n ∧ p = q + 1 + x.length := by
  cases h0 : adr l k with
  | none => rw [adr, h0] at h; simp at h
  | some y =>
    obtain ⟨all, q⟩ := y
    cases hd : dotR l k q with
    | none => rw [adr_dot h0 hd] at h; simp at h
    | some c =>
      rw [adr_num h0 hd] at h
      obtain ⟨rfl, hq, h46⟩ := dotR_inv hk hd
      cases hn : numR (l.drop (q + 1)) with
      | none => rw [hn] at h; simp at h
      | some z =>
        obtain ⟨n, m⟩ := z
        rw [hn] at h
        simp at h
        obtain ⟨x, r, e1, e2, e3, e4⟩ := numR_inv hn
        refine ⟨all, q, n, x, r, rfl, ?_, e3, e4, by omega, by omega⟩
        rw [drop_at l q hq, h46, e1]

theorem adr_inv {l : Bs} {a p : Nat} (h : adr l 4 = some (a, p)) : ∃ r, AdrS l a r ∧ p + r.length = l.length := by
  obtain ⟨a3, q3, n3, x3, r3, h3, d3, f3, t3, s3, p3⟩ := adr_back (k := 3) (by omega) h
  obtain ⟨a2, q2, n2, x2, r2, h2, d2, f2, t2, s2, p2⟩ := adr_back (k := 2) (by omega) h3
  obtain ⟨a1, q1, n1, x1, r1, h1, d1, f1, t1, s1, p1⟩ := adr_back (k := 1) (by omega) h2
  have hd : dotR l 0 0 = some 0 := by unfold dotR; rw [if_pos rfl]
  rw [adr_num (k := 0) rfl hd, List.drop_zero] at h1
  cases hn : numR l with
  | none => rw [hn] at h1; simp at h1
  | some z =>
    obtain ⟨n0, m⟩ := z
    rw [hn] at h1
    simp at h1
    obtain ⟨x0, r0, e1, e2, e3, e4⟩ := numR_inv hn
    have g1 : r0 = 46 :: (x1 ++ r1) := by
      rw [← d1, e1, show q1 = x0.length by omega, List.drop_left]
    have g2 : r1 = 46 :: (x2 ++ r2) := by
      have : l.drop q2 = r1 := by
        rw [e1, g1, show q2 = (x0 ++ 46 :: x1).length by simp; omega, show x0 ++ 46 :: (x1 ++ r1) = (x0 ++ 46 :: x1) ++ r1 by simp, List.drop_left]
      rw [← this, d2]
    have g3 : r2 = 46 :: (x3 ++ r3) := by
      have : l.drop q3 = r2 := by
        rw [e1, g1, g2, show q3 = (x0 ++ 46 :: x1 ++ 46 :: x2).length by simp; omega, show x0 ++ 46 :: (x1 ++ 46 :: (x2 ++ r2)) = (x0 ++ 46 :: x1 ++ 46 :: x2) ++ r2 by simp, List.drop_left]
      rw [← this, d3]
    refine ⟨r3, ⟨x0, x1, x2, x3, n0, n1, n2, n3, by rw [e1, g1, g2, g3], e3, f1, f2, f3, by rw [s3, s2, s1, ← h1.1], t3⟩, ?_⟩
    rw [e1, g1, g2, g3]
    simp
    omega

/-- The four numbers of an address, read field by field. -/
def adD (l : Bs) : Option (List Nat) := if (flds 46 l).length = 4 ∧ (flds 46 l).all (fun x => (numF 255 x).isSome) then some ((flds 46 l).map valD) else none

def numA (ns : List Nat) : Nat := ns.foldl (fun a n => a * 256 + n) 0

theorem flds_join {c : UInt8} : ∀ {l : Bs} {x : Bs} {t : List Bs}, flds c l = x :: t → (t = [] → l = x) ∧ ∀ y u, t = y :: u → ∃ l', l = x ++ c :: l' ∧ flds c l' = t := by
  intro l x t h
  rcases flds_step c l with ⟨_, h2⟩ | ⟨_, h2, h3⟩
  · rw [h2] at h
    simp only [List.cons.injEq] at h
    exact ⟨fun _ => h.1, fun y u e => by rw [← h.2] at e; simp at e⟩
  · rw [h3] at h
    simp only [List.cons.injEq] at h
    refine ⟨fun e => ?_, fun y u _ => ⟨tlC c l, by rw [← h.1]; exact h2, h.2⟩⟩
    obtain ⟨y, u, hy⟩ := flds_ne c (tlC c l)
    rw [h.2, e] at hy
    simp at hy

theorem okF {x : Bs} (h : (numF 255 x).isSome = true) : numF 255 x = some (valD x) := by
  cases hn : numF 255 x with
  | none => rw [hn] at h; simp at h
  | some n => rw [(numF_some hn).2.2.2.1]

/-- Both ways agree. -/
theorem adD_adr (l : Bs) : (∀ ns, adD l = some ns → ∃ a b c d, ns = [a, b, c, d] ∧ a ≤ 255 ∧ b ≤ 255 ∧ c ≤ 255 ∧ d ≤ 255 ∧ adr l 4 = some (numA ns, l.length)) ∧ (∀ a, adr l 4 = some (a, l.length) → ∃ ns, adD l = some ns ∧ numA ns = a) := by
  constructor
  · intro ns h
    unfold adD at h
    split at h
    · rename_i hc
      simp only [Option.some.injEq] at h
      obtain ⟨h4, hall⟩ := hc
      match hf : flds 46 l, h4 with
      | [x0, x1, x2, x3], _ =>
        rw [hf] at hall h
        simp only [List.all_cons, List.all_nil, Bool.and_true, Bool.and_eq_true] at hall
        obtain ⟨k0, k1, k2, k3⟩ := hall
        obtain ⟨l1, e1, f1⟩ := (flds_join hf).2 _ _ rfl
        obtain ⟨l2, e2, f2⟩ := (flds_join f1).2 _ _ rfl
        obtain ⟨l3, e3, f3⟩ := (flds_join f2).2 _ _ rfl
        have e4 := (flds_join f3).1 rfl
        have hS : AdrS l (numA ns) [] := ⟨x0, x1, x2, x3, _, _, _, _, by rw [e1, e2, e3, e4]; simp, okF k0, okF k1, okF k2, okF k3, by rw [← h]; simp [numA], fun b t h => by simp at h⟩
        obtain ⟨p, hp, hq⟩ := adr_of hS
        refine ⟨_, _, _, _, h.symm, (numF_some (okF k0)).2.2.2.2, (numF_some (okF k1)).2.2.2.2, (numF_some (okF k2)).2.2.2.2, (numF_some (okF k3)).2.2.2.2, ?_⟩
        rw [hp, show p = l.length by simpa using hq]
    · simp at h
  · intro a h
    obtain ⟨r, ⟨x0, x1, x2, x3, n0, n1, n2, n3, hl, h0, h1, h2, h3, ha, hr⟩, hp⟩ := adr_inv h
    have hr0 : r = [] := List.length_eq_zero_iff.1 (by omega)
    subst hr0
    have d0 := (all_dot (numF_some h0).2.2.1).1
    have d1 := (all_dot (numF_some h1).2.2.1).1
    have d2 := (all_dot (numF_some h2).2.2.1).1
    have d3 := (all_dot (numF_some h3).2.2.1).1
    have hf : flds 46 l = [x0, x1, x2, x3] := by
      rw [hl, List.append_nil, flds_app _ d0, flds_app _ d1, flds_app _ d2, flds_none d3]
    refine ⟨[valD x0, valD x1, valD x2, valD x3], ?_, ?_⟩
    · unfold adD
      rw [hf, if_pos]
      · rfl
      · exact ⟨rfl, by simp [h0, h1, h2, h3]⟩
    · rw [ha, ← (numF_some h0).2.2.2.1, ← (numF_some h1).2.2.2.1, ← (numF_some h2).2.2.2.1, ← (numF_some h3).2.2.2.1]
      simp [numA]

end Go.Proofs.YtgoiefhhbgollaaGreatDoor

/- Plain facts on ranges of addresses: both ways of reading one agree; which addresses lie within one, by bytes and by bits; the texts of numbers and addresses. No Go function is walked here. -/
namespace Go.Proofs.YtgoiefhhbgollaaGreatDoor
open Go.RowKit
set_option maxRecDepth 8000

/-- A range, read as an address ahead of the first slash and a number behind it. -/
def rngD (l : Bs) : Option (List Nat × Nat) := if 47 ∈ l then (match adD (hdC 47 l), numF 32 (tlC 47 l) with | some ns, some n => some (ns, n) | _, _ => none) else (adD l).map fun ns => (ns, 32)

/-- Four bytes. -/
def Four (ns : List Nat) : Prop := ∃ a b c d, ns = [a, b, c, d] ∧ a ≤ 255 ∧ b ≤ 255 ∧ c ≤ 255 ∧ d ≤ 255

theorem adD_four {l : Bs} {ns : List Nat} (h : adD l = some ns) : Four ns := by
  obtain ⟨a, b, c, d, h1, h2, h3, h4, h5, _⟩ := (adD_adr l).1 ns h
  exact ⟨a, b, c, d, h1, h2, h3, h4, h5⟩

theorem nd_slash (t : Bs) : nd (47 :: t) := by
  rintro b r h
  simp only [List.cons.injEq] at h
  rw [← h.1]; rfl

theorem numF_up {k m n : Nat} {l : Bs} (h : numF k l = some n) (hm : n ≤ m) : numF m l = some n := by
  obtain ⟨h1, h2, h3, h4, h5⟩ := numF_some h
  rw [← h4]
  exact numF_of h1 h2 h3 (by omega)

theorem AdrS.cut {l r : Bs} {a : Nat} (h : AdrS l a r) : ∃ z, l = z ++ r ∧ 47 ∉ z ∧ AdrS z a [] := by
  obtain ⟨x0, x1, x2, x3, n0, n1, n2, n3, hl, h0, h1, h2, h3, ha, hr⟩ := h
  refine ⟨x0 ++ 46 :: (x1 ++ 46 :: (x2 ++ 46 :: x3)), by rw [hl]; simp, ?_, x0, x1, x2, x3, n0, n1, n2, n3, by simp, h0, h1, h2, h3, ha, fun b t h => by simp at h⟩
  have d0 := (all_dot (numF_some h0).2.2.1).2
  have d1 := (all_dot (numF_some h1).2.2.1).2
  have d2 := (all_dot (numF_some h2).2.2.1).2
  have d3 := (all_dot (numF_some h3).2.2.1).2
  simp [d0, d1, d2, d3]

theorem AdrS.put {z r : Bs} {a : Nat} (h : AdrS z a []) (hr : nd r) : AdrS (z ++ r) a r := by
  obtain ⟨x0, x1, x2, x3, n0, n1, n2, n3, hl, h0, h1, h2, h3, ha, _⟩ := h
  exact ⟨x0, x1, x2, x3, n0, n1, n2, n3, by rw [hl]; simp, h0, h1, h2, h3, ha, hr⟩

/-- Both ways of reading a range agree. -/
theorem rngD_rngR (l : Bs) : (∀ ns n, rngD l = some (ns, n) → rngR l = some (numA ns, n) ∧ Four ns ∧ n ≤ 32) ∧ (∀ a n, rngR l = some (a, n) → ∃ ns, rngD l = some (ns, n) ∧ numA ns = a) := by
  rcases hdC_split 47 l with ⟨h1, _, _⟩ | ⟨h1, h2, h3⟩
  · constructor
    · intro ns n h
      unfold rngD at h
      rw [if_neg h1] at h
      cases ha : adD l with
      | none => rw [ha] at h; simp at h
      | some ms =>
        rw [ha] at h
        simp only [Option.map_some, Option.some.injEq, Prod.mk.injEq] at h
        obtain ⟨rfl, rfl⟩ := h
        obtain ⟨_, _, _, _, _, _, _, _, _, hr⟩ := (adD_adr l).1 _ ha
        refine ⟨?_, adD_four ha, by omega⟩
        unfold rngR
        rw [hr]
        simp
    · intro a n h
      unfold rngR at h
      cases ha : adr l 4 with
      | none => rw [ha] at h; simp at h
      | some x =>
        obtain ⟨a', p⟩ := x
        rw [ha] at h
        have hle := adr_le ha
        by_cases hp : p = l.length
        · simp only [if_pos hp, Option.some.injEq, Prod.mk.injEq] at h
          subst hp
          obtain ⟨ns, e1, e2⟩ := (adD_adr l).2 a' ha
          refine ⟨ns, ?_, by omega⟩
          unfold rngD
          rw [if_neg h1, e1, ← h.2]
          rfl
        · have hne : ¬ l.getD p 0 = 47 := by
            intro e
            rw [List.getD_eq_getElem?_getD, List.getElem?_eq_getElem (by omega)] at e
            simp only [Option.getD_some] at e
            exact h1 (e ▸ List.getElem_mem (by omega))
          simp only [if_neg hp, if_neg hne] at h
          simp at h
  · constructor
    · intro ns n h
      unfold rngD at h
      rw [if_pos h1] at h
      cases ha : adD (hdC 47 l) with
      | none => rw [ha] at h; simp at h
      | some ms =>
        cases hb : numF 32 (tlC 47 l) with
        | none => rw [ha, hb] at h; simp at h
        | some m =>
          rw [ha, hb] at h
          simp only [Option.some.injEq, Prod.mk.injEq] at h
          obtain ⟨rfl, rfl⟩ := h
          obtain ⟨_, _, _, _, _, _, _, _, _, hr⟩ := (adD_adr _).1 _ ha
          obtain ⟨r, hS, hp⟩ := adr_inv hr
          have hr0 : r = [] := List.length_eq_zero_iff.1 (by omega)
          subst hr0
          have h32 := (numF_some hb).2.2.2.2
          obtain ⟨p, e1, e2⟩ := adr_of (hS.put (nd_slash (tlC 47 l)))
          rw [← h3] at e1 e2
          have hlen : l.length = (hdC 47 l).length + ((tlC 47 l).length + 1) := by
            have := congrArg List.length h3
            simpa using this
          have hpp : p = (hdC 47 l).length := by simp at e2; omega
          refine ⟨?_, adD_four ha, h32⟩
          unfold rngR
          have key : ∀ h t : Bs, l = h ++ 47 :: t → p = h.length → l.getD p 0 = 47 ∧ l.drop (p + 1) = t := by
            rintro h t rfl rfl
            refine ⟨by simp [List.getD_eq_getElem?_getD], ?_⟩
            rw [show h ++ 47 :: t = (h ++ [47]) ++ t by simp, show h.length + 1 = (h ++ [47]).length by simp, List.drop_left]
          obtain ⟨hg, hd⟩ := key _ _ h3 hpp
          have hnr := numR_of (r := []) (numF_up hb (show m ≤ 255 by omega)) (fun b t h => by simp at h)
          rw [List.append_nil] at hnr
          rw [e1]
          simp only [if_neg (show ¬ p = l.length by omega), if_pos hg, hd, hnr]
          rw [if_pos ⟨by omega, h32⟩]
    · intro a n h
      unfold rngR at h
      cases ha : adr l 4 with
      | none => rw [ha] at h; simp at h
      | some x =>
        obtain ⟨a', p⟩ := x
        rw [ha] at h
        obtain ⟨r, hS, hpl⟩ := adr_inv ha
        obtain ⟨z, hz, hz47, hzS⟩ := hS.cut
        have hzl : l.length = z.length + r.length := by rw [hz]; simp
        by_cases hp : p = l.length
        · have hr0 : r = [] := List.length_eq_zero_iff.1 (by omega)
          rw [hr0, List.append_nil] at hz
          exact absurd (hz ▸ h1) hz47
        · simp only [if_neg hp] at h
          by_cases hg : l.getD p 0 = 47
          · simp only [if_pos hg] at h
            have hpz : p = z.length := by omega
            cases r with
            | nil => simp at hpl; omega
            | cons b t =>
              have hb : b = 47 := by
                rw [hz, hpz] at hg
                simpa [List.getD_eq_getElem?_getD] using hg
              subst hb
              have hap := hdC_app (b := t) hz47
              rw [← hz] at hap
              have hd : l.drop (p + 1) = t := by
                rw [hz, hpz, show z ++ 47 :: t = (z ++ [47]) ++ t by simp, show z.length + 1 = (z ++ [47]).length by simp, List.drop_left]
              rw [hd] at h
              cases hn : numR t with
              | none => rw [hn] at h; simp at h
              | some y =>
                obtain ⟨n', m⟩ := y
                rw [hn] at h
                by_cases hc : p + 1 + m = l.length ∧ n' ≤ 32
                · simp only [if_pos hc, Option.some.injEq, Prod.mk.injEq] at h
                  obtain ⟨x, r', e1, e2, e3, _⟩ := numR_inv hn
                  have hr' : r' = [] := by
                    have : t.length = x.length + r'.length := by rw [e1]; simp
                    simp at hzl
                    exact List.length_eq_zero_iff.1 (by omega)
                  rw [hr', List.append_nil] at e1
                  obtain ⟨q, g1, g2⟩ := adr_of hzS
                  simp at g2
                  rw [g2] at g1
                  obtain ⟨ns, f1, f2⟩ := (adD_adr z).2 a' g1
                  refine ⟨ns, ?_, by omega⟩
                  unfold rngD
                  rw [if_pos h1, hap.1, hap.2, f1, e1, numF_up e3 hc.2]
                  simp [h.2]
                · simp only [if_neg hc] at h
                  simp at h
          · simp only [if_neg hg] at h
            simp at h

/-- How many of a byte's bits count. -/
def cnt (n j : Nat) : Nat := min (n - 8 * j) 8

/-- Four bytes are the same up to the first n bits. -/
def metA (n : Nat) (xs ys : List Nat) : Bool := (List.range 4).all fun j => xs.getD j 0 / 2 ^ (8 - cnt n j) == ys.getD j 0 / 2 ^ (8 - cnt n j)

def bitN (xs : List Nat) (i : Nat) : Nat := xs.getD (i / 8) 0 / 2 ^ (7 - i % 8) % 2

theorem byte_bits {a b : Nat} (ha : a ≤ 255) (hb : b ≤ 255) {k : Nat} (hk : k ≤ 8) : a / 2 ^ (8 - k) = b / 2 ^ (8 - k) ↔ ∀ r, r < k → a / 2 ^ (7 - r) % 2 = b / 2 ^ (7 - r) % 2 := by
  constructor
  · intro h r hr
    have e : ∀ x : Nat, x / 2 ^ (7 - r) = x / 2 ^ (8 - k) / 2 ^ (k - 1 - r) ∨ True := fun x => .inr trivial
    have e2 : ∀ x : Nat, x / 2 ^ (7 - r) = x / 2 ^ (8 - k) / 2 ^ (k - 1 - r) := fun x => by
      rw [Nat.div_div_eq_div_mul, ← Nat.pow_add]
      congr 2
      omega
    rw [e2 a, e2 b, h]
  · induction k with
    | zero => intro _; rw [Nat.div_eq_of_lt (by simp; omega), Nat.div_eq_of_lt (by simp; omega)]
    | succ k ih =>
      intro h
      have h1 := ih (by omega) (fun r hr => h r (by omega))
      have h2 := h k (by omega)
      have e3 : 8 - (k + 1) = 7 - k := by omega
      have e4 : ∀ x : Nat, x / 2 ^ (8 - k) = x / 2 ^ (7 - k) / 2 := fun x => by
        rw [Nat.div_div_eq_div_mul, show 8 - k = (7 - k) + 1 by omega, Nat.pow_succ]
      rw [e4 a, e4 b] at h1
      rw [e3]
      omega

theorem metA_bits {xs ys : List Nat} (hx : Four xs) (hy : Four ys) {n : Nat} (hn : n ≤ 32) : metA n xs ys = true ↔ ∀ i, i < n → bitN xs i = bitN ys i := by
  obtain ⟨a, b, c, d, rfl, ha, hb, hc, hd⟩ := hx
  obtain ⟨a', b', c', d', rfl, ha', hb', hc', hd'⟩ := hy
  have bx : ∀ j, [a, b, c, d].getD j 0 ≤ 255 := by
    intro j
    match j with
    | 0 => simpa using ha
    | 1 => simpa using hb
    | 2 => simpa using hc
    | 3 => simpa using hd
    | j + 4 => simp
  have bY : ∀ j, [a', b', c', d'].getD j 0 ≤ 255 := by
    intro j
    match j with
    | 0 => simpa using ha'
    | 1 => simpa using hb'
    | 2 => simpa using hc'
    | 3 => simpa using hd'
    | j + 4 => simp
  unfold metA
  rw [List.all_eq_true]
  simp only [List.mem_range, beq_iff_eq]
  constructor
  · intro h i hi
    have hj := (byte_bits (bx (i / 8)) (bY (i / 8)) (show cnt n (i / 8) ≤ 8 by unfold cnt; omega)).1 (h (i / 8) (by omega)) (i % 8) (by unfold cnt; omega)
    exact hj
  · intro h j hj
    refine (byte_bits (bx j) (bY j) (show cnt n j ≤ 8 by unfold cnt; omega)).2 (fun r hr => ?_)
    have := h (8 * j + r) (by unfold cnt at hr; omega)
    unfold bitN at this
    have hr8 : r < 8 := by unfold cnt at hr; omega
    rw [show (8 * j + r) / 8 = j by omega, show (8 * j + r) % 8 = r by omega] at this
    exact this

theorem numA_bit {xs : List Nat} (hx : Four xs) {i : Nat} (hi : i < 32) : numA xs / 2 ^ (31 - i) % 2 = bitN xs i := by
  obtain ⟨a, b, c, d, rfl, ha, hb, hc, hd⟩ := hx
  have hnum : numA [a, b, c, d] = ((a * 256 + b) * 256 + c) * 256 + d := by simp [numA]
  rw [hnum]
  have sp : ∀ (u v q : Nat), v < 2 ^ q → ∀ r, (u * 2 ^ q + v) / 2 ^ (q + r) = u / 2 ^ r := by
    intro u v q hv r
    rw [Nat.pow_add, ← Nat.div_div_eq_div_mul, Nat.mul_comm u, Nat.mul_add_div (Nat.two_pow_pos q), Nat.div_eq_of_lt hv, Nat.add_zero]
  have lo : ∀ (u v r : Nat), r < 8 → v ≤ 255 → ∀ q, (u * 256 * 2 ^ q + v * 2 ^ q) / 2 ^ (q + r) % 2 = v / 2 ^ r % 2 := by
    intro u v r hr hv q
    rw [Nat.pow_add, ← Nat.div_div_eq_div_mul, ← Nat.add_mul, Nat.mul_div_cancel _ (Nat.two_pow_pos q)]
    have hr8 : r = 0 ∨ r = 1 ∨ r = 2 ∨ r = 3 ∨ r = 4 ∨ r = 5 ∨ r = 6 ∨ r = 7 := by omega
    rcases hr8 with rfl | rfl | rfl | rfl | rfl | rfl | rfl | rfl <;> simp only [Nat.reducePow] <;> omega
  unfold bitN
  have hq : i / 8 = 0 ∨ i / 8 = 1 ∨ i / 8 = 2 ∨ i / 8 = 3 := by omega
  rcases hq with h | h | h | h <;> rw [h]
  · have := sp a ((b * 256 + c) * 256 + d) 24 (by simp; omega) (7 - i % 8)
    rw [show 31 - i = 24 + (7 - i % 8) by omega, show ((a * 256 + b) * 256 + c) * 256 + d = a * 2 ^ 24 + ((b * 256 + c) * 256 + d) by simp; omega, this]
    rfl
  · have := sp (a * 256 + b) (c * 256 + d) 16 (by simp; omega) (7 - i % 8)
    rw [show 31 - i = 16 + (7 - i % 8) by omega, show ((a * 256 + b) * 256 + c) * 256 + d = (a * 256 + b) * 2 ^ 16 + (c * 256 + d) by simp; omega, this]
    have l2 := lo a b (7 - i % 8) (by omega) hb 0
    simp only [Nat.pow_zero, Nat.mul_one, Nat.zero_add] at l2
    exact l2
  · have := sp ((a * 256 + b) * 256 + c) d 8 (by simp; omega) (7 - i % 8)
    rw [show 31 - i = 8 + (7 - i % 8) by omega, show ((a * 256 + b) * 256 + c) * 256 + d = ((a * 256 + b) * 256 + c) * 2 ^ 8 + d by simp, this]
    have l2 := lo (a * 256 + b) c (7 - i % 8) (by omega) hc 0
    simp only [Nat.pow_zero, Nat.mul_one, Nat.zero_add] at l2
    exact l2
  · have l2 := lo ((a * 256 + b) * 256 + c) d (7 - i % 8) (by omega) hd 0
    simp only [Nat.pow_zero, Nat.mul_one, Nat.zero_add] at l2
    rw [show 31 - i = 7 - i % 8 by omega]
    exact l2

/-- A number's text in decimal, up to 999. -/
def dec3 (n : Nat) : Bs := if n < 10 then [UInt8.ofNat (48 + n)] else if n < 100 then [UInt8.ofNat (48 + n / 10), UInt8.ofNat (48 + n % 10)] else [UInt8.ofNat (48 + n / 100), UInt8.ofNat (48 + n / 10 % 10), UInt8.ofNat (48 + n % 10)]

theorem dec3_all : ∀ n : Fin 256, dec3 n.1 ≠ [] ∧ ¬ ((dec3 n.1).getD 0 0 = 48 ∧ 1 < (dec3 n.1).length) ∧ (dec3 n.1).all isD = true ∧ valD (dec3 n.1) = n.1 := by decide +kernel

theorem dec3_num {n last : Nat} (h : n ≤ 255) (hl : n ≤ last) : numF last (dec3 n) = some n := by
  obtain ⟨h1, h2, h3, h4⟩ := dec3_all ⟨n, by omega⟩
  simp only at h1 h2 h3 h4
  have := numF_of h1 h2 h3 (last := last) (by omega)
  rw [this, h4]

theorem dec3_over {n last : Nat} (h : n ≤ 255) (hl : last < n) : numF last (dec3 n) = none := by
  obtain ⟨_, _, _, h4⟩ := dec3_all ⟨n, by omega⟩
  simp only at h4
  unfold numF
  rw [if_pos (.inr (.inr (.inr (by omega))))]

theorem dec3_dot {n : Nat} (h : n ≤ 255) : 46 ∉ dec3 n ∧ 47 ∉ dec3 n := all_dot (dec3_all ⟨n, by omega⟩).2.2.1

/-- An address's text. -/
def txtA (a b c d : Nat) : Bs := dec3 a ++ 46 :: (dec3 b ++ 46 :: (dec3 c ++ 46 :: dec3 d))

theorem txtA_ad {a b c d : Nat} (ha : a ≤ 255) (hb : b ≤ 255) (hc : c ≤ 255) (hd : d ≤ 255) : adD (txtA a b c d) = some [a, b, c, d] ∧ 47 ∉ txtA a b c d := by
  constructor
  · have hf : flds 46 (txtA a b c d) = [dec3 a, dec3 b, dec3 c, dec3 d] := by
      unfold txtA
      rw [flds_app _ (dec3_dot ha).1, flds_app _ (dec3_dot hb).1, flds_app _ (dec3_dot hc).1, flds_none (dec3_dot hd).1]
    unfold adD
    rw [hf, if_pos]
    · simp [(dec3_all ⟨a, by omega⟩).2.2.2, (dec3_all ⟨b, by omega⟩).2.2.2, (dec3_all ⟨c, by omega⟩).2.2.2, (dec3_all ⟨d, by omega⟩).2.2.2]
    · exact ⟨rfl, by simp [dec3_num ha ha, dec3_num hb hb, dec3_num hc hc, dec3_num hd hd]⟩
  · unfold txtA
    simp [(dec3_dot ha).2, (dec3_dot hb).2, (dec3_dot hc).2, (dec3_dot hd).2]

end Go.Proofs.YtgoiefhhbgollaaGreatDoor
