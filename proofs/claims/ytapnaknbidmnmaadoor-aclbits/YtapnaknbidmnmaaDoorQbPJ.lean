/- Plain facts on the bytes of addresses and ranges: the fields between dots, their numbers, and that both ways of reading an address (field by field; place by place) agree. No Go function is walked here. -/
import Derived.Test.YtapnaknbidmnmaaDoorQaCJ
namespace Go.Proofs.YtapnaknbidmnmaaDoor
open Go.RowKit
set_option maxRecDepth 8000

/-- What stands ahead of the first c. -/
def hdC (c : UInt8) : Bs → Bs
  | [] => []
  | b :: r => if b = c then [] else b :: hdC c r

/-- What stands behind it. -/
def tlC (c : UInt8) : Bs → Bs
  | [] => []
  | b :: r => if b = c then r else tlC c r

/-- The fields of a text. -/
def flds (c : UInt8) : Bs → List Bs
  | [] => [[]]
  | b :: r => if b = c then [] :: flds c r else match flds c r with | s :: t => (b :: s) :: t | [] => [[b]]

theorem hdC_split (c : UInt8) (l : Bs) : (c ∉ l ∧ hdC c l = l ∧ tlC c l = []) ∨ (c ∈ l ∧ c ∉ hdC c l ∧ l = hdC c l ++ c :: tlC c l) := by
  induction l with
  | nil => exact .inl ⟨by simp, rfl, rfl⟩
  | cons b r ih =>
    by_cases hb : b = c
    · refine .inr ⟨by simp [hb], by simp [hdC, hb], by simp [hdC, tlC, hb]⟩
    · have hb' : ¬ c = b := fun e => hb e.symm
      rcases ih with ⟨h1, h2, h3⟩ | ⟨h1, h2, h3⟩
      · exact .inl ⟨by simp [hb', h1], by simp [hdC, hb, h2], by simp [tlC, hb, h3]⟩
      · refine .inr ⟨by simp [h1], by simp [hdC, hb, hb', h2], ?_⟩
        simp only [hdC, tlC, if_neg hb, List.cons_append]
        rw [← h3]

theorem hdC_app {c : UInt8} {a b : Bs} (h : c ∉ a) : hdC c (a ++ c :: b) = a ∧ tlC c (a ++ c :: b) = b := by
  induction a with
  | nil => simp [hdC, tlC]
  | cons x r ih =>
    simp only [List.mem_cons, not_or] at h
    have hx : ¬ x = c := fun e => h.1 e.symm
    have := ih h.2
    simp [hdC, tlC, hx, this.1, this.2]

theorem flds_ne (c : UInt8) (l : Bs) : ∃ x t, flds c l = x :: t := by
  cases l with
  | nil => exact ⟨_, _, rfl⟩
  | cons b r =>
    by_cases hb : b = c
    · exact ⟨[], flds c r, by simp [flds, hb]⟩
    · simp only [flds, if_neg hb]
      cases flds c r with
      | nil => exact ⟨_, _, rfl⟩
      | cons s t => exact ⟨_, _, rfl⟩

theorem flds_none {c : UInt8} {a : Bs} (h : c ∉ a) : flds c a = [a] := by
  induction a with
  | nil => rfl
  | cons x r ih =>
    simp only [List.mem_cons, not_or] at h
    have hx : ¬ x = c := fun e => h.1 e.symm
    simp [flds, hx, ih h.2]

theorem flds_app {c : UInt8} {a : Bs} (b : Bs) (h : c ∉ a) : flds c (a ++ c :: b) = a :: flds c b := by
  induction a with
  | nil => simp [flds]
  | cons x r ih =>
    simp only [List.mem_cons, not_or] at h
    have hx : ¬ x = c := fun e => h.1 e.symm
    simp [flds, hx, ih h.2]

/-- The fields, one by one. -/
theorem flds_step (c : UInt8) (l : Bs) : (c ∉ l ∧ flds c l = [l]) ∨ (c ∈ l ∧ l = hdC c l ++ c :: tlC c l ∧ flds c l = hdC c l :: flds c (tlC c l)) := by
  rcases hdC_split c l with ⟨h1, _, _⟩ | ⟨h1, h2, h3⟩
  · exact .inl ⟨h1, flds_none h1⟩
  · refine .inr ⟨h1, h3, ?_⟩
    conv => lhs; rw [h3]
    exact flds_app _ h2

/-- A field's number up to a last one. -/
def numF (last : Nat) (l : Bs) : Option Nat :=
  if l = [] ∨ (l.getD 0 0 = 48 ∧ 1 < l.length) ∨ l.all isD = false ∨ last < valD l then none else some (valD l)

theorem numF_some {last : Nat} {l : Bs} {n : Nat} (h : numF last l = some n) : l ≠ [] ∧ ¬ (l.getD 0 0 = 48 ∧ 1 < l.length) ∧ l.all isD = true ∧ valD l = n ∧ n ≤ last := by
  unfold numF at h
  split at h
  · simp at h
  · rename_i hn
    simp only [not_or] at hn
    simp only [Option.some.injEq] at h
    exact ⟨hn.1, hn.2.1, by simpa using hn.2.2.1, h, by have := hn.2.2.2; omega⟩

theorem numF_of {last : Nat} {l : Bs} (h1 : l ≠ []) (h2 : ¬ (l.getD 0 0 = 48 ∧ 1 < l.length)) (h3 : l.all isD = true) (h4 : valD l ≤ last) : numF last l = some (valD l) := by
  unfold numF
  rw [if_neg]
  rintro (h | h | h | h)
  · exact h1 h
  · exact h2 h
  · rw [h3] at h; simp at h
  · omega

theorem isD_dot {b : UInt8} (h : isD b = true) : b ≠ 46 ∧ b ≠ 47 := by
  unfold isD at h
  simp only [Bool.and_eq_true, decide_eq_true_eq] at h
  constructor
  · rintro rfl; simp at h
  · rintro rfl; simp at h

theorem all_dot {l : Bs} (h : l.all isD = true) : 46 ∉ l ∧ 47 ∉ l := by
  rw [List.all_eq_true] at h
  exact ⟨fun hm => (isD_dot (h _ hm)).1 rfl, fun hm => (isD_dot (h _ hm)).2 rfl⟩

/-- It ends, or no digit is next. -/
def nd (r : Bs) : Prop := ∀ b t, r = b :: t → isD b = false

theorem dgs_all {x r : Bs} : ∀ {k : Nat}, x.all isD = true → nd r → x.length ≤ k → dgs k (x ++ r) = x := by
  induction x with
  | nil => intro k _ hr _; simpa using dgs_drop (k := k) hr
  | cons b t ih =>
    intro k hx hr hk
    simp only [List.all_cons, Bool.and_eq_true] at hx
    cases k with
    | zero => simp at hk
    | succ k =>
      simp only [List.cons_append, dgs, hx.1, if_true]
      rw [ih hx.2 hr (by simp at hk; omega)]

theorem valD_lead {b : UInt8} {t : Bs} : valD (b :: t) = (b.toNat - 48) * 10 ^ t.length + valD t := by
  have key : ∀ (t : Bs) (n : Nat), t.foldl (fun n b => 10 * n + (b.toNat - 48)) n = n * 10 ^ t.length + valD t := by
    intro t
    induction t with
    | nil => intro n; simp [valD]
    | cons c r ih =>
      intro n
      unfold valD
      simp only [List.foldl_cons, List.length_cons]
      rw [ih, ih (10 * 0 + (c.toNat - 48))]
      simp only [Nat.mul_zero, Nat.zero_add, Nat.pow_succ, Nat.add_mul]
      have : 10 * n * 10 ^ r.length = n * (10 ^ r.length * 10) := by rw [Nat.mul_comm 10 n, Nat.mul_assoc, Nat.mul_comm 10]
      omega
  unfold valD
  simp only [List.foldl_cons]
  rw [key]
  simp [valD]

theorem long_val {b : UInt8} {t : Bs} (hb : isD b = true) (h0 : b ≠ 48) (ht : 3 ≤ t.length) : 999 < valD (b :: t) := by
  rw [valD_lead]
  have hb' : 1 ≤ b.toNat - 48 := by
    unfold isD at hb
    simp only [Bool.and_eq_true, decide_eq_true_eq] at hb
    have : b.toNat ≠ 48 := fun e => h0 (UInt8.toNat_inj.1 (by simpa using e))
    omega
  have hp : 10 ^ 3 ≤ 10 ^ t.length := Nat.pow_le_pow_right (by omega) ht
  have : 1 * 10 ^ t.length ≤ (b.toNat - 48) * 10 ^ t.length := Nat.mul_le_mul_right _ hb'
  omega

theorem numF_short {l : Bs} {n : Nat} (h : numF 255 l = some n) : l.length ≤ 3 := by
  obtain ⟨h1, h2, h3, h4, h5⟩ := numF_some h
  cases l with
  | nil => simp
  | cons b t =>
    simp only [List.all_cons, Bool.and_eq_true] at h3
    by_cases hl : 3 ≤ t.length
    · have hb : b ≠ 48 := fun e => h2 ⟨by simp [e], by simp; omega⟩
      have := long_val h3.1 hb hl
      omega
    · simp; omega

theorem numR_of {x r : Bs} {n : Nat} (h : numF 255 x = some n) (hr : nd r) : numR (x ++ r) = some (n, x.length) := by
  have hs := numF_short h
  obtain ⟨h1, h2, h3, h4, h5⟩ := numF_some h
  unfold numR
  rw [dgs_all h3 hr (by omega), h4, if_neg]
  rintro (h | h | ⟨h, h'⟩)
  · exact h1 h
  · omega
  · refine h2 ⟨?_, h⟩
    cases x with
    | nil => simp at h
    | cons b t => simpa using h'

theorem dgs_spec : ∀ (k : Nat) (l : Bs), ∃ r, l = dgs k l ++ r ∧ (dgs k l).all isD = true ∧ (dgs k l).length ≤ k ∧ ((dgs k l).length < k → nd r)
  | 0, l => ⟨l, by simp [dgs], by simp [dgs], by simp [dgs], fun h => by omega⟩
  | k + 1, [] => ⟨[], by simp [dgs], by simp [dgs], by simp [dgs], fun _ b t h => by simp at h⟩
  | k + 1, b :: r => by
    by_cases hb : isD b = true
    · obtain ⟨r', h1, h2, h3, h4⟩ := dgs_spec k r
      refine ⟨r', ?_, ?_, ?_, ?_⟩
      · simp only [dgs, hb, if_true, List.cons_append]; rw [← h1]
      · simp only [dgs, hb, if_true, List.all_cons, h2, Bool.and_true]
      · simp only [dgs, hb, if_true, List.length_cons]; omega
      · simp only [dgs, hb, if_true, List.length_cons]; intro h; exact h4 (by omega)
    · refine ⟨b :: r, by simp [dgs, hb], by simp [dgs, hb], by simp [dgs, hb], fun _ c t h => ?_⟩
      simp only [List.cons.injEq] at h
      rw [← h.1]; simpa using hb

theorem numR_inv {l : Bs} {n k : Nat} (h : numR l = some (n, k)) : ∃ x r, l = x ++ r ∧ x.length = k ∧ numF 255 x = some n ∧ nd r := by
  obtain ⟨r, h1, h2, h3, h4⟩ := dgs_spec 4 l
  unfold numR at h
  split at h
  · simp at h
  · rename_i hn
    simp only [not_or, not_and] at hn
    simp only [Option.some.injEq, Prod.mk.injEq] at h
    obtain ⟨rfl, rfl⟩ := h
    obtain ⟨x, hx⟩ : ∃ x, x = dgs 4 l := ⟨_, rfl⟩
    rw [← hx] at h1 h2 h3 h4 hn ⊢
    have h0 : 1 < x.length → ¬ x.getD 0 0 = 48 := by
      intro hl e
      refine hn.2.2 hl ?_
      rw [h1]
      cases x with
      | nil => simp at hl
      | cons b t => simpa using e
    have hlt : x.length < 4 := by
      cases x with
      | nil => simp
      | cons b t =>
        simp only [List.all_cons, Bool.and_eq_true] at h2
        by_cases hl : 3 ≤ t.length
        · have hb : b ≠ 48 := fun e => h0 (by simp; omega) (by simp [e])
          have := long_val h2.1 hb hl
          omega
        · simp; omega
    exact ⟨x, r, h1, rfl, numF_of hn.1 (fun h => h0 h.2 h.1) h2 (by omega), h4 hlt⟩

/-- A text that begins with an address: its four fields, its number, and what stands behind it. -/
def AdrS (l : Bs) (a : Nat) (r : Bs) : Prop := ∃ x0 x1 x2 x3 n0 n1 n2 n3, l = x0 ++ 46 :: (x1 ++ 46 :: (x2 ++ 46 :: (x3 ++ r))) ∧ numF 255 x0 = some n0 ∧ numF 255 x1 = some n1 ∧ numF 255 x2 = some n2 ∧ numF 255 x3 = some n3 ∧ a = ((n0 * 256 + n1) * 256 + n2) * 256 + n3 ∧ nd r

theorem nd_dot (t : Bs) : nd (46 :: t) := by
  rintro b r h
  simp only [List.cons.injEq] at h
  rw [← h.1]; rfl

theorem dotR_at {l pre t : Bs} {k : Nat} (hk : k ≠ 0) (hl : l = pre ++ 46 :: t) : dotR l k pre.length = some (pre.length + 1) := by
  unfold dotR
  rw [if_neg hk, if_pos]
  subst hl
  exact ⟨by simp, by simp [List.getD_eq_getElem?_getD]⟩

theorem adr_one {l pre : Bs} {k all : Nat} {x r : Bs} {n : Nat} (hk : k ≠ 0) (h : adr l k = some (all, pre.length)) (hl : l = pre ++ 46 :: (x ++ r)) (hx : numF 255 x = some n) (hr : nd r) : adr l (k + 1) = some (all * 256 + n, (pre ++ 46 :: x).length) := by
  rw [adr_num h (dotR_at hk hl)]
  have : l.drop (pre.length + 1) = x ++ r := by
    rw [hl, show pre.length + 1 = (pre ++ [46]).length by simp]
    rw [show pre ++ 46 :: (x ++ r) = (pre ++ [46]) ++ (x ++ r) by simp, List.drop_left]
  rw [this, numR_of hx hr]
  simp
  omega

theorem adr_of {l r : Bs} {a : Nat} (h : AdrS l a r) : ∃ p, adr l 4 = some (a, p) ∧ p + r.length = l.length := by
  obtain ⟨x0, x1, x2, x3, n0, n1, n2, n3, hl, h0, h1, h2, h3, ha, hr⟩ := h
  have e1 : adr l 1 = some (n0, x0.length) := by
    have hd : dotR l 0 0 = some 0 := by unfold dotR; rw [if_pos rfl]
    rw [adr_num (k := 0) rfl hd, List.drop_zero, hl, numR_of h0 (nd_dot _)]
    simp
  have e2 := adr_one (k := 1) (by omega) e1 hl h1 (nd_dot _)
  have e3 := adr_one (k := 2) (pre := x0 ++ 46 :: x1) (r := 46 :: (x3 ++ r)) (by omega) e2 (by rw [hl]; simp) h2 (nd_dot _)
  have e4 := adr_one (k := 3) (pre := x0 ++ 46 :: x1 ++ 46 :: x2) (by omega) e3 (by rw [hl]; simp) h3 hr
  refine ⟨_, by rw [e4, ha], ?_⟩
  rw [hl]
  simp
  omega

theorem dotR_inv {l : Bs} {k p a : Nat} (hk : k ≠ 0) (h : dotR l k p = some a) : a = p + 1 ∧ p < l.length ∧ l.getD p 0 = 46 := by
  unfold dotR at h
  rw [if_neg hk] at h
  split at h
  · rename_i hc
    simp at h
    exact ⟨h.symm, hc.1, hc.2⟩
  · simp at h

theorem adr_back {l : Bs} {k a p : Nat} (hk : k ≠ 0) (h : adr l (k + 1) = some (a, p)) : ∃ all q n x r, adr l k = some (all, q) ∧ l.drop q = 46 :: (x ++ r) ∧ numF 255 x = some n ∧ nd r ∧ a = all * 256 + n ∧ p = q + 1 + x.length := by
  cases h0 : adr l k with
  | none => rw [adr, h0] at h; simp at h
  | some y =>
    obtain ⟨all, q⟩ := y
    cases hd : dotR l k q with
    | none => rw [adr_dot h0 hd] at h; simp at h
    | some c =>
      rw [adr_num h0 hd] at h
      obtain ⟨rfl, hq, h46⟩ := dotR_inv hk hd
      cases hn : numR (l.drop (q + 1)) with
      | none => rw [hn] at h; simp at h
      | some z =>
        obtain ⟨n, m⟩ := z
        rw [hn] at h
        simp at h
        obtain ⟨x, r, e1, e2, e3, e4⟩ := numR_inv hn
        refine ⟨all, q, n, x, r, rfl, ?_, e3, e4, by omega, by omega⟩
        rw [drop_at l q hq, h46, e1]

theorem adr_inv {l : Bs} {a p : Nat} (h : adr l 4 = some (a, p)) : ∃ r, AdrS l a r ∧ p + r.length = l.length := by
  obtain ⟨a3, q3, n3, x3, r3, h3, d3, f3, t3, s3, p3⟩ := adr_back (k := 3) (by omega) h
  obtain ⟨a2, q2, n2, x2, r2, h2, d2, f2, t2, s2, p2⟩ := adr_back (k := 2) (by omega) h3
  obtain ⟨a1, q1, n1, x1, r1, h1, d1, f1, t1, s1, p1⟩ := adr_back (k := 1) (by omega) h2
  have hd : dotR l 0 0 = some 0 := by unfold dotR; rw [if_pos rfl]
  rw [adr_num (k := 0) rfl hd, List.drop_zero] at h1
  cases hn : numR l with
  | none => rw [hn] at h1; simp at h1
  | some z =>
    obtain ⟨n0, m⟩ := z
    rw [hn] at h1
    simp at h1
    obtain ⟨x0, r0, e1, e2, e3, e4⟩ := numR_inv hn
    have g1 : r0 = 46 :: (x1 ++ r1) := by
      rw [← d1, e1, show q1 = x0.length by omega, List.drop_left]
    have g2 : r1 = 46 :: (x2 ++ r2) := by
      have : l.drop q2 = r1 := by
        rw [e1, g1, show q2 = (x0 ++ 46 :: x1).length by simp; omega, show x0 ++ 46 :: (x1 ++ r1) = (x0 ++ 46 :: x1) ++ r1 by simp, List.drop_left]
      rw [← this, d2]
    have g3 : r2 = 46 :: (x3 ++ r3) := by
      have : l.drop q3 = r2 := by
        rw [e1, g1, g2, show q3 = (x0 ++ 46 :: x1 ++ 46 :: x2).length by simp; omega, show x0 ++ 46 :: (x1 ++ 46 :: (x2 ++ r2)) = (x0 ++ 46 :: x1 ++ 46 :: x2) ++ r2 by simp, List.drop_left]
      rw [← this, d3]
    refine ⟨r3, ⟨x0, x1, x2, x3, n0, n1, n2, n3, by rw [e1, g1, g2, g3], e3, f1, f2, f3, by rw [s3, s2, s1, ← h1.1], t3⟩, ?_⟩
    rw [e1, g1, g2, g3]
    simp
    omega

/-- The four numbers of an address, read field by field. -/
def adD (l : Bs) : Option (List Nat) := if (flds 46 l).length = 4 ∧ (flds 46 l).all (fun x => (numF 255 x).isSome) then some ((flds 46 l).map valD) else none

def numA (ns : List Nat) : Nat := ns.foldl (fun a n => a * 256 + n) 0

theorem flds_join {c : UInt8} : ∀ {l : Bs} {x : Bs} {t : List Bs}, flds c l = x :: t → (t = [] → l = x) ∧ ∀ y u, t = y :: u → ∃ l', l = x ++ c :: l' ∧ flds c l' = t := by
  intro l x t h
  rcases flds_step c l with ⟨_, h2⟩ | ⟨_, h2, h3⟩
  · rw [h2] at h
    simp only [List.cons.injEq] at h
    exact ⟨fun _ => h.1, fun y u e => by rw [← h.2] at e; simp at e⟩
  · rw [h3] at h
    simp only [List.cons.injEq] at h
    refine ⟨fun e => ?_, fun y u _ => ⟨tlC c l, by rw [← h.1]; exact h2, h.2⟩⟩
    obtain ⟨y, u, hy⟩ := flds_ne c (tlC c l)
    rw [h.2, e] at hy
    simp at hy

theorem okF {x : Bs} (h : (numF 255 x).isSome = true) : numF 255 x = some (valD x) := by
  cases hn : numF 255 x with
  | none => rw [hn] at h; simp at h
  | some n => rw [(numF_some hn).2.2.2.1]

/-- Both ways agree. -/
theorem adD_adr (l : Bs) : (∀ ns, adD l = some ns → ∃ a b c d, ns = [a, b, c, d] ∧ a ≤ 255 ∧ b ≤ 255 ∧ c ≤ 255 ∧ d ≤ 255 ∧ adr l 4 = some (numA ns, l.length)) ∧ (∀ a, adr l 4 = some (a, l.length) → ∃ ns, adD l = some ns ∧ numA ns = a) := by
  constructor
  · intro ns h
    unfold adD at h
    split at h
    · rename_i hc
      simp only [Option.some.injEq] at h
      obtain ⟨h4, hall⟩ := hc
      match hf : flds 46 l, h4 with
      | [x0, x1, x2, x3], _ =>
        rw [hf] at hall h
        simp only [List.all_cons, List.all_nil, Bool.and_true, Bool.and_eq_true] at hall
        obtain ⟨k0, k1, k2, k3⟩ := hall
        obtain ⟨l1, e1, f1⟩ := (flds_join hf).2 _ _ rfl
        obtain ⟨l2, e2, f2⟩ := (flds_join f1).2 _ _ rfl
        obtain ⟨l3, e3, f3⟩ := (flds_join f2).2 _ _ rfl
        have e4 := (flds_join f3).1 rfl
        have hS : AdrS l (numA ns) [] := ⟨x0, x1, x2, x3, _, _, _, _, by rw [e1, e2, e3, e4]; simp, okF k0, okF k1, okF k2, okF k3, by rw [← h]; simp [numA], fun b t h => by simp at h⟩
        obtain ⟨p, hp, hq⟩ := adr_of hS
        refine ⟨_, _, _, _, h.symm, (numF_some (okF k0)).2.2.2.2, (numF_some (okF k1)).2.2.2.2, (numF_some (okF k2)).2.2.2.2, (numF_some (okF k3)).2.2.2.2, ?_⟩
        rw [hp, show p = l.length by simpa using hq]
    · simp at h
  · intro a h
    obtain ⟨r, ⟨x0, x1, x2, x3, n0, n1, n2, n3, hl, h0, h1, h2, h3, ha, hr⟩, hp⟩ := adr_inv h
    have hr0 : r = [] := List.length_eq_zero_iff.1 (by omega)
    subst hr0
    have d0 := (all_dot (numF_some h0).2.2.1).1
    have d1 := (all_dot (numF_some h1).2.2.1).1
    have d2 := (all_dot (numF_some h2).2.2.1).1
    have d3 := (all_dot (numF_some h3).2.2.1).1
    have hf : flds 46 l = [x0, x1, x2, x3] := by
      rw [hl, List.append_nil, flds_app _ d0, flds_app _ d1, flds_app _ d2, flds_none d3]
    refine ⟨[valD x0, valD x1, valD x2, valD x3], ?_, ?_⟩
    · unfold adD
      rw [hf, if_pos]
      · rfl
      · exact ⟨rfl, by simp [h0, h1, h2, h3]⟩
    · rw [ha, ← (numF_some h0).2.2.2.1, ← (numF_some h1).2.2.2.1, ← (numF_some h2).2.2.2.1, ← (numF_some h3).2.2.2.1]
      simp [numA]

end Go.Proofs.YtapnaknbidmnmaaDoor
