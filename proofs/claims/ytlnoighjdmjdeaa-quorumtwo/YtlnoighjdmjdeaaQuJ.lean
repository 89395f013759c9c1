/- What Committed tells, and that it never falls; Put and Of of any number. -/
import Derived.Test.YtlnoighjdmjdeaaQuL
namespace Go.Proofs.Ytlnoighjdmjdeaa
open Go.RowKit Go.Shelf
set_option maxRecDepth 8000

/-- One zxid is no less than another one. -/
def zge (e n f m : Int) : Prop := f < e ∨ (e = f ∧ m ≤ n)
theorem zge_iff (e n f m : Int) : 0 ≤ zcmp e n f m ↔ zge e n f m := by unfold zcmp zge; split <;> (try split) <;> constructor <;> intros <;> omega
theorem zle_iff (e n f m : Int) : zcmp e n f m ≤ 0 ↔ zge f m e n := by unfold zcmp zge; split <;> (try split) <;> constructor <;> intros <;> omega
theorem zge_refl (e n : Int) : zge e n e n := by unfold zge; omega
theorem zge_trans {a b c d e f : Int} (h1 : zge a b c d) (h2 : zge c d e f) : zge a b e f := by unfold zge at *; omega
theorem zge_total (e n f m : Int) : zge e n f m ∨ zge f m e n := by unfold zge; omega

theorem AcD.rea_iff (A : AcD) (i : Nat) (e m : Int) : A.rea i e m = true ↔ A.so.testBit i = true ∧ zge (A.e i) (A.m i) e m := by
  unfold AcD.rea
  rw [Bool.and_eq_true, decide_eq_true_iff, zge_iff]

/-- What Committed tells, of the first k. -/
theorem AcD.com_spec (A : AcD) (D : SyD) (k : Nat) :
    ((A.com D k).1 = false → (A.com D k).2 = (0, 0) ∧ ∀ j, j < k → A.so.testBit j = true → D.has (A.frN (A.e j) (A.m j) D.n).testBit = false) ∧
    ((A.com D k).1 = true → D.has (A.frN (A.com D k).2.1 (A.com D k).2.2 D.n).testBit = true ∧ ∀ j, j < k → A.so.testBit j = true → D.has (A.frN (A.e j) (A.m j) D.n).testBit = true → zge (A.com D k).2.1 (A.com D k).2.2 (A.e j) (A.m j)) := by
  induction k with
  | zero => exact ⟨fun _ => ⟨rfl, fun j hj => by omega⟩, fun h => by cases h⟩
  | succ k ih =>
    unfold AcD.com
    by_cases c1 : A.so.testBit k = false ∨ ((A.com D k).1 = true ∧ zcmp (A.e k) (A.m k) (A.com D k).2.1 (A.com D k).2.2 ≤ 0)
    · rw [if_pos c1]
      refine ⟨fun h => ⟨(ih.1 h).1, fun j hj hs => ?_⟩, fun h => ⟨(ih.2 h).1, fun j hj hs hh => ?_⟩⟩
      · by_cases e : j = k
        · subst e
          rcases c1 with c1 | c1
          · rw [hs] at c1; cases c1
          · rw [h] at c1; exact absurd c1.1 (by simp)
        · exact (ih.1 h).2 j (by omega) hs
      · by_cases e : j = k
        · subst e
          rcases c1 with c1 | c1
          · rw [hs] at c1; cases c1
          · exact (zle_iff _ _ _ _).1 c1.2
        · exact (ih.2 h).2 j (by omega) hs hh
    · rw [if_neg c1]
      by_cases c2 : D.has (A.frN (A.e k) (A.m k) D.n).testBit = true
      · rw [if_pos c2]
        refine ⟨fun h => (by cases h), fun _ => ⟨c2, fun j hj hs hh => ?_⟩⟩
        by_cases e : j = k
        · subst e; exact zge_refl _ _
        · have hk : A.so.testBit k = true := by
            cases q : A.so.testBit k with
            | true => rfl
            | false => exact absurd (.inl q) c1
          cases q : (A.com D k).1 with
          | false => have := (ih.1 q).2 j (by omega) hs; rw [hh] at this; cases this
          | true =>
            have h1 := (ih.2 q).2 j (by omega) hs hh
            have h2 : ¬ zcmp (A.e k) (A.m k) (A.com D k).2.1 (A.com D k).2.2 ≤ 0 := fun r => c1 (.inr ⟨q, r⟩)
            rw [zle_iff] at h2
            have h3 := (zge_total (A.e k) (A.m k) (A.com D k).2.1 (A.com D k).2.2).resolve_right h2
            exact zge_trans h3 h1
      · rw [if_neg c2]
        refine ⟨fun h => ⟨(ih.1 h).1, fun j hj hs => ?_⟩, fun h => ⟨(ih.2 h).1, fun j hj hs hh => ?_⟩⟩
        · by_cases e : j = k
          · subst e; simpa using c2
          · exact (ih.1 h).2 j (by omega) hs
        · by_cases e : j = k
          · subst e; exact absurd hh c2
          · exact (ih.2 h).2 j (by omega) hs hh

/-- A least one. -/
theorem AcD.least_up (A : AcD) (T : Nat → Prop) (n : Nat) (h : ∃ i, i < n ∧ T i) : ∃ j, j < n ∧ T j ∧ ∀ i, i < n → T i → zge (A.e i) (A.m i) (A.e j) (A.m j) := by
  induction n with
  | zero => obtain ⟨i, hi, _⟩ := h; omega
  | succ n ih =>
    by_cases q : ∃ i, i < n ∧ T i
    · obtain ⟨j, j1, j2, j3⟩ := ih q
      by_cases t : T n
      · rcases zge_total (A.e n) (A.m n) (A.e j) (A.m j) with z | z
        · refine ⟨j, by omega, j2, fun i hi ht => ?_⟩
          by_cases e : i = n
          · subst e; exact z
          · exact j3 i (by omega) ht
        · refine ⟨n, by omega, t, fun i hi ht => ?_⟩
          by_cases e : i = n
          · subst e; exact zge_refl _ _
          · exact zge_trans (j3 i (by omega) ht) z
      · refine ⟨j, by omega, j2, fun i hi ht => ?_⟩
        by_cases e : i = n
        · subst e; exact absurd ht t
        · exact j3 i (by omega) ht
    · obtain ⟨i, hi, ht⟩ := h
      have e : i = n := by
        by_cases e : i = n
        · exact e
        · exact absurd ⟨i, by omega, ht⟩ q
      subst e
      refine ⟨i, hi, ht, fun k hk tk => ?_⟩
      by_cases e : k = i
      · subst e; exact zge_refl _ _
      · exact absurd ⟨k, by omega, tk⟩ q

/-- Where a quorum has acknowledged up to what P asks, Committed is found, and P asks no more. -/
theorem AcD.com_up {A : AcD} {D : SyD} (hD : D.Good) (S : Nat → Bool) (P : Int → Int → Prop) (hP : ∀ a b c d, P a b → zge c d a b → P c d) (hS : ∀ i, i < D.n → (S i = true ↔ A.so.testBit i = true ∧ P (A.e i) (A.m i))) (hh : D.has S = true) :
    (A.com D D.n).1 = true ∧ P (A.com D D.n).2.1 (A.com D D.n).2.2 := by
  obtain ⟨i, hi, hs, _⟩ := D.meet hD hh hh
  obtain ⟨j, j1, j2, j3⟩ := A.least_up (fun i => S i = true) D.n ⟨i, hi, hs⟩
  have hj := (hS j j1).1 j2
  have hq : D.has (A.frN (A.e j) (A.m j) D.n).testBit = true := by
    rw [← hh]
    refine D.has_congr fun i hi => ?_
    rw [A.frN_bit, decide_eq_true hi, Bool.true_and]
    cases q : S i with
    | true => rw [A.rea_iff]; exact ⟨((hS i hi).1 q).1, j3 i hi q⟩
    | false =>
      cases r : A.rea i (A.e j) (A.m j) with
      | false => rfl
      | true =>
        rw [A.rea_iff] at r
        have := (hS i hi).2 ⟨r.1, hP _ _ _ _ hj.2 r.2⟩
        rw [q] at this
        cases this
  have sp := A.com_spec D D.n
  cases c : (A.com D D.n).1 with
  | false => have := (sp.1 c).2 j j1 hj.1; rw [hq] at this; cases this
  | true => exact ⟨rfl, hP _ _ _ _ hj.2 ((sp.2 c).2 j j1 hj.1 hq)⟩

/-- A server's Put, of any number. -/
def AcD.putV (A : AcD) (D : SyD) (v e m : Int) : AcD := if 0 ≤ v ∧ v < D.n then A.put v.toNat e m else A
theorem AcD.put_up (A : AcD) (i : Nat) (e m : Int) (j : Nat) (f g : Int) (hs : A.so.testBit j = true) (hz : zge (A.e j) (A.m j) f g) : (A.put i e m).so.testBit j = true ∧ zge ((A.put i e m).e j) ((A.put i e m).m j) f g := by
  unfold AcD.put
  by_cases r : A.rea i e m = true
  · rw [if_pos r]; exact ⟨hs, hz⟩
  · rw [if_neg r]
    refine ⟨by rw [Nat.testBit_or, hs]; rfl, ?_⟩
    show zge (if j = i then e else A.e j) (if j = i then m else A.m j) f g
    by_cases q : j = i
    · subst q
      rw [if_pos rfl, if_pos rfl]
      rw [A.rea_iff] at r
      have h2 : ¬ zge (A.e j) (A.m j) e m := fun t => r ⟨hs, t⟩
      exact zge_trans ((zge_total e m (A.e j) (A.m j)).resolve_right h2) hz
    · rw [if_neg q, if_neg q]; exact hz
theorem AcD.putV_up (A : AcD) (D : SyD) (v e m : Int) (j : Nat) (f g : Int) (hs : A.so.testBit j = true) (hz : zge (A.e j) (A.m j) f g) : (A.putV D v e m).so.testBit j = true ∧ zge ((A.putV D v e m).e j) ((A.putV D v e m).m j) f g := by
  unfold AcD.putV
  split
  · exact A.put_up _ e m j f g hs hz
  · exact ⟨hs, hz⟩
/-- Committed never falls. -/
theorem AcD.com_rises {A : AcD} {D : SyD} (hD : D.Good) (v e m : Int) (h : (A.com D D.n).1 = true) : ((A.putV D v e m).com D D.n).1 = true ∧ zge ((A.putV D v e m).com D D.n).2.1 ((A.putV D v e m).com D D.n).2.2 (A.com D D.n).2.1 (A.com D D.n).2.2 := by
  have sp := (A.com_spec D D.n).2 h
  refine AcD.com_up hD (fun i => (A.putV D v e m).rea i (A.com D D.n).2.1 (A.com D D.n).2.2) (fun a b => zge a b (A.com D D.n).2.1 (A.com D D.n).2.2) (fun a b c d h1 h2 => zge_trans h2 h1) (fun i _ => (A.putV D v e m).rea_iff i _ _) ?_
  refine D.has_mono hD (fun i hi q => ?_) sp.1
  rw [A.frN_bit, decide_eq_true hi, Bool.true_and, A.rea_iff] at q
  rw [AcD.rea_iff]
  exact A.putV_up D v e m i _ _ q.1 q.2

theorem AcD.put_so {A : AcD} {i : Nat} (h : A.so < 256) (hi : i < 8) (e m : Int) : (A.put i e m).so < 256 := by
  unfold AcD.put
  split
  · exact h
  · exact Nat.or_lt_two_pow (n := 8) h (Nat.pow_lt_pow_right (by omega) hi)
theorem AcD.putV_so {A : AcD} {D : SyD} (hD : D.Good) (h : A.so < 256) (v e m : Int) : (A.putV D v e m).so < 256 := by
  unfold AcD.putV
  split
  · exact AcD.put_so h (by have := hD.n7; omega) e m
  · exact h

/-- Put of any number answers this error. -/
def putE (D : SyD) (v : Int) : Int := if 0 ≤ v ∧ v < D.n then 0 else 1
theorem put_gen {w : World} {p s : Nat} {D : SyD} {A : AcD} (hD : D.Good) (h : IsSy w s D) (ha : IsAc w p s A) (hs : A.so < 256) (v e m : Int) (h0 : -128 ≤ v) (h1 : v ≤ 127) : Calls Try.prog 20 #[.pointer (some ⟨p, 0, none⟩), .int .i8 v, zx e m] w fun r w' => r = .returned (.int .i64 (putE D v)) ∧ IsAc w' p s (A.putV D v e m) ∧ Kept w w' (fun k => k = p) := by
  unfold putE AcD.putV
  by_cases q : 0 ≤ v ∧ v < D.n
  · rw [if_pos q, if_pos q]
    obtain ⟨i, rfl⟩ := Int.eq_ofNat_of_zero_le q.1
    exact put_yes hD h ha hs (by omega) e m
  · rw [if_neg q, if_neg q]
    exact Calls.mono (put_no hD h ha v e m h0 h1 q) fun _ _ r => ⟨r.1, ha.below r.2 ha.lt, kept_of_below r.2⟩

/-- Has a server, of any number, acknowledged anything? -/
def AcD.isV (A : AcD) (D : SyD) (v : Int) : Bool := decide (0 ≤ v ∧ v < D.n) && A.so.testBit v.toNat
def AcD.ofE (A : AcD) (D : SyD) (v : Int) : Int := if A.isV D v then A.e v.toNat else 0
def AcD.ofM (A : AcD) (D : SyD) (v : Int) : Int := if A.isV D v then A.m v.toNat else 0
theorem of_gen {w : World} {p s : Nat} {D : SyD} {A : AcD} (hD : D.Good) (h : IsSy w s D) (ha : IsAc w p s A) (hs : A.so < 256) (v : Int) (h0 : -128 ≤ v) (h1 : v ≤ 127) : Calls Try.prog 18 #[.pointer (some ⟨p, 0, none⟩), .int .i8 v] w fun r w' => r = .returned (.tuple #[zx (A.ofE D v) (A.ofM D v), .bool (A.isV D v)]) ∧ Below w.heap.size w w' := by
  unfold AcD.ofE AcD.ofM AcD.isV
  by_cases q : 0 ≤ v ∧ v < D.n
  · obtain ⟨i, rfl⟩ := Int.eq_ofNat_of_zero_le q.1
    rw [decide_eq_true q, Int.toNat_natCast, Bool.true_and]
    refine Calls.mono (of_yes hD h ha hs (show i < D.n by omega)) fun r w' t => ⟨?_, t.2.2⟩
    cases b : A.so.testBit i with
    | true => rw [t.2.1 b]; rfl
    | false => rw [t.1 b]; rfl
  · rw [decide_eq_false q, Bool.false_and]
    exact of_no hD h ha v h0 h1 q

theorem com0 (D : SyD) : ac0.com D D.n = (false, 0, 0) := by
  have h : ∀ k, ac0.com D k = (false, 0, 0) := fun k => by
    induction k with
    | zero => rfl
    | succ k ih => unfold AcD.com; rw [if_pos (.inl (by show (0 : Nat).testBit k = false; simp))]; exact ih
  exact h _

/-- Bits that f says, of the first k. -/
def gN (f : Nat → Bool) : Nat → Nat
  | 0 => 0
  | k + 1 => if f k then gN f k ||| 2 ^ k else gN f k
theorem gN_bit (f : Nat → Bool) (k j : Nat) : (gN f k).testBit j = (decide (j < k) && f j) := by
  induction k with
  | zero => simp [gN]
  | succ k ih =>
    unfold gN
    by_cases h : f k = true
    · rw [if_pos h, Nat.testBit_or, ih, Nat.testBit_two_pow]
      by_cases e1 : k = j
      · subst e1; simp [h]
      · by_cases e2 : j < k
        · simp [e1, e2]; omega
        · simp [e1, e2]; omega
    · rw [if_neg h, ih]
      by_cases e1 : k = j
      · subst e1; simp [h]
      · by_cases e2 : j < k
        · simp [e2]; omega
        · simp [e2]; omega
theorem gN_lt (f : Nat → Bool) {k : Nat} (hk : k ≤ 7) : gN f k < 256 := by
  refine Nat.lt_of_lt_of_le (Nat.lt_pow_two_of_testBit (n := 7) _ fun i hi => ?_) (by decide)
  rw [gN_bit]
  simp; omega

end Go.Proofs.Ytlnoighjdmjdeaa
