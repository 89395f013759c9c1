/- Plain facts on ranges of addresses: both ways of reading one agree; which addresses lie within one, by bytes and by bits; the texts of numbers and addresses. No Go function is walked here. -/
import Derived.Test.YtgoiefhhbgollaaGreatDoorQbPJ
namespace Go.Proofs.YtgoiefhhbgollaaGreatDoor
open Go.RowKit
set_option maxRecDepth 8000

/-- A range, read as an address ahead of the first slash and a number behind it. -/
def rngD (l : Bs) : Option (List Nat × Nat) := if 47 ∈ l then (match adD (hdC 47 l), numF 32 (tlC 47 l) with | some ns, some n => some (ns, n) | _, _ => none) else (adD l).map fun ns => (ns, 32)

/-- Four bytes. -/
def Four (ns : List Nat) : Prop := ∃ a b c d, ns = [a, b, c, d] ∧ a ≤ 255 ∧ b ≤ 255 ∧ c ≤ 255 ∧ d ≤ 255

theorem adD_four {l : Bs} {ns : List Nat} (h : adD l = some ns) : Four ns := by
  obtain ⟨a, b, c, d, h1, h2, h3, h4, h5, _⟩ := (adD_adr l).1 ns h
  exact ⟨a, b, c, d, h1, h2, h3, h4, h5⟩

theorem nd_slash (t : Bs) : nd (47 :: t) := by
  rintro b r h
  simp only [List.cons.injEq] at h
  rw [← h.1]; rfl

theorem numF_up {k m n : Nat} {l : Bs} (h : numF k l = some n) (hm : n ≤ m) : numF m l = some n := by
  obtain ⟨h1, h2, h3, h4, h5⟩ := numF_some h
  rw [← h4]
  exact numF_of h1 h2 h3 (by omega)

theorem AdrS.cut {l r : Bs} {a : Nat} (h : AdrS l a r) : ∃ z, l = z ++ r ∧ 47 ∉ z ∧ AdrS z a [] := by
  obtain ⟨x0, x1, x2, x3, n0, n1, n2, n3, hl, h0, h1, h2, h3, ha, hr⟩ := h
  refine ⟨x0 ++ 46 :: (x1 ++ 46 :: (x2 ++ 46 :: x3)), by rw [hl]; simp, ?_, x0, x1, x2, x3, n0, n1, n2, n3, by simp, h0, h1, h2, h3, ha, fun b t h => by simp at h⟩
  have d0 := (all_dot (numF_some h0).2.2.1).2
  have d1 := (all_dot (numF_some h1).2.2.1).2
  have d2 := (all_dot (numF_some h2).2.2.1).2
  have d3 := (all_dot (numF_some h3).2.2.1).2
  simp [d0, d1, d2, d3]

theorem AdrS.put {z r : Bs} {a : Nat} (h : AdrS z a []) (hr : nd r) : AdrS (z ++ r) a r := by
  obtain ⟨x0, x1, x2, x3, n0, n1, n2, n3, hl, h0, h1, h2, h3, ha, _⟩ := h
  exact ⟨x0, x1, x2, x3, n0, n1, n2, n3, by rw [hl]; simp, h0, h1, h2, h3, ha, hr⟩

/-- Both ways of reading a range agree. -/
theorem rngD_rngR (l : Bs) : (∀ ns n, rngD l = some (ns, n) → rngR l = some (numA ns, n) ∧ Four ns ∧ n ≤ 32) ∧ (∀ a n, rngR l = some (a, n) → ∃ ns, rngD l = some (ns, n) ∧ numA ns = a) := by
  rcases hdC_split 47 l with ⟨h1, _, _⟩ | ⟨h1, h2, h3⟩
  · constructor
    · intro ns n h
      unfold rngD at h
      rw [if_neg h1] at h
      cases ha : adD l with
      | none => rw [ha] at h; simp at h
      | some ms =>
        rw [ha] at h
        simp only [Option.map_some, Option.some.injEq, Prod.mk.injEq] at h
        obtain ⟨rfl, rfl⟩ := h
        obtain ⟨_, _, _, _, _, _, _, _, _, hr⟩ := (adD_adr l).1 _ ha
        refine ⟨?_, adD_four ha, by omega⟩
        unfold rngR
        rw [hr]
        simp
    · intro a n h
      unfold rngR at h
      cases ha : adr l 4 with
      | none => rw [ha] at h; simp at h
      | some x =>
        obtain ⟨a', p⟩ := x
        rw [ha] at h
        have hle := adr_le ha
        by_cases hp : p = l.length
        · simp only [if_pos hp, Option.some.injEq, Prod.mk.injEq] at h
          subst hp
          obtain ⟨ns, e1, e2⟩ := (adD_adr l).2 a' ha
          refine ⟨ns, ?_, by omega⟩
          unfold rngD
          rw [if_neg h1, e1, ← h.2]
          rfl
        · have hne : ¬ l.getD p 0 = 47 := by
            intro e
            rw [List.getD_eq_getElem?_getD, List.getElem?_eq_getElem (by omega)] at e
            simp only [Option.getD_some] at e
            exact h1 (e ▸ List.getElem_mem (by omega))
          simp only [if_neg hp, if_neg hne] at h
          simp at h
  · constructor
    · intro ns n h
      unfold rngD at h
      rw [if_pos h1] at h
      cases ha : adD (hdC 47 l) with
      | none => rw [ha] at h; simp at h
      | some ms =>
        cases hb : numF 32 (tlC 47 l) with
        | none => rw [ha, hb] at h; simp at h
        | some m =>
          rw [ha, hb] at h
          simp only [Option.some.injEq, Prod.mk.injEq] at h
          obtain ⟨rfl, rfl⟩ := h
          obtain ⟨_, _, _, _, _, _, _, _, _, hr⟩ := (adD_adr _).1 _ ha
          obtain ⟨r, hS, hp⟩ := adr_inv hr
          have hr0 : r = [] := List.length_eq_zero_iff.1 (by omega)
          subst hr0
          have h32 := (numF_some hb).2.2.2.2
          obtain ⟨p, e1, e2⟩ := adr_of (hS.put (nd_slash (tlC 47 l)))
          rw [← h3] at e1 e2
          have hlen : l.length = (hdC 47 l).length + ((tlC 47 l).length + 1) := by
            have := congrArg List.length h3
            simpa using this
          have hpp : p = (hdC 47 l).length := by simp at e2; omega
          refine ⟨?_, adD_four ha, h32⟩
          unfold rngR
          have key : ∀ h t : Bs, l = h ++ 47 :: t → p = h.length → l.getD p 0 = 47 ∧ l.drop (p + 1) = t := by
            rintro h t rfl rfl
            refine ⟨by simp [List.getD_eq_getElem?_getD], ?_⟩
            rw [show h ++ 47 :: t = (h ++ [47]) ++ t by simp, show h.length + 1 = (h ++ [47]).length by simp, List.drop_left]
          obtain ⟨hg, hd⟩ := key _ _ h3 hpp
          have hnr := numR_of (r := []) (numF_up hb (show m ≤ 255 by omega)) (fun b t h => by simp at h)
          rw [List.append_nil] at hnr
          rw [e1]
          simp only [if_neg (show ¬ p = l.length by omega), if_pos hg, hd, hnr]
          rw [if_pos ⟨by omega, h32⟩]
    · intro a n h
      unfold rngR at h
      cases ha : adr l 4 with
      | none => rw [ha] at h; simp at h
      | some x =>
        obtain ⟨a', p⟩ := x
        rw [ha] at h
        obtain ⟨r, hS, hpl⟩ := adr_inv ha
        obtain ⟨z, hz, hz47, hzS⟩ := hS.cut
        have hzl : l.length = z.length + r.length := by rw [hz]; simp
        by_cases hp : p = l.length
        · have hr0 : r = [] := List.length_eq_zero_iff.1 (by omega)
          rw [hr0, List.append_nil] at hz
          exact absurd (hz ▸ h1) hz47
        · simp only [if_neg hp] at h
          by_cases hg : l.getD p 0 = 47
          · simp only [if_pos hg] at h
            have hpz : p = z.length := by omega
            cases r with
            | nil => simp at hpl; omega
            | cons b t =>
              have hb : b = 47 := by
                rw [hz, hpz] at hg
                simpa [List.getD_eq_getElem?_getD] using hg
              subst hb
              have hap := hdC_app (b := t) hz47
              rw [← hz] at hap
              have hd : l.drop (p + 1) = t := by
                rw [hz, hpz, show z ++ 47 :: t = (z ++ [47]) ++ t by simp, show z.length + 1 = (z ++ [47]).length by simp, List.drop_left]
              rw [hd] at h
              cases hn : numR t with
              | none => rw [hn] at h; simp at h
              | some y =>
                obtain ⟨n', m⟩ := y
                rw [hn] at h
                by_cases hc : p + 1 + m = l.length ∧ n' ≤ 32
                · simp only [if_pos hc, Option.some.injEq, Prod.mk.injEq] at h
                  obtain ⟨x, r', e1, e2, e3, _⟩ := numR_inv hn
                  have hr' : r' = [] := by
                    have : t.length = x.length + r'.length := by rw [e1]; simp
                    simp at hzl
                    exact List.length_eq_zero_iff.1 (by omega)
                  rw [hr', List.append_nil] at e1
                  obtain ⟨q, g1, g2⟩ := adr_of hzS
                  simp at g2
                  rw [g2] at g1
                  obtain ⟨ns, f1, f2⟩ := (adD_adr z).2 a' g1
                  refine ⟨ns, ?_, by omega⟩
                  unfold rngD
                  rw [if_pos h1, hap.1, hap.2, f1, e1, numF_up e3 hc.2]
                  simp [h.2]
                · simp only [if_neg hc] at h
                  simp at h
          · simp only [if_neg hg] at h
            simp at h

/-- How many of a byte's bits count. -/
def cnt (n j : Nat) : Nat := min (n - 8 * j) 8

/-- Four bytes are the same up to the first n bits. -/
def metA (n : Nat) (xs ys : List Nat) : Bool := (List.range 4).all fun j => xs.getD j 0 / 2 ^ (8 - cnt n j) == ys.getD j 0 / 2 ^ (8 - cnt n j)

def bitN (xs : List Nat) (i : Nat) : Nat := xs.getD (i / 8) 0 / 2 ^ (7 - i % 8) % 2

theorem byte_bits {a b : Nat} (ha : a ≤ 255) (hb : b ≤ 255) {k : Nat} (hk : k ≤ 8) : a / 2 ^ (8 - k) = b / 2 ^ (8 - k) ↔ ∀ r, r < k → a / 2 ^ (7 - r) % 2 = b / 2 ^ (7 - r) % 2 := by
  constructor
  · intro h r hr
    have e : ∀ x : Nat, x / 2 ^ (7 - r) = x / 2 ^ (8 - k) / 2 ^ (k - 1 - r) ∨ True := fun x => .inr trivial
    have e2 : ∀ x : Nat, x / 2 ^ (7 - r) = x / 2 ^ (8 - k) / 2 ^ (k - 1 - r) := fun x => by
      rw [Nat.div_div_eq_div_mul, ← Nat.pow_add]
      congr 2
      omega
    rw [e2 a, e2 b, h]
  · induction k with
    | zero => intro _; rw [Nat.div_eq_of_lt (by simp; omega), Nat.div_eq_of_lt (by simp; omega)]
    | succ k ih =>
      intro h
      have h1 := ih (by omega) (fun r hr => h r (by omega))
      have h2 := h k (by omega)
      have e3 : 8 - (k + 1) = 7 - k := by omega
      have e4 : ∀ x : Nat, x / 2 ^ (8 - k) = x / 2 ^ (7 - k) / 2 := fun x => by
        rw [Nat.div_div_eq_div_mul, show 8 - k = (7 - k) + 1 by omega, Nat.pow_succ]
      rw [e4 a, e4 b] at h1
      rw [e3]
      omega

theorem metA_bits {xs ys : List Nat} (hx : Four xs) (hy : Four ys) {n : Nat} (hn : n ≤ 32) : metA n xs ys = true ↔ ∀ i, i < n → bitN xs i = bitN ys i := by
  obtain ⟨a, b, c, d, rfl, ha, hb, hc, hd⟩ := hx
  obtain ⟨a', b', c', d', rfl, ha', hb', hc', hd'⟩ := hy
  have bx : ∀ j, [a, b, c, d].getD j 0 ≤ 255 := by
    intro j
    match j with
    | 0 => simpa using ha
    | 1 => simpa using hb
    | 2 => simpa using hc
    | 3 => simpa using hd
    | j + 4 => simp
  have bY : ∀ j, [a', b', c', d'].getD j 0 ≤ 255 := by
    intro j
    match j with
    | 0 => simpa using ha'
    | 1 => simpa using hb'
    | 2 => simpa using hc'
    | 3 => simpa using hd'
    | j + 4 => simp
  unfold metA
  rw [List.all_eq_true]
  simp only [List.mem_range, beq_iff_eq]
  constructor
  · intro h i hi
    have hj := (byte_bits (bx (i / 8)) (bY (i / 8)) (show cnt n (i / 8) ≤ 8 by unfold cnt; omega)).1 (h (i / 8) (by omega)) (i % 8) (by unfold cnt; omega)
    exact hj
  · intro h j hj
    refine (byte_bits (bx j) (bY j) (show cnt n j ≤ 8 by unfold cnt; omega)).2 (fun r hr => ?_)
    have := h (8 * j + r) (by unfold cnt at hr; omega)
    unfold bitN at this
    have hr8 : r < 8 := by unfold cnt at hr; omega
    rw [show (8 * j + r) / 8 = j by omega, show (8 * j + r) % 8 = r by omega] at this
    exact this

theorem numA_bit {xs : List Nat} (hx : Four xs) {i : Nat} (hi : i < 32) : numA xs / 2 ^ (31 - i) % 2 = bitN xs i := by
  obtain ⟨a, b, c, d, rfl, ha, hb, hc, hd⟩ := hx
  have hnum : numA [a, b, c, d] = ((a * 256 + b) * 256 + c) * 256 + d := by simp [numA]
  rw [hnum]
  have sp : ∀ (u v q : Nat), v < 2 ^ q → ∀ r, (u * 2 ^ q + v) / 2 ^ (q + r) = u / 2 ^ r := by
    intro u v q hv r
    rw [Nat.pow_add, ← Nat.div_div_eq_div_mul, Nat.mul_comm u, Nat.mul_add_div (Nat.two_pow_pos q), Nat.div_eq_of_lt hv, Nat.add_zero]
  have lo : ∀ (u v r : Nat), r < 8 → v ≤ 255 → ∀ q, (u * 256 * 2 ^ q + v * 2 ^ q) / 2 ^ (q + r) % 2 = v / 2 ^ r % 2 := by
    intro u v r hr hv q
    rw [Nat.pow_add, ← Nat.div_div_eq_div_mul, ← Nat.add_mul, Nat.mul_div_cancel _ (Nat.two_pow_pos q)]
    have hr8 : r = 0 ∨ r = 1 ∨ r = 2 ∨ r = 3 ∨ r = 4 ∨ r = 5 ∨ r = 6 ∨ r = 7 := by omega
    rcases hr8 with rfl | rfl | rfl | rfl | rfl | rfl | rfl | rfl <;> simp only [Nat.reducePow] <;> omega
  unfold bitN
  have hq : i / 8 = 0 ∨ i / 8 = 1 ∨ i / 8 = 2 ∨ i / 8 = 3 := by omega
  rcases hq with h | h | h | h <;> rw [h]
  · have := sp a ((b * 256 + c) * 256 + d) 24 (by simp; omega) (7 - i % 8)
    rw [show 31 - i = 24 + (7 - i % 8) by omega, show ((a * 256 + b) * 256 + c) * 256 + d = a * 2 ^ 24 + ((b * 256 + c) * 256 + d) by simp; omega, this]
    rfl
  · have := sp (a * 256 + b) (c * 256 + d) 16 (by simp; omega) (7 - i % 8)
    rw [show 31 - i = 16 + (7 - i % 8) by omega, show ((a * 256 + b) * 256 + c) * 256 + d = (a * 256 + b) * 2 ^ 16 + (c * 256 + d) by simp; omega, this]
    have l2 := lo a b (7 - i % 8) (by omega) hb 0
    simp only [Nat.pow_zero, Nat.mul_one, Nat.zero_add] at l2
    exact l2
  · have := sp ((a * 256 + b) * 256 + c) d 8 (by simp; omega) (7 - i % 8)
    rw [show 31 - i = 8 + (7 - i % 8) by omega, show ((a * 256 + b) * 256 + c) * 256 + d = ((a * 256 + b) * 256 + c) * 2 ^ 8 + d by simp, this]
    have l2 := lo (a * 256 + b) c (7 - i % 8) (by omega) hc 0
    simp only [Nat.pow_zero, Nat.mul_one, Nat.zero_add] at l2
    exact l2
  · have l2 := lo ((a * 256 + b) * 256 + c) d (7 - i % 8) (by omega) hd 0
    simp only [Nat.pow_zero, Nat.mul_one, Nat.zero_add] at l2
    rw [show 31 - i = 7 - i % 8 by omega]
    exact l2

/-- A number's text in decimal, up to 999. -/
def dec3 (n : Nat) : Bs := if n < 10 then [UInt8.ofNat (48 + n)] else if n < 100 then [UInt8.ofNat (48 + n / 10), UInt8.ofNat (48 + n % 10)] else [UInt8.ofNat (48 + n / 100), UInt8.ofNat (48 + n / 10 % 10), UInt8.ofNat (48 + n % 10)]

theorem dec3_all : ∀ n : Fin 256, dec3 n.1 ≠ [] ∧ ¬ ((dec3 n.1).getD 0 0 = 48 ∧ 1 < (dec3 n.1).length) ∧ (dec3 n.1).all isD = true ∧ valD (dec3 n.1) = n.1 := by decide +kernel

theorem dec3_num {n last : Nat} (h : n ≤ 255) (hl : n ≤ last) : numF last (dec3 n) = some n := by
  obtain ⟨h1, h2, h3, h4⟩ := dec3_all ⟨n, by omega⟩
  simp only at h1 h2 h3 h4
  have := numF_of h1 h2 h3 (last := last) (by omega)
  rw [this, h4]

theorem dec3_over {n last : Nat} (h : n ≤ 255) (hl : last < n) : numF last (dec3 n) = none := by
  obtain ⟨_, _, _, h4⟩ := dec3_all ⟨n, by omega⟩
  simp only at h4
  unfold numF
  rw [if_pos (.inr (.inr (.inr (by omega))))]

theorem dec3_dot {n : Nat} (h : n ≤ 255) : 46 ∉ dec3 n ∧ 47 ∉ dec3 n := all_dot (dec3_all ⟨n, by omega⟩).2.2.1

/-- An address's text. -/
def txtA (a b c d : Nat) : Bs := dec3 a ++ 46 :: (dec3 b ++ 46 :: (dec3 c ++ 46 :: dec3 d))

theorem txtA_ad {a b c d : Nat} (ha : a ≤ 255) (hb : b ≤ 255) (hc : c ≤ 255) (hd : d ≤ 255) : adD (txtA a b c d) = some [a, b, c, d] ∧ 47 ∉ txtA a b c d := by
  constructor
  · have hf : flds 46 (txtA a b c d) = [dec3 a, dec3 b, dec3 c, dec3 d] := by
      unfold txtA
      rw [flds_app _ (dec3_dot ha).1, flds_app _ (dec3_dot hb).1, flds_app _ (dec3_dot hc).1, flds_none (dec3_dot hd).1]
    unfold adD
    rw [hf, if_pos]
    · simp [(dec3_all ⟨a, by omega⟩).2.2.2, (dec3_all ⟨b, by omega⟩).2.2.2, (dec3_all ⟨c, by omega⟩).2.2.2, (dec3_all ⟨d, by omega⟩).2.2.2]
    · exact ⟨rfl, by simp [dec3_num ha ha, dec3_num hb hb, dec3_num hc hc, dec3_num hd hd]⟩
  · unfold txtA
    simp [(dec3_dot ha).2, (dec3_dot hb).2, (dec3_dot hc).2, (dec3_dot hd).2]

end Go.Proofs.YtgoiefhhbgollaaGreatDoor
