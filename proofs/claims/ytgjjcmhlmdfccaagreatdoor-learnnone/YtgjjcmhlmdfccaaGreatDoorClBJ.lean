/- txn.cloneRequest: the same request in blocks of its own. -/
import Derived.Test.YtgjjcmhlmdfccaaGreatDoorClAJ
import Derived.Test.YtgjjcmhlmdfccaaGreatDoorCopyRJ
import Derived.Deep.RegionHeld
namespace Go.Proofs.YtgjjcmhlmdfccaaGreatDoor
open Go.RowKit
set_option maxRecDepth 8000
set_option linter.unusedSimpArgs false

abbrev w11 (w : World) (g o : Nat) (c0 c1 c2 c3 c4 c5 c6 c7 c8 c9 c10 : Value) : World := (((((((((((w).setCell ⟨g, o, none⟩ c0).setCell ⟨g, o + 1, none⟩ c1).setCell ⟨g, o + 2, none⟩ c2).setCell ⟨g, o + 3, none⟩ c3).setCell ⟨g, o + 4, none⟩ c4).setCell ⟨g, o + 5, none⟩ c5).setCell ⟨g, o + 6, none⟩ c6).setCell ⟨g, o + 7, none⟩ c7).setCell ⟨g, o + 8, none⟩ c8).setCell ⟨g, o + 9, none⟩ c9).setCell ⟨g, o + 10, none⟩ c10

theorem own11C {w : World} {B g N c k : Nat} {t : TypeId} {fl : List Value} (h : w.ownsRow B t 11 (.slice (some ⟨g, 0, none⟩) N c) N fl) (c0 c1 c2 c3 c4 c5 c6 c7 c8 c9 c10 : Value) :
    (w11 w g (k * 11) c0 c1 c2 c3 c4 c5 c6 c7 c8 c9 c10).ownsRow B t 11 (.slice (some ⟨g, 0, none⟩) N c) N ((((((((((((fl).set (k * 11) c0).set (k * 11 + 1) c1).set (k * 11 + 2) c2).set (k * 11 + 3) c3).set (k * 11 + 4) c4).set (k * 11 + 5) c5).set (k * 11 + 6) c6).set (k * 11 + 7) c7).set (k * 11 + 8) c8).set (k * 11 + 9) c9).set (k * 11 + 10) c10) ∧ Kept w (w11 w g (k * 11) c0 c1 c2 c3 c4 c5 c6 c7 c8 c9 c10) (fun q => q = g) := by
  refine ⟨?_, ?_⟩
  · exact (((((((((((h.stored (k * 11) c0).1.stored (k * 11 + 1) c1).1.stored (k * 11 + 2) c2).1.stored (k * 11 + 3) c3).1.stored (k * 11 + 4) c4).1.stored (k * 11 + 5) c5).1.stored (k * 11 + 6) c6).1.stored (k * 11 + 7) c7).1.stored (k * 11 + 8) c8).1.stored (k * 11 + 9) c9).1.stored (k * 11 + 10) c10).1
  · exact ((((((((((((Kept.refl w (fun q => q = g)).setCell ⟨g, k * 11, none⟩ c0 (fun _ => rfl)).setCell ⟨g, k * 11 + 1, none⟩ c1 (fun _ => rfl)).setCell ⟨g, k * 11 + 2, none⟩ c2 (fun _ => rfl)).setCell ⟨g, k * 11 + 3, none⟩ c3 (fun _ => rfl)).setCell ⟨g, k * 11 + 4, none⟩ c4 (fun _ => rfl)).setCell ⟨g, k * 11 + 5, none⟩ c5 (fun _ => rfl)).setCell ⟨g, k * 11 + 6, none⟩ c6 (fun _ => rfl)).setCell ⟨g, k * 11 + 7, none⟩ c7 (fun _ => rfl)).setCell ⟨g, k * 11 + 8, none⟩ c8 (fun _ => rfl)).setCell ⟨g, k * 11 + 9, none⟩ c9 (fun _ => rfl)).setCell ⟨g, k * 11 + 10, none⟩ c10 (fun _ => rfl))

theorem set11C (fl : List Value) (k : Nat) (hl : k * 11 + 11 ≤ fl.length) (c0 c1 c2 c3 c4 c5 c6 c7 c8 c9 c10 : Value) :
    (∀ i j, i ≠ k → j < 11 → ((((((((((((fl).set (k * 11) c0).set (k * 11 + 1) c1).set (k * 11 + 2) c2).set (k * 11 + 3) c3).set (k * 11 + 4) c4).set (k * 11 + 5) c5).set (k * 11 + 6) c6).set (k * 11 + 7) c7).set (k * 11 + 8) c8).set (k * 11 + 9) c9).set (k * 11 + 10) c10)[i * 11 + j]? = fl[i * 11 + j]?) ∧ ∀ j, j < 11 → ((((((((((((fl).set (k * 11) c0).set (k * 11 + 1) c1).set (k * 11 + 2) c2).set (k * 11 + 3) c3).set (k * 11 + 4) c4).set (k * 11 + 5) c5).set (k * 11 + 6) c6).set (k * 11 + 7) c7).set (k * 11 + 8) c8).set (k * 11 + 9) c9).set (k * 11 + 10) c10)[k * 11 + j]? = some ([c0, c1, c2, c3, c4, c5, c6, c7, c8, c9, c10].getD j (.bool false)) := by
  refine ⟨fun i j hi hj => ?_, fun j hj => ?_⟩
  · rw [List.getElem?_set_ne (by omega), List.getElem?_set_ne (by omega), List.getElem?_set_ne (by omega), List.getElem?_set_ne (by omega), List.getElem?_set_ne (by omega), List.getElem?_set_ne (by omega), List.getElem?_set_ne (by omega), List.getElem?_set_ne (by omega), List.getElem?_set_ne (by omega), List.getElem?_set_ne (by omega), List.getElem?_set_ne (by omega)]
  · rcases (show j = 0 ∨ j = 1 ∨ j = 2 ∨ j = 3 ∨ j = 4 ∨ j = 5 ∨ j = 6 ∨ j = 7 ∨ j = 8 ∨ j = 9 ∨ j = 10 by omega) with rfl | rfl | rfl | rfl | rfl | rfl | rfl | rfl | rfl | rfl | rfl
    · simp only [Nat.add_zero]; rw [List.getElem?_set_ne (by omega), List.getElem?_set_ne (by omega), List.getElem?_set_ne (by omega), List.getElem?_set_ne (by omega), List.getElem?_set_ne (by omega), List.getElem?_set_ne (by omega), List.getElem?_set_ne (by omega), List.getElem?_set_ne (by omega), List.getElem?_set_ne (by omega), List.getElem?_set_ne (by omega), List.getElem?_set_self (by first | omega | (simp only [List.length_set]; omega))]; rfl
    · rw [List.getElem?_set_ne (by omega), List.getElem?_set_ne (by omega), List.getElem?_set_ne (by omega), List.getElem?_set_ne (by omega), List.getElem?_set_ne (by omega), List.getElem?_set_ne (by omega), List.getElem?_set_ne (by omega), List.getElem?_set_ne (by omega), List.getElem?_set_ne (by omega), List.getElem?_set_self (by first | omega | (simp only [List.length_set]; omega))]; rfl
    · rw [List.getElem?_set_ne (by omega), List.getElem?_set_ne (by omega), List.getElem?_set_ne (by omega), List.getElem?_set_ne (by omega), List.getElem?_set_ne (by omega), List.getElem?_set_ne (by omega), List.getElem?_set_ne (by omega), List.getElem?_set_ne (by omega), List.getElem?_set_self (by first | omega | (simp only [List.length_set]; omega))]; rfl
    · rw [List.getElem?_set_ne (by omega), List.getElem?_set_ne (by omega), List.getElem?_set_ne (by omega), List.getElem?_set_ne (by omega), List.getElem?_set_ne (by omega), List.getElem?_set_ne (by omega), List.getElem?_set_ne (by omega), List.getElem?_set_self (by first | omega | (simp only [List.length_set]; omega))]; rfl
    · rw [List.getElem?_set_ne (by omega), List.getElem?_set_ne (by omega), List.getElem?_set_ne (by omega), List.getElem?_set_ne (by omega), List.getElem?_set_ne (by omega), List.getElem?_set_ne (by omega), List.getElem?_set_self (by first | omega | (simp only [List.length_set]; omega))]; rfl
    · rw [List.getElem?_set_ne (by omega), List.getElem?_set_ne (by omega), List.getElem?_set_ne (by omega), List.getElem?_set_ne (by omega), List.getElem?_set_ne (by omega), List.getElem?_set_self (by first | omega | (simp only [List.length_set]; omega))]; rfl
    · rw [List.getElem?_set_ne (by omega), List.getElem?_set_ne (by omega), List.getElem?_set_ne (by omega), List.getElem?_set_ne (by omega), List.getElem?_set_self (by first | omega | (simp only [List.length_set]; omega))]; rfl
    · rw [List.getElem?_set_ne (by omega), List.getElem?_set_ne (by omega), List.getElem?_set_ne (by omega), List.getElem?_set_self (by first | omega | (simp only [List.length_set]; omega))]; rfl
    · rw [List.getElem?_set_ne (by omega), List.getElem?_set_ne (by omega), List.getElem?_set_self (by first | omega | (simp only [List.length_set]; omega))]; rfl
    · rw [List.getElem?_set_ne (by omega), List.getElem?_set_self (by first | omega | (simp only [List.length_set]; omega))]; rfl
    · rw [List.getElem?_set_self (by first | omega | (simp only [List.length_set]; omega))]; rfl

theorem Kept.transC {w w1 w2 : World} {S S1 S2 : Nat → Prop} (h : Kept w w1 S1) (g : Kept w1 w2 S2) (h1 : ∀ k, k < w.heap.size → S1 k → S k) (h2 : ∀ k, k < w.heap.size → S2 k → S k) : Kept w w2 S :=
  ⟨by rw [g.os, h.os], by rw [g.tape, h.tape], by rw [g.output, h.output], Nat.le_trans h.size g.size, fun k hk hn => by rw [g.block k (Nat.lt_of_lt_of_le hk h.size) (fun e => hn (h2 k hk e)), h.block k hk (fun e => hn (h1 k hk e))]⟩

/-- The clone's box beside the world of the call. -/
structure ClS (w W : World) (cs : List Value) : Prop where
  bel : Below w.heap.size w W
  box : W.heap[w.heap.size]? = some (.cells cs.toArray 35 (0, 0))
  res : W.heap[w.heap.size + 1]? = some (.cells rqZ 35 (0, 0))

theorem ClS.lt {w W : World} {cs : List Value} (h : ClS w W cs) : w.heap.size + 2 ≤ W.heap.size := by have := lt_of_block h.res; omega

theorem ClS.kept {w W W' : World} {cs : List Value} {S : Nat → Prop} (h : ClS w W cs) (hk : Kept W W' S) (hS : ∀ k, S k → w.heap.size + 2 ≤ k) : ClS w W' cs :=
  ⟨h.bel.trans (hk.below h.bel.size (fun k e => by have := hS k e; omega)), hk.heap h.box (fun e => by have := hS _ e; omega), hk.heap h.res (fun e => by have := hS _ e; omega)⟩
theorem ClS.later {w W W' : World} {cs : List Value} (h : ClS w W cs) (hb : Below W.heap.size W W') : ClS w W' cs := h.kept (Below.kept hb) (fun _ e => Nat.le_trans h.lt e)
theorem ClS.set {w W : World} {cs : List Value} (h : ClS w W cs) (i : Nat) (x : Value) : ClS w (W.setCell ⟨w.heap.size, i, none⟩ x) (cs.set i x) := by
  have hk : Kept W (W.setCell ⟨w.heap.size, i, none⟩ x) (fun k => k = w.heap.size) := Kept.setCell (Kept.refl _ _) ⟨w.heap.size, i, none⟩ x (fun _ => rfl)
  refine ⟨h.bel.trans (hk.below h.bel.size (fun k e => by omega)), ?_, hk.heap h.res (fun e => by omega)⟩
  have := heap_setR (i := i) x h.box
  rw [this, List.setIfInBounds_toArray]

/-- k of the inner requests are cloned. -/
def ClI (w W4 wr : World) (g c n : Nat) (ops : Fin n → Rq) (oc : Fin n → List Value) (bx : List Value) (k : Nat) : Prop :=
  ClS w wr bx ∧ Kept W4 wr (fun j => j = g ∨ W4.heap.size ≤ j) ∧ ∃ (fl : List Value) (E : Nat → List Value), wr.ownsRow 0 35 11 (.slice (some ⟨g, 0, none⟩) n c) n fl ∧ (∀ i, i < n → ∀ j, j < 11 → fl[i * 11 + j]? = some ((E i).getD j (.bool false))) ∧
    (∀ i (hi : i < n), i < k → RqIn wr (fun q => W4.heap.size ≤ q ∧ q < wr.heap.size) (E i) (ops ⟨i, hi⟩)) ∧ ∀ i (hi : i < n), k ≤ i → E i = oc ⟨i, hi⟩

theorem ClI.step {w W4 wr w5 : World} {g c n k B : Nat} {ops : Fin n → Rq} {oc : Fin n → List Value} {bx : List Value} {c0 c1 c2 c3 c4 c5 c6 c7 c8 c9 c10 : Value} (h : ClI w W4 wr g c n ops oc bx k) (hk : k < n) (hg : w.heap.size + 2 ≤ g ∧ g < W4.heap.size) (b5 : Below wr.heap.size wr w5) (hB : wr.heap.size ≤ B) (hq : RqIn w5 (fun q => B ≤ q ∧ q < w5.heap.size) [c0, c1, c2, c3, c4, c5, c6, c7, c8, c9, c10] (ops ⟨k, hk⟩)) :
    ClI w W4 (w11 w5 g (k * 11) c0 c1 c2 c3 c4 c5 c6 c7 c8 c9 c10) g c n ops oc bx (k + 1) := by
  obtain ⟨hS, hK, fl, E, h1, h2, h3, h4⟩ := h
  have hs := hK.size
  have h1' := ownsRow_kept h1 (Below.kept b5) (fun q hq e => by cases hq; exact absurd (show wr.heap.size ≤ g from e) (by omega))
  obtain ⟨o1, o2⟩ := own11C (k := k) h1' c0 c1 c2 c3 c4 c5 c6 c7 c8 c9 c10
  have hfl : fl.length = n * 11 := h1.1
  have hkn : k * 11 + 11 ≤ fl.length := by
    have : (k + 1) * 11 ≤ n * 11 := Nat.mul_le_mul_right 11 hk
    omega
  obtain ⟨s1, s2⟩ := set11C fl k hkn c0 c1 c2 c3 c4 c5 c6 c7 c8 c9 c10
  have hs5 := b5.size
  have hs6 := o2.size
  refine ⟨(hS.later b5).kept o2 (fun q e => by omega), (hK.transC (Below.kept b5) (fun j _ e => e) (fun j hj e => .inr (by omega))).transC o2 (fun j _ e => e) (fun j hj e => .inl e), _, fun i => if i = k then [c0, c1, c2, c3, c4, c5, c6, c7, c8, c9, c10] else E i, o1, fun i hn j hj => ?_, fun i hi hk' => ?_, fun i hi hk' => ?_⟩
  · dsimp only
    by_cases e : i = k
    · subst e
      rw [if_pos rfl]
      exact s2 j hj
    · rw [if_neg e, s1 i j e hj]
      exact h2 i hn j hj
  · dsimp only
    by_cases e : i = k
    · subst e
      rw [if_pos rfl]
      exact RqIn.kept o2 (fun q hq => ⟨fun e => by omega, by omega, by omega⟩) hq
    · rw [if_neg e]
      exact RqIn.kept o2 (fun q hq => ⟨fun e => by omega, hq⟩) (RqIn.kept (Below.kept b5) (fun q hq => ⟨fun e => by omega, hq.1, (by omega : q < _)⟩) (h3 i hi (by omega)))
  · dsimp only
    rw [if_neg (by omega)]
    exact h4 i hi (by omega)

theorem sees_R1 {w : World} {v : Value} {xs : List Int} (h : Sees w v xs) : SeesR w v 1 (xs.map fun x => [Value.int .u8 x]) := by
  obtain ⟨ao, cap, rfl, h1, h2, h0, h3⟩ := h
  refine ⟨ao, cap, by rw [List.length_map], by rw [List.length_map]; exact h1, h2, h0, ?_⟩
  rcases h3 with h3 | ⟨b, off, rfl, h3⟩
  · exact .inl (by rw [h3]; rfl)
  · refine .inr ⟨b, off, rfl, fun i hi j hj => ?_⟩
    obtain rfl : j = 0 := by omega
    rw [List.length_map] at hi
    rw [Nat.mul_one, Nat.add_zero, h3 i hi]
    simp [List.getD_eq_getElem?_getD, hi]

theorem flat_one (xs : List Int) : (xs.map fun x => [Value.int .u8 x]).flatten = xs.map (Value.int .u8) := by
  induction xs with
  | nil => rfl
  | cons a t ih => simp only [List.map_cons, List.flatten_cons, ih]; rfl

theorem copiedB_any (v : Value) (xs : List Int) (w : World) (h : Sees w v xs) (hl : xs.length ≤ 1000000) :
    Calls Tryz.prog 41 #[v] w fun e w' => ∃ v', e = .returned v' ∧ Owns w' w.heap.size v' xs ∧ Below w.heap.size w w' := by
  refine (copiedBy_any v _ w (sees_R1 h) (fun c hc => by obtain ⟨x, _, rfl⟩ := List.mem_map.1 hc; rfl) (fun c hc u hu => by obtain ⟨x, _, rfl⟩ := List.mem_map.1 hc; simp at hu; subst hu; rfl) (by rw [List.length_map]; exact hl)).mono ?_
  rintro e w' ⟨v', rfl, ho, hb⟩
  rw [flat_one, List.length_map] at ho
  exact ⟨v', rfl, ho, hb⟩
end Go.Proofs.YtgjjcmhlmdfccaaGreatDoor
