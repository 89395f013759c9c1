/- EqRequest and EqTxn of lagoonref00 at two requests, two transactions of the same data: true; nothing that was there is changed. -/
import Derived.Test.YtiakjeomedijkaaGreatDoorEqRJ
import Derived.Test.YtiakjeomedijkaaGreatDoorChk2J
import Derived.Deep.RegionHeld
namespace Go.Proofs.YtiakjeomedijkaaGreatDoor
open Go.RowKit
set_option maxRecDepth 8000

theorem below_of_drewN {w w' : World} (h : ∃ n, w' = w.drewN n) : Below w.heap.size w w' := by
  obtain ⟨n, rfl⟩ := h
  exact below_drewN (Below.refl _ _) _

theorem seesR_shape {w : World} {v : Value} {z : Nat} {cs : List (List Value)} (h : SeesR w v z cs) : ∃ a c, v = .slice a cs.length c := by
  obtain ⟨ao, cap, rfl, _⟩ := h; exact ⟨_, _, rfl⟩

theorem rq_inv {w : World} {cs : List Value} {f : RqF} {n : Nat} {ops : Fin n → Rq} (h : SeesRq w cs (.mk f n ops)) : ∃ dv av wv ov oc, cs = rqCells f dv av wv ov ∧ Sees w dv f.data ∧ SeesR w av 3 (f.acl.map EnD.cells) ∧ SeesR w wv 2 (f.who.map IdD.cells) ∧ SeesR w ov 11 (List.ofFn oc) ∧ ∀ i : Fin n, SeesRq w (oc i) (ops i) := by
  cases h with
  | mk _ _ _ dv av wv ov oc hd ha hw ho hs => exact ⟨dv, av, wv, ov, oc, rfl, hd, ha, hw, ho, hs⟩

theorem keepQ {W W' : World} {N b o c p : Nat} {z0 z1 z2 z3 z4 z5 z6 z7 z8 z9 z10 z11 z12 z13 z14 z15 z16 z17 z18 z19 z20 z21 z22 z23 : Value} (hb : Below W.heap.size W W') (h : W.cell? ⟨N, 10, none⟩ = some z0 ∧ W.cell? ⟨N + 1, 10, none⟩ = some z1 ∧ W.cell? ⟨b, o, none⟩ = some z2 ∧ W.cell? ⟨b, o + 1, none⟩ = some z3 ∧ W.cell? ⟨b, o + 2, none⟩ = some z4 ∧ W.cell? ⟨b, o + 3, none⟩ = some z5 ∧ W.cell? ⟨b, o + 4, none⟩ = some z6 ∧ W.cell? ⟨b, o + 5, none⟩ = some z7 ∧ W.cell? ⟨b, o + 6, none⟩ = some z8 ∧ W.cell? ⟨b, o + 7, none⟩ = some z9 ∧ W.cell? ⟨b, o + 8, none⟩ = some z10 ∧ W.cell? ⟨b, o + 9, none⟩ = some z11 ∧ W.cell? ⟨b, o + 10, none⟩ = some z12 ∧ W.cell? ⟨c, p, none⟩ = some z13 ∧ W.cell? ⟨c, p + 1, none⟩ = some z14 ∧ W.cell? ⟨c, p + 2, none⟩ = some z15 ∧ W.cell? ⟨c, p + 3, none⟩ = some z16 ∧ W.cell? ⟨c, p + 4, none⟩ = some z17 ∧ W.cell? ⟨c, p + 5, none⟩ = some z18 ∧ W.cell? ⟨c, p + 6, none⟩ = some z19 ∧ W.cell? ⟨c, p + 7, none⟩ = some z20 ∧ W.cell? ⟨c, p + 8, none⟩ = some z21 ∧ W.cell? ⟨c, p + 9, none⟩ = some z22 ∧ W.cell? ⟨c, p + 10, none⟩ = some z23) :
    W'.cell? ⟨N, 10, none⟩ = some z0 ∧ W'.cell? ⟨N + 1, 10, none⟩ = some z1 ∧ W'.cell? ⟨b, o, none⟩ = some z2 ∧ W'.cell? ⟨b, o + 1, none⟩ = some z3 ∧ W'.cell? ⟨b, o + 2, none⟩ = some z4 ∧ W'.cell? ⟨b, o + 3, none⟩ = some z5 ∧ W'.cell? ⟨b, o + 4, none⟩ = some z6 ∧ W'.cell? ⟨b, o + 5, none⟩ = some z7 ∧ W'.cell? ⟨b, o + 6, none⟩ = some z8 ∧ W'.cell? ⟨b, o + 7, none⟩ = some z9 ∧ W'.cell? ⟨b, o + 8, none⟩ = some z10 ∧ W'.cell? ⟨b, o + 9, none⟩ = some z11 ∧ W'.cell? ⟨b, o + 10, none⟩ = some z12 ∧ W'.cell? ⟨c, p, none⟩ = some z13 ∧ W'.cell? ⟨c, p + 1, none⟩ = some z14 ∧ W'.cell? ⟨c, p + 2, none⟩ = some z15 ∧ W'.cell? ⟨c, p + 3, none⟩ = some z16 ∧ W'.cell? ⟨c, p + 4, none⟩ = some z17 ∧ W'.cell? ⟨c, p + 5, none⟩ = some z18 ∧ W'.cell? ⟨c, p + 6, none⟩ = some z19 ∧ W'.cell? ⟨c, p + 7, none⟩ = some z20 ∧ W'.cell? ⟨c, p + 8, none⟩ = some z21 ∧ W'.cell? ⟨c, p + 9, none⟩ = some z22 ∧ W'.cell? ⟨c, p + 10, none⟩ = some z23 :=
  ⟨cell_later h.1 hb (Nat.le_refl _), cell_later h.2.1 hb (Nat.le_refl _), cell_later h.2.2.1 hb (Nat.le_refl _), cell_later h.2.2.2.1 hb (Nat.le_refl _), cell_later h.2.2.2.2.1 hb (Nat.le_refl _), cell_later h.2.2.2.2.2.1 hb (Nat.le_refl _), cell_later h.2.2.2.2.2.2.1 hb (Nat.le_refl _), cell_later h.2.2.2.2.2.2.2.1 hb (Nat.le_refl _), cell_later h.2.2.2.2.2.2.2.2.1 hb (Nat.le_refl _), cell_later h.2.2.2.2.2.2.2.2.2.1 hb (Nat.le_refl _), cell_later h.2.2.2.2.2.2.2.2.2.2.1 hb (Nat.le_refl _), cell_later h.2.2.2.2.2.2.2.2.2.2.2.1 hb (Nat.le_refl _), cell_later h.2.2.2.2.2.2.2.2.2.2.2.2.1 hb (Nat.le_refl _), cell_later h.2.2.2.2.2.2.2.2.2.2.2.2.2.1 hb (Nat.le_refl _), cell_later h.2.2.2.2.2.2.2.2.2.2.2.2.2.2.1 hb (Nat.le_refl _), cell_later h.2.2.2.2.2.2.2.2.2.2.2.2.2.2.2.1 hb (Nat.le_refl _), cell_later h.2.2.2.2.2.2.2.2.2.2.2.2.2.2.2.2.1 hb (Nat.le_refl _), cell_later h.2.2.2.2.2.2.2.2.2.2.2.2.2.2.2.2.2.1 hb (Nat.le_refl _), cell_later h.2.2.2.2.2.2.2.2.2.2.2.2.2.2.2.2.2.2.1 hb (Nat.le_refl _), cell_later h.2.2.2.2.2.2.2.2.2.2.2.2.2.2.2.2.2.2.2.1 hb (Nat.le_refl _), cell_later h.2.2.2.2.2.2.2.2.2.2.2.2.2.2.2.2.2.2.2.2.1 hb (Nat.le_refl _), cell_later h.2.2.2.2.2.2.2.2.2.2.2.2.2.2.2.2.2.2.2.2.2.1 hb (Nat.le_refl _), cell_later h.2.2.2.2.2.2.2.2.2.2.2.2.2.2.2.2.2.2.2.2.2.2.1 hb (Nat.le_refl _), cell_later h.2.2.2.2.2.2.2.2.2.2.2.2.2.2.2.2.2.2.2.2.2.2.2 hb (Nat.le_refl _)⟩

end Go.Proofs.YtiakjeomedijkaaGreatDoor