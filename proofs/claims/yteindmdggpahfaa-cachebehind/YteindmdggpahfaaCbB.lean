/- Put of a ring of transactions. -/
import Derived.Test.YteindmdggpahfaaCbA
namespace Go.Proofs.Yteindmdggpahfaa
open Go.RowKit
set_option maxRecDepth 8000
set_option linter.unusedSimpArgs false

abbrev w16 (w : World) (g o : Nat) (c0 c1 c2 c3 c4 c5 c6 c7 c8 c9 c10 c11 c12 c13 c14 c15 : Value) : World := ((((((((((((((((w).setCell ⟨g, o, none⟩ c0).setCell ⟨g, o + 1, none⟩ c1).setCell ⟨g, o + 2, none⟩ c2).setCell ⟨g, o + 3, none⟩ c3).setCell ⟨g, o + 4, none⟩ c4).setCell ⟨g, o + 5, none⟩ c5).setCell ⟨g, o + 6, none⟩ c6).setCell ⟨g, o + 7, none⟩ c7).setCell ⟨g, o + 8, none⟩ c8).setCell ⟨g, o + 9, none⟩ c9).setCell ⟨g, o + 10, none⟩ c10).setCell ⟨g, o + 11, none⟩ c11).setCell ⟨g, o + 12, none⟩ c12).setCell ⟨g, o + 13, none⟩ c13).setCell ⟨g, o + 14, none⟩ c14).setCell ⟨g, o + 15, none⟩ c15

theorem row_congr {w : World} {p N : Nat} {T : TypeId} {f g : Nat → Value} (h : w.rowIs p T N f) (e : f = g) : w.rowIs p T N g := e ▸ h

theorem row16 {w : World} {p o N : Nat} {T : TypeId} {f : Nat → Value} (h : w.rowIs p T N f) (c0 c1 c2 c3 c4 c5 c6 c7 c8 c9 c10 c11 c12 c13 c14 c15 : Value) : (w16 w p o c0 c1 c2 c3 c4 c5 c6 c7 c8 c9 c10 c11 c12 c13 c14 c15).rowIs p T N (put16 f o [c0, c1, c2, c3, c4, c5, c6, c7, c8, c9, c10, c11, c12, c13, c14, c15]) := by
  have h9 := ((((((((((((((((h.set (o) c0).set (o + 1) c1).set (o + 2) c2).set (o + 3) c3).set (o + 4) c4).set (o + 5) c5).set (o + 6) c6).set (o + 7) c7).set (o + 8) c8).set (o + 9) c9).set (o + 10) c10).set (o + 11) c11).set (o + 12) c12).set (o + 13) c13).set (o + 14) c14).set (o + 15) c15)
  refine row_congr h9 ?_
  · funext j
    unfold put16
    by_cases hj : o ≤ j ∧ j < o + 16
    · rw [if_pos hj]
      obtain ⟨d, rfl⟩ : ∃ d, j = o + d := ⟨j - o, by omega⟩
      rcases (show d = 0 ∨ d = 1 ∨ d = 2 ∨ d = 3 ∨ d = 4 ∨ d = 5 ∨ d = 6 ∨ d = 7 ∨ d = 8 ∨ d = 9 ∨ d = 10 ∨ d = 11 ∨ d = 12 ∨ d = 13 ∨ d = 14 ∨ d = 15 by omega) with rfl | rfl | rfl | rfl | rfl | rfl | rfl | rfl | rfl | rfl | rfl | rfl | rfl | rfl | rfl | rfl <;> simp
    · rw [if_neg hj]
      rw [if_neg (show ¬ j = o + 15 by omega), if_neg (show ¬ j = o + 14 by omega), if_neg (show ¬ j = o + 13 by omega), if_neg (show ¬ j = o + 12 by omega), if_neg (show ¬ j = o + 11 by omega), if_neg (show ¬ j = o + 10 by omega), if_neg (show ¬ j = o + 9 by omega), if_neg (show ¬ j = o + 8 by omega), if_neg (show ¬ j = o + 7 by omega), if_neg (show ¬ j = o + 6 by omega), if_neg (show ¬ j = o + 5 by omega), if_neg (show ¬ j = o + 4 by omega), if_neg (show ¬ j = o + 3 by omega), if_neg (show ¬ j = o + 2 by omega), if_neg (show ¬ j = o + 1 by omega), if_neg (show ¬ j = o by omega)]

theorem kept16 (w : World) (p o : Nat) (c0 c1 c2 c3 c4 c5 c6 c7 c8 c9 c10 c11 c12 c13 c14 c15 : Value) : Kept w (w16 w p o c0 c1 c2 c3 c4 c5 c6 c7 c8 c9 c10 c11 c12 c13 c14 c15) (· = p) :=
  (((((((((((((((((Kept.refl w (fun k => k = p)).setCell ⟨p, o, none⟩ c0 (fun _ => rfl)).setCell ⟨p, o + 1, none⟩ c1 (fun _ => rfl)).setCell ⟨p, o + 2, none⟩ c2 (fun _ => rfl)).setCell ⟨p, o + 3, none⟩ c3 (fun _ => rfl)).setCell ⟨p, o + 4, none⟩ c4 (fun _ => rfl)).setCell ⟨p, o + 5, none⟩ c5 (fun _ => rfl)).setCell ⟨p, o + 6, none⟩ c6 (fun _ => rfl)).setCell ⟨p, o + 7, none⟩ c7 (fun _ => rfl)).setCell ⟨p, o + 8, none⟩ c8 (fun _ => rfl)).setCell ⟨p, o + 9, none⟩ c9 (fun _ => rfl)).setCell ⟨p, o + 10, none⟩ c10 (fun _ => rfl)).setCell ⟨p, o + 11, none⟩ c11 (fun _ => rfl)).setCell ⟨p, o + 12, none⟩ c12 (fun _ => rfl)).setCell ⟨p, o + 13, none⟩ c13 (fun _ => rfl)).setCell ⟨p, o + 14, none⟩ c14 (fun _ => rfl)).setCell ⟨p, o + 15, none⟩ c15 (fun _ => rfl))

/-- The cells that Put reads. -/
abbrev PuM (b p : Nat) (n : Nat) (c0 c1 c2 c3 c4 c5 c6 c7 c8 c9 c10 c11 c12 c13 c14 c15 : Value) (w' : World) : Prop := w'.cell? ⟨b, 0, none⟩ = some c0 ∧ w'.cell? ⟨b, 1, none⟩ = some c1 ∧ w'.cell? ⟨b, 2, none⟩ = some c2 ∧ w'.cell? ⟨b, 3, none⟩ = some c3 ∧ w'.cell? ⟨b, 4, none⟩ = some c4 ∧ w'.cell? ⟨b, 5, none⟩ = some c5 ∧ w'.cell? ⟨b, 6, none⟩ = some c6 ∧ w'.cell? ⟨b, 7, none⟩ = some c7 ∧ w'.cell? ⟨b, 8, none⟩ = some c8 ∧ w'.cell? ⟨b, 9, none⟩ = some c9 ∧ w'.cell? ⟨b, 10, none⟩ = some c10 ∧ w'.cell? ⟨b, 11, none⟩ = some c11 ∧ w'.cell? ⟨b, 12, none⟩ = some c12 ∧ w'.cell? ⟨b, 13, none⟩ = some c13 ∧ w'.cell? ⟨b, 14, none⟩ = some c14 ∧ w'.cell? ⟨b, 15, none⟩ = some c15 ∧ w'.cell? ⟨p, 1026, none⟩ = some (.int .i64 n)

theorem puM_of {W : World} {b p n N : Nat} {T : TypeId} {f : Nat → Value} {c0 c1 c2 c3 c4 c5 c6 c7 c8 c9 c10 c11 c12 c13 c14 c15 : Value} (h : W.heap[b]? = some (.cells #[c0, c1, c2, c3, c4, c5, c6, c7, c8, c9, c10, c11, c12, c13, c14, c15] 43 (0, 0))) (h2 : W.rowIs p T N f) (hN : 1027 ≤ N) (hn : f 1026 = .int .i64 n) : PuM b p n c0 c1 c2 c3 c4 c5 c6 c7 c8 c9 c10 c11 c12 c13 c14 c15 W :=
  ⟨by rw [cell_of_row _ _ _ _ _ _ h]; rfl, by rw [cell_of_row _ _ _ _ _ _ h]; rfl, by rw [cell_of_row _ _ _ _ _ _ h]; rfl, by rw [cell_of_row _ _ _ _ _ _ h]; rfl, by rw [cell_of_row _ _ _ _ _ _ h]; rfl, by rw [cell_of_row _ _ _ _ _ _ h]; rfl, by rw [cell_of_row _ _ _ _ _ _ h]; rfl, by rw [cell_of_row _ _ _ _ _ _ h]; rfl, by rw [cell_of_row _ _ _ _ _ _ h]; rfl, by rw [cell_of_row _ _ _ _ _ _ h]; rfl, by rw [cell_of_row _ _ _ _ _ _ h]; rfl, by rw [cell_of_row _ _ _ _ _ _ h]; rfl, by rw [cell_of_row _ _ _ _ _ _ h]; rfl, by rw [cell_of_row _ _ _ _ _ _ h]; rfl, by rw [cell_of_row _ _ _ _ _ _ h]; rfl, by rw [cell_of_row _ _ _ _ _ _ h]; rfl, by rw [h2.cell (i := 1026) (by omega), hn]⟩

end Go.Proofs.Yteindmdggpahfaa
