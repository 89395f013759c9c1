/- A row of cells that is stored over, cell by cell; a result that lies in a variable. No Go function is walked here. -/
import Derived.Test.YteindmdggpahfaaProg
import Derived.Test.YteindmdggpahfaaMem
namespace Go.Proofs.Yteindmdggpahfaa
open Go.RowKit
set_option maxRecDepth 8000

theorem heap_setR {w : World} {b i : Nat} {cs : Array Value} {t : TypeId} {fr : Nat × Nat} (c : Value) (h : w.heap[b]? = some (.cells cs t fr)) : (w.setCell ⟨b, i, none⟩ c).heap[b]? = some (.cells (cs.setIfInBounds i c) t fr) := by
  rw [setCell_eq_setRow w b i cs t fr c h]
  exact setRow_heap w b cs _ t fr h

theorem stored11 {U : World} {b : Nat} {t : TypeId} {d0 d1 d2 d3 d4 d5 d6 d7 d8 d9 d10 : Value} (c0 c1 c2 c3 c4 c5 c6 c7 c8 c9 c10 : Value) (hbox : U.heap[b]? = some (.cells #[d0, d1, d2, d3, d4, d5, d6, d7, d8, d9, d10] t (0, 0))) :
    (((((((((((U.setCell ⟨b, 0, none⟩ c0).setCell ⟨b, 1, none⟩ c1).setCell ⟨b, 2, none⟩ c2).setCell ⟨b, 3, none⟩ c3).setCell ⟨b, 4, none⟩ c4).setCell ⟨b, 5, none⟩ c5).setCell ⟨b, 6, none⟩ c6).setCell ⟨b, 7, none⟩ c7).setCell ⟨b, 8, none⟩ c8).setCell ⟨b, 9, none⟩ c9).setCell ⟨b, 10, none⟩ c10).heap[b]? = some (.cells #[c0, c1, c2, c3, c4, c5, c6, c7, c8, c9, c10] t (0, 0)) ∧ Kept U (((((((((((U.setCell ⟨b, 0, none⟩ c0).setCell ⟨b, 1, none⟩ c1).setCell ⟨b, 2, none⟩ c2).setCell ⟨b, 3, none⟩ c3).setCell ⟨b, 4, none⟩ c4).setCell ⟨b, 5, none⟩ c5).setCell ⟨b, 6, none⟩ c6).setCell ⟨b, 7, none⟩ c7).setCell ⟨b, 8, none⟩ c8).setCell ⟨b, 9, none⟩ c9).setCell ⟨b, 10, none⟩ c10) (fun k => k = b) := by
  refine ⟨?_, ?_⟩
  · have hrow := (heap_setR (i := 10) c10 (heap_setR (i := 9) c9 (heap_setR (i := 8) c8 (heap_setR (i := 7) c7 (heap_setR (i := 6) c6 (heap_setR (i := 5) c5 (heap_setR (i := 4) c4 (heap_setR (i := 3) c3 (heap_setR (i := 2) c2 (heap_setR (i := 1) c1 (heap_setR (i := 0) c0 hbox)))))))))))
    have e : (((((((((((#[d0, d1, d2, d3, d4, d5, d6, d7, d8, d9, d10].setIfInBounds 0 c0).setIfInBounds 1 c1).setIfInBounds 2 c2).setIfInBounds 3 c3).setIfInBounds 4 c4).setIfInBounds 5 c5).setIfInBounds 6 c6).setIfInBounds 7 c7).setIfInBounds 8 c8).setIfInBounds 9 c9).setIfInBounds 10 c10) = #[c0, c1, c2, c3, c4, c5, c6, c7, c8, c9, c10] := by simp
    rw [e] at hrow
    exact hrow
  · exact (Kept.setCell (Kept.setCell (Kept.setCell (Kept.setCell (Kept.setCell (Kept.setCell (Kept.setCell (Kept.setCell (Kept.setCell (Kept.setCell (Kept.setCell (Kept.refl U (fun k => k = b)) ⟨b, 0, none⟩ c0 (fun _ => rfl)) ⟨b, 1, none⟩ c1 (fun _ => rfl)) ⟨b, 2, none⟩ c2 (fun _ => rfl)) ⟨b, 3, none⟩ c3 (fun _ => rfl)) ⟨b, 4, none⟩ c4 (fun _ => rfl)) ⟨b, 5, none⟩ c5 (fun _ => rfl)) ⟨b, 6, none⟩ c6 (fun _ => rfl)) ⟨b, 7, none⟩ c7 (fun _ => rfl)) ⟨b, 8, none⟩ c8 (fun _ => rfl)) ⟨b, 9, none⟩ c9 (fun _ => rfl)) ⟨b, 10, none⟩ c10 (fun _ => rfl))

theorem stored16 {U : World} {b : Nat} {t : TypeId} {d0 d1 d2 d3 d4 d5 d6 d7 d8 d9 d10 d11 d12 d13 d14 d15 : Value} (c0 c1 c2 c3 c4 c5 c6 c7 c8 c9 c10 c11 c12 c13 c14 c15 : Value) (hbox : U.heap[b]? = some (.cells #[d0, d1, d2, d3, d4, d5, d6, d7, d8, d9, d10, d11, d12, d13, d14, d15] t (0, 0))) :
    ((((((((((((((((U.setCell ⟨b, 0, none⟩ c0).setCell ⟨b, 1, none⟩ c1).setCell ⟨b, 2, none⟩ c2).setCell ⟨b, 3, none⟩ c3).setCell ⟨b, 4, none⟩ c4).setCell ⟨b, 5, none⟩ c5).setCell ⟨b, 6, none⟩ c6).setCell ⟨b, 7, none⟩ c7).setCell ⟨b, 8, none⟩ c8).setCell ⟨b, 9, none⟩ c9).setCell ⟨b, 10, none⟩ c10).setCell ⟨b, 11, none⟩ c11).setCell ⟨b, 12, none⟩ c12).setCell ⟨b, 13, none⟩ c13).setCell ⟨b, 14, none⟩ c14).setCell ⟨b, 15, none⟩ c15).heap[b]? = some (.cells #[c0, c1, c2, c3, c4, c5, c6, c7, c8, c9, c10, c11, c12, c13, c14, c15] t (0, 0)) ∧ Kept U ((((((((((((((((U.setCell ⟨b, 0, none⟩ c0).setCell ⟨b, 1, none⟩ c1).setCell ⟨b, 2, none⟩ c2).setCell ⟨b, 3, none⟩ c3).setCell ⟨b, 4, none⟩ c4).setCell ⟨b, 5, none⟩ c5).setCell ⟨b, 6, none⟩ c6).setCell ⟨b, 7, none⟩ c7).setCell ⟨b, 8, none⟩ c8).setCell ⟨b, 9, none⟩ c9).setCell ⟨b, 10, none⟩ c10).setCell ⟨b, 11, none⟩ c11).setCell ⟨b, 12, none⟩ c12).setCell ⟨b, 13, none⟩ c13).setCell ⟨b, 14, none⟩ c14).setCell ⟨b, 15, none⟩ c15) (fun k => k = b) := by
  refine ⟨?_, ?_⟩
  · have hrow := (heap_setR (i := 15) c15 (heap_setR (i := 14) c14 (heap_setR (i := 13) c13 (heap_setR (i := 12) c12 (heap_setR (i := 11) c11 (heap_setR (i := 10) c10 (heap_setR (i := 9) c9 (heap_setR (i := 8) c8 (heap_setR (i := 7) c7 (heap_setR (i := 6) c6 (heap_setR (i := 5) c5 (heap_setR (i := 4) c4 (heap_setR (i := 3) c3 (heap_setR (i := 2) c2 (heap_setR (i := 1) c1 (heap_setR (i := 0) c0 hbox))))))))))))))))
    have e : ((((((((((((((((#[d0, d1, d2, d3, d4, d5, d6, d7, d8, d9, d10, d11, d12, d13, d14, d15].setIfInBounds 0 c0).setIfInBounds 1 c1).setIfInBounds 2 c2).setIfInBounds 3 c3).setIfInBounds 4 c4).setIfInBounds 5 c5).setIfInBounds 6 c6).setIfInBounds 7 c7).setIfInBounds 8 c8).setIfInBounds 9 c9).setIfInBounds 10 c10).setIfInBounds 11 c11).setIfInBounds 12 c12).setIfInBounds 13 c13).setIfInBounds 14 c14).setIfInBounds 15 c15) = #[c0, c1, c2, c3, c4, c5, c6, c7, c8, c9, c10, c11, c12, c13, c14, c15] := by simp
    rw [e] at hrow
    exact hrow
  · exact (Kept.setCell (Kept.setCell (Kept.setCell (Kept.setCell (Kept.setCell (Kept.setCell (Kept.setCell (Kept.setCell (Kept.setCell (Kept.setCell (Kept.setCell (Kept.setCell (Kept.setCell (Kept.setCell (Kept.setCell (Kept.setCell (Kept.refl U (fun k => k = b)) ⟨b, 0, none⟩ c0 (fun _ => rfl)) ⟨b, 1, none⟩ c1 (fun _ => rfl)) ⟨b, 2, none⟩ c2 (fun _ => rfl)) ⟨b, 3, none⟩ c3 (fun _ => rfl)) ⟨b, 4, none⟩ c4 (fun _ => rfl)) ⟨b, 5, none⟩ c5 (fun _ => rfl)) ⟨b, 6, none⟩ c6 (fun _ => rfl)) ⟨b, 7, none⟩ c7 (fun _ => rfl)) ⟨b, 8, none⟩ c8 (fun _ => rfl)) ⟨b, 9, none⟩ c9 (fun _ => rfl)) ⟨b, 10, none⟩ c10 (fun _ => rfl)) ⟨b, 11, none⟩ c11 (fun _ => rfl)) ⟨b, 12, none⟩ c12 (fun _ => rfl)) ⟨b, 13, none⟩ c13 (fun _ => rfl)) ⟨b, 14, none⟩ c14 (fun _ => rfl)) ⟨b, 15, none⟩ c15 (fun _ => rfl))

theorem resCell1 {fn : Func} {p : Tmp} {ty : TypeId} (h : fn.results = #[.cell p ty]) (tmps : Array Value) (P : Program) (w : World) :
    (results fn tmps).run P w = ((asAddr (tmps.getD p undef)).run P w).andThen fun a w₁ => (loadVar ty a).run P w₁ := by
  simp only [results, h]
  simp [Sem.run_bind, Result.andThen]

theorem rq_size : (Try.prog.info? 41).map (·.size) = some 11 := by kernel_rfl
theorem tx_size : (Try.prog.info? 43).map (·.size) = some 16 := by kernel_rfl
end Go.Proofs.Yteindmdggpahfaa
