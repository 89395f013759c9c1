/- A case of layer 6 that came in, opened. -/
import Derived.Test.YtjakjbfeaiempaaDoorQdS
import Derived.Lib.SmallJoins
namespace Go.Proofs.YtjakjbfeaiempaaDoor
open Go.ChangeShapes Go.WideShapes Go.ChangeAt Go.RowKit Go.Joins
set_option maxRecDepth 8000

section
variable {H : Type} {enc : TypeId × Value → H} {W : World} {base : Nat} {spare : Nat → Bool} {held : Bool}

/-- A case that came in. -/
theorem open_case {r : Reach} {b0 : Nat} {v : Value} {d : DataW H} {ps : List MemPlace} (hv : Value.okWide Tryd.prog W r b0 41 v) (h : DataW.Trod enc Tryd.prog W base spare held 41 v d ps) (hw : (d.weights Tryd.prog 41).all (· ≤ reachBytes) = true) :
    ∃ (l : List EnT) (mk who : List IdT) (pm : Int) (m : EnT) (o : IdT) (la ma wa : Option Addr) (lc mc wc : Nat), v = .agg #[.slice la l.length lc, .slice ma mk.length mc, .int .i8 pm, .slice wa who.length wc, .int .i8 m.1, .string m.2.1, .string m.2.2, .string o.1, .string o.2] ∧ SE W (.slice la l.length lc) l ∧ SI W (.slice ma mk.length mc) mk ∧ SI W (.slice wa who.length wc) who ∧ l.length ≤ 2 ^ 62 ∧ mk.length ≤ 2 ^ 62 ∧ who.length ≤ 2 ^ 62 := by
  have hcells : Tryd.prog.cellsOf 41 = 9 := by kernel_rfl
  obtain ⟨cs, rfl, hsz⟩ := okWide_struct Tryd.underlying41 hv
  rw [hcells] at hsz
  obtain ⟨fuel, hf0⟩ := h
  obtain ⟨xs, n, _, hx, hl, hxl, hf⟩ := DataW.trod_struct Tryd.underlying41 hf0
  have q1 : Tryd.prog.cellsOf 22 = 1 := by kernel_rfl
  have q2 : Tryd.prog.cellsOf 23 = 1 := by kernel_rfl
  have q3 : Tryd.prog.cellsOf 35 = 1 := by kernel_rfl
  have q4 : Tryd.prog.cellsOf 39 = 3 := by kernel_rfl
  have q5 : Tryd.prog.cellsOf 37 = 2 := by kernel_rfl
  have g0 : DataW.trod enc Tryd.prog W base spare held n 22 (((Value.agg cs).cells.toList.drop 0).take (Tryd.prog.cellsOf 22)) = xs[0]? := hf 0 _ rfl
  have g1 : DataW.trod enc Tryd.prog W base spare held n 23 (((Value.agg cs).cells.toList.drop 1).take (Tryd.prog.cellsOf 23)) = xs[1]? := hf 1 _ rfl
  have g2 : DataW.trod enc Tryd.prog W base spare held n 35 (((Value.agg cs).cells.toList.drop 2).take (Tryd.prog.cellsOf 35)) = xs[2]? := hf 2 _ rfl
  have g3 : DataW.trod enc Tryd.prog W base spare held n 23 (((Value.agg cs).cells.toList.drop 3).take (Tryd.prog.cellsOf 23)) = xs[3]? := hf 3 _ rfl
  have g4 : DataW.trod enc Tryd.prog W base spare held n 39 (((Value.agg cs).cells.toList.drop 4).take (Tryd.prog.cellsOf 39)) = xs[4]? := hf 4 _ rfl
  have g5 : DataW.trod enc Tryd.prog W base spare held n 37 (((Value.agg cs).cells.toList.drop 7).take (Tryd.prog.cellsOf 37)) = xs[5]? := hf 5 _ rfl
  have hxl2 : xs.length = 6 := hxl
  clear hf hxl hl
  obtain ⟨cl⟩ := cs
  match xs, hxl2, cl, hsz with
  | [y0, y1, y2, y3, y4, y5], _, [v0, v1, v2, v3, v4, v5, v6, v7, v8], _ =>
    rw [q1] at g0
    rw [q2] at g1 g3
    rw [q3] at g2
    rw [q4] at g4
    rw [q5] at g5
    have hx1 := congrArg Prod.fst hx
    dsimp only at hx1
    rw [hx1] at hw
    simp only [DataW.weights, Tryd.underlying41] at hw
    obtain ⟨l, s0, n0, _⟩ := open_acl (show DataW.trod enc Tryd.prog W base spare held n 22 [v0] = some y0 from g0) (parts_all (t := 22) hw 0 y0.1 rfl rfl)
    obtain ⟨mk, s1, n1, _⟩ := open_ids (show DataW.trod enc Tryd.prog W base spare held n 23 [v1] = some y1 from g1) (parts_all (t := 23) hw 1 y1.1 rfl rfl)
    obtain ⟨pm, e2, _, _⟩ := DataW.trod_int Tryd.underlying35 (show DataW.trod enc Tryd.prog W base spare held n 35 [v2] = some y2 from g2)
    obtain ⟨who, s3, n3, _⟩ := open_ids (show DataW.trod enc Tryd.prog W base spare held n 23 [v3] = some y3 from g3) (parts_all (t := 23) hw 3 y3.1 rfl rfl)
    obtain ⟨m, e4, _⟩ := open_en (show DataW.trod enc Tryd.prog W base spare held n 39 [v4, v5, v6] = some y4 from g4) (parts_all (t := 39) hw 4 y4.1 rfl rfl)
    obtain ⟨o, e5, _⟩ := open_id (show DataW.trod enc Tryd.prog W base spare held n 37 [v7, v8] = some y5 from g5) (parts_all (t := 37) hw 5 y5.1 rfl rfl)
    simp only [List.cons.injEq, and_true] at e2
    subst e2
    unfold EnD.cells at e4
    unfold IdD.cells at e5
    simp only [List.cons.injEq, and_true] at e4 e5
    obtain ⟨rfl, rfl, rfl⟩ := e4
    obtain ⟨rfl, rfl⟩ := e5
    have t0 := SE_sees s0
    have t1 := SI_sees s1
    have t3 := SI_sees s3
    obtain ⟨la, lc, rfl, _⟩ := id t0
    obtain ⟨ma, mc, rfl, _⟩ := id t1
    obtain ⟨wa, wc, rfl, _⟩ := id t3
    have hr := reach_len
    exact ⟨l.map enOf, mk.map idOf, who.map idOf, pm, enOf m, idOf o, la, ma, wa, lc, mc, wc, rfl, t0, t1, t3, by rw [List.length_map]; omega, by rw [List.length_map]; omega, by rw [List.length_map]; omega⟩
end

end Go.Proofs.YtjakjbfeaiempaaDoor
