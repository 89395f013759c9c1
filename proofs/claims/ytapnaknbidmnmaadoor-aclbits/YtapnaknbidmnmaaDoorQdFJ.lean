/- AclBits: its walk for every case; a case that came in, opened. -/
import Derived.Test.YtapnaknbidmnmaaDoorQdEaJ
import Derived.Test.YtapnaknbidmnmaaDoorQdEbJ
import Derived.Test.YtapnaknbidmnmaaDoorQdEcJ
import Derived.Test.YtapnaknbidmnmaaDoorQdEdJ
import Derived.Test.YtapnaknbidmnmaaDoorQdEeJ
import Derived.Test.YtapnaknbidmnmaaDoorQdEfJ
import Derived.Test.YtapnaknbidmnmaaDoorRqOpenJ
import Derived.Lib.SmallJoins
namespace Go.Proofs.YtapnaknbidmnmaaDoor
open Go.ChangeShapes Go.WideShapes Go.ChangeAt Go.RowKit Go.Joins
set_option maxRecDepth 8000

theorem bits_walk (l : List EnT) (mk who : List IdT) (pm : Int) (m : EnT) (o : IdT) (la ma wa : Option Addr) (lc mc wc : Nat) (w : World) (hl : SE w (.slice la l.length lc) l) (hm : SI w (.slice ma mk.length mc) mk) (hw : SI w (.slice wa who.length wc) who) (n1 : l.length ≤ 2 ^ 62) (n2 : mk.length ≤ 2 ^ 62) (n3 : who.length ≤ 2 ^ 62) :
    Calls Tryd.prog 3 #[.agg #[.slice la l.length lc, .slice ma mk.length mc, .int .i8 pm, .slice wa who.length wc, .int .i8 m.1, .string m.2.1, .string m.2.2, .string o.1, .string o.2]] w fun e w' => e = .returned (.bool true) ∧ Below w.heap.size w w' := by
  obtain ⟨b, hb⟩ : ∃ b, ∀ f, fixA l mk = some f → enLs (f ++ [m]) = b := by
    cases h : fixA l mk with
    | none => exact ⟨true, fun f hf => by cases hf⟩
    | some f0 => exact ⟨enLs (f0 ++ [m]), fun f hf => by cases hf; rfl⟩
  cases hi : idLs who
  · cases b
    · exact bits_walk_f l mk who pm m o la ma wa lc mc wc w hl hm hw n1 n2 n3 hi hb
    · cases ha : isAu m
      · exact bits_walk_d l mk who pm m o la ma wa lc mc wc w hl hm hw n1 n2 n3 hi hb ha
      · exact bits_walk_e l mk who pm m o la ma wa lc mc wc w hl hm hw n1 n2 n3 hi hb ha
  · cases b
    · exact bits_walk_c l mk who pm m o la ma wa lc mc wc w hl hm hw n1 n2 n3 hi hb
    · cases ha : isAu m
      · exact bits_walk_a l mk who pm m o la ma wa lc mc wc w hl hm hw n1 n2 n3 hi hb ha
      · exact bits_walk_b l mk who pm m o la ma wa lc mc wc w hl hm hw n1 n2 n3 hi hb ha

def enOf (d : EnD) : EnT := (d.perms, d.id.scheme, d.id.name)
def idOf (d : IdD) : IdT := (d.scheme, d.name)

theorem SE_sees {W : World} {v : Value} {l : List EnD} (h : SeesR W v 3 (l.map EnD.cells)) : SE W v (l.map enOf) := by
  obtain ⟨ao, cap, rfl, hlc, _, _, h3⟩ := h
  refine ⟨ao, cap, by simp, by simpa using hlc, fun hn => ?_⟩
  rcases h3 with h3 | ⟨b, off, rfl, h3⟩
  · exact absurd (by simpa using h3) (by simpa using hn)
  · refine ⟨b, off, rfl, fun i x hx => ?_⟩
    rw [List.getElem?_map, Option.map_eq_some_iff] at hx
    obtain ⟨d, hd, rfl⟩ := hx
    obtain ⟨hi, hd2⟩ := List.getElem?_eq_some_iff.1 hd
    have e0 := h3 i (by simpa using hi) 0 (by omega)
    have e1 := h3 i (by simpa using hi) 1 (by omega)
    have e2 := h3 i (by simpa using hi) 2 (by omega)
    rw [List.getElem_map, hd2] at e0 e1 e2
    exact ⟨e0, e1, e2⟩

theorem SI_sees {W : World} {v : Value} {l : List IdD} (h : SeesR W v 2 (l.map IdD.cells)) : SI W v (l.map idOf) := by
  obtain ⟨ao, cap, rfl, hlc, _, _, h3⟩ := h
  refine ⟨ao, cap, by simp, by simpa using hlc, fun hn => ?_⟩
  rcases h3 with h3 | ⟨b, off, rfl, h3⟩
  · exact absurd (by simpa using h3) (by simpa using hn)
  · refine ⟨b, off, rfl, fun i x hx => ?_⟩
    rw [List.getElem?_map, Option.map_eq_some_iff] at hx
    obtain ⟨d, hd, rfl⟩ := hx
    obtain ⟨hi, hd2⟩ := List.getElem?_eq_some_iff.1 hd
    have e0 := h3 i (by simpa using hi) 0 (by omega)
    have e1 := h3 i (by simpa using hi) 1 (by omega)
    rw [List.getElem_map, hd2] at e0 e1
    exact ⟨e0, e1⟩

theorem reach_len : reachBytes ≤ 2 ^ 62 := by have := reach_lt; omega

section
variable {H : Type} {enc : TypeId × Value → H} {W : World} {base : Nat} {spare : Nat → Bool} {held : Bool}

/-- A case that came in. -/
theorem open_case {r : Reach} {b0 : Nat} {v : Value} {d : DataW H} {ps : List MemPlace} (hv : Value.okWide Tryd.prog W r b0 30 v) (h : DataW.Trod enc Tryd.prog W base spare held 30 v d ps) (hw : (d.weights Tryd.prog 30).all (· ≤ reachBytes) = true) :
    ∃ (l : List EnT) (mk who : List IdT) (pm : Int) (m : EnT) (o : IdT) (la ma wa : Option Addr) (lc mc wc : Nat), v = .agg #[.slice la l.length lc, .slice ma mk.length mc, .int .i8 pm, .slice wa who.length wc, .int .i8 m.1, .string m.2.1, .string m.2.2, .string o.1, .string o.2] ∧ SE W (.slice la l.length lc) l ∧ SI W (.slice ma mk.length mc) mk ∧ SI W (.slice wa who.length wc) who ∧ l.length ≤ 2 ^ 62 ∧ mk.length ≤ 2 ^ 62 ∧ who.length ≤ 2 ^ 62 := by
  have hcells : Tryd.prog.cellsOf 30 = 9 := by kernel_rfl
  obtain ⟨cs, rfl, hsz⟩ := okWide_struct Tryd.underlying30 hv
  rw [hcells] at hsz
  obtain ⟨fuel, hf0⟩ := h
  obtain ⟨xs, n, _, hx, hl, hxl, hf⟩ := DataW.trod_struct Tryd.underlying30 hf0
  have q1 : Tryd.prog.cellsOf 22 = 1 := by kernel_rfl
  have q2 : Tryd.prog.cellsOf 23 = 1 := by kernel_rfl
  have q3 : Tryd.prog.cellsOf 24 = 1 := by kernel_rfl
  have q4 : Tryd.prog.cellsOf 28 = 3 := by kernel_rfl
  have q5 : Tryd.prog.cellsOf 26 = 2 := by kernel_rfl
  have g0 : DataW.trod enc Tryd.prog W base spare held n 22 (((Value.agg cs).cells.toList.drop 0).take (Tryd.prog.cellsOf 22)) = xs[0]? := hf 0 _ rfl
  have g1 : DataW.trod enc Tryd.prog W base spare held n 23 (((Value.agg cs).cells.toList.drop 1).take (Tryd.prog.cellsOf 23)) = xs[1]? := hf 1 _ rfl
  have g2 : DataW.trod enc Tryd.prog W base spare held n 24 (((Value.agg cs).cells.toList.drop 2).take (Tryd.prog.cellsOf 24)) = xs[2]? := hf 2 _ rfl
  have g3 : DataW.trod enc Tryd.prog W base spare held n 23 (((Value.agg cs).cells.toList.drop 3).take (Tryd.prog.cellsOf 23)) = xs[3]? := hf 3 _ rfl
  have g4 : DataW.trod enc Tryd.prog W base spare held n 28 (((Value.agg cs).cells.toList.drop 4).take (Tryd.prog.cellsOf 28)) = xs[4]? := hf 4 _ rfl
  have g5 : DataW.trod enc Tryd.prog W base spare held n 26 (((Value.agg cs).cells.toList.drop 7).take (Tryd.prog.cellsOf 26)) = xs[5]? := hf 5 _ rfl
  have hxl2 : xs.length = 6 := hxl
  clear hf hxl hl
  obtain ⟨cl⟩ := cs
  match xs, hxl2, cl, hsz with
  | [y0, y1, y2, y3, y4, y5], _, [v0, v1, v2, v3, v4, v5, v6, v7, v8], _ =>
    rw [q1] at g0
    rw [q2] at g1 g3
    rw [q3] at g2
    rw [q4] at g4
    rw [q5] at g5
    have hx1 := congrArg Prod.fst hx
    dsimp only at hx1
    rw [hx1] at hw
    simp only [DataW.weights, Tryd.underlying30] at hw
    obtain ⟨l, s0, n0, _⟩ := open_acl (show DataW.trod enc Tryd.prog W base spare held n 22 [v0] = some y0 from g0) (parts_all (t := 22) hw 0 y0.1 rfl rfl)
    obtain ⟨mk, s1, n1, _⟩ := open_ids (show DataW.trod enc Tryd.prog W base spare held n 23 [v1] = some y1 from g1) (parts_all (t := 23) hw 1 y1.1 rfl rfl)
    obtain ⟨pm, e2, _, _⟩ := DataW.trod_int Tryd.underlying24 (show DataW.trod enc Tryd.prog W base spare held n 24 [v2] = some y2 from g2)
    obtain ⟨who, s3, n3, _⟩ := open_ids (show DataW.trod enc Tryd.prog W base spare held n 23 [v3] = some y3 from g3) (parts_all (t := 23) hw 3 y3.1 rfl rfl)
    obtain ⟨m, e4, _⟩ := open_en (show DataW.trod enc Tryd.prog W base spare held n 28 [v4, v5, v6] = some y4 from g4) (parts_all (t := 28) hw 4 y4.1 rfl rfl)
    obtain ⟨o, e5, _⟩ := open_id (show DataW.trod enc Tryd.prog W base spare held n 26 [v7, v8] = some y5 from g5) (parts_all (t := 26) hw 5 y5.1 rfl rfl)
    simp only [List.cons.injEq, and_true] at e2
    subst e2
    unfold EnD.cells at e4
    unfold IdD.cells at e5
    simp only [List.cons.injEq, and_true] at e4 e5
    obtain ⟨rfl, rfl, rfl⟩ := e4
    obtain ⟨rfl, rfl⟩ := e5
    have t0 := SE_sees s0
    have t1 := SI_sees s1
    have t3 := SI_sees s3
    obtain ⟨la, lc, rfl, _⟩ := id t0
    obtain ⟨ma, mc, rfl, _⟩ := id t1
    obtain ⟨wa, wc, rfl, _⟩ := id t3
    have hr := reach_len
    exact ⟨l.map enOf, mk.map idOf, who.map idOf, pm, enOf m, idOf o, la, ma, wa, lc, mc, wc, rfl, t0, t1, t3, by rw [List.length_map]; omega, by rw [List.length_map]; omega, by rw [List.length_map]; omega⟩
end

end Go.Proofs.YtapnaknbidmnmaaDoor
