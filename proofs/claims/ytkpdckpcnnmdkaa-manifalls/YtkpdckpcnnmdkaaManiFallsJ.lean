/- ManiFalls of the statements of layer 11 answers true for every two manifests, every number of writes and every list of lengths: wherever the power goes in a Put, whatever is left: behind it the disk has the one manifest or the other, a Put behind that is as good as ever, and what was answered OK is there. No condition. -/
import Derived.Test.YtkpdckpcnnmdkaaRows
import Derived.Test.YtkpdckpcnnmdkaaMaYJ
import Derived.Test.YtkpdckpcnnmdkaaMaUJ
namespace Go.Proofs.Ytkpdckpcnnmdkaa
open Go.ChangeShapes Go.WideShapes Go.ChangeAt Go.RowKit
set_option maxRecDepth 8000
namespace maniFalls

section
variable {H : Type} {enc : TypeId × Value → H} {W : World} {base : Nat} {spare : Nat → Bool} {held : Bool}
theorem open_fall {fuel : Nat} {cs : List Value} {x : DataW H × List MemPlace} (h : DataW.trod enc Try.prog W base spare held fuel 27 cs = some x) (hw : (x.1.weights Try.prog 27).all (· ≤ reachBytes) = true) :
    ∃ (a b : MaD) (n : Int) (v : Value) (ks : List Int), cs = (fallC a b n v).toList ∧ a.Fits ∧ b.Fits ∧ n ≤ 9223372036854775807 ∧ SeesN W v ks ∧ (ks ≠ [] → ∀ k, v.ownBlock = some k → k < W.heap.size) := by
  have hcells : Try.prog.cellsOf 27 = 12 := by kernel_rfl
  obtain ⟨xs, n, _, hx, hl, hxl, hf⟩ := DataW.trod_struct Try.underlying27 h
  rw [hcells] at hl
  have q0 : Try.prog.cellsOf 24 = 5 := by kernel_rfl
  have q1 : Try.prog.cellsOf 3 = 1 := by kernel_rfl
  have q6 : Try.prog.cellsOf 25 = 1 := by kernel_rfl
  have g0 : DataW.trod enc Try.prog W base spare held n 24 ((cs.drop 0).take (Try.prog.cellsOf 24)) = xs[0]? := hf 0 _ rfl
  have g1 : DataW.trod enc Try.prog W base spare held n 24 ((cs.drop 5).take (Try.prog.cellsOf 24)) = xs[1]? := hf 1 _ rfl
  have g2 : DataW.trod enc Try.prog W base spare held n 3 ((cs.drop 10).take (Try.prog.cellsOf 3)) = xs[2]? := hf 2 _ rfl
  have g3 : DataW.trod enc Try.prog W base spare held n 25 ((cs.drop 11).take (Try.prog.cellsOf 25)) = xs[3]? := hf 3 _ rfl
  have hxl4 : xs.length = 4 := hxl
  clear hf hxl
  match xs, hxl4, cs, hl with
  | [y0, y1, y2, y3], _, [v0, v1, v2, v3, v4, v5, v6, v7, v8, v9, v10, v11], _ =>
    rw [q0] at g0 g1
    rw [q1] at g2
    rw [q6] at g3
    rw [hx] at hw
    simp only [DataW.weights, Try.underlying27] at hw
    have hm : (y3.1.weights Try.prog 25).all (· ≤ reachBytes) = true := by
      rw [List.all_eq_true] at hw ⊢
      intro m hm
      exact hw m (DataW.weights_mem_each (ts := [24, 24, 3, 25]) (j := 3) (t := 25) (d := y3.1) rfl rfl m hm)
    obtain ⟨a, e0, ha⟩ := open_man (show DataW.trod enc Try.prog W base spare held n 24 [v0, v1, v2, v3, v4] = some y0 from g0)
    obtain ⟨b, e1, hb⟩ := open_man (show DataW.trod enc Try.prog W base spare held n 24 [v5, v6, v7, v8, v9] = some y1 from g1)
    obtain ⟨k, e2, _, w2⟩ := DataW.trod_int Try.underlying3 (show DataW.trod enc Try.prog W base spare held n 3 [v10] = some y2 from g2)
    obtain ⟨ka, kc, ks, e5, hk, hkb, hkl⟩ := open_numsK (show DataW.trod enc Try.prog W base spare held n 25 [v11] = some y3 from g3) hm
    simp at e0 e1 e2
    obtain ⟨rfl, rfl, rfl, rfl, rfl⟩ := e0
    obtain ⟨rfl, rfl, rfl, rfl, rfl⟩ := e1
    subst e2 e5
    exact ⟨a, b, k, _, ks, rfl, ha, hb, (bounds_i64 w2).2, hk, hkb⟩
end
set_option linter.unusedVariables false

/-! ### The row's step -/
set_option maxRecDepth 100000 in
theorem lifted (os : Os) (started : os.Started) (H : Type) (enc : TypeId × Value → H) :
    ReturnsInHanded {} Try.checked os 3 .any (Rows.maniFallsSpec.pre6 enc Try.prog Try.f3 Rows.maniFallsRow.domain false) (Rows.maniFallsSpec.post enc Try.prog Try.f3 false true false false) := by
  refine returnsInHanded_of_change_sized (C := Try.checked) Try.own started (by kernel_rfl) Try.func3
    (ChangeSpec.witness6 (enc := enc) (C := Try.checked) false ⟨#[], #[.agg #[.int .u32 0, .int .u32 0, .int .u32 0, .int .i64 0, .int .i64 0, .int .u32 0, .int .u32 0, .int .u32 0, .int .i64 0, .int .i64 0, .int .i64 0, .slice none 0 0]], []⟩ 8 (by kernel_rfl) (by kernel_rfl) (by kernel_rfl) (by kernel_rfl)) ?_
  intro W base args ds gs before hval0 hW hcnd hsz _
  have hval : ∀ (j : Nat) t v, Try.f3.params[j]? = some t → args[j]? = some v → Value.okWide Try.prog W .any base t v := hval0
  have hW' := hW
  obtain ⟨p, q, hA0, hV, rfl, hfz, hnd⟩ := hW
  have hA : DataW.TrodAll enc Try.prog W 0 (fun _ => true) true Try.f3.params.toList args.toList ds p := hA0
  rw [Try.params3] at hA hval hsz
  obtain ⟨v0, vs0, d0, ds0, p0, q0, hargs, rfl, rfl, h0, r0⟩ := trodAll_cons hA
  obtain ⟨rfl, rfl, rfl⟩ := trodAll_nil r0
  obtain rfl : args = #[v0] := by cases args; simp_all
  obtain ⟨rfl, rfl⟩ := trodVars_none hV
  obtain ⟨cs, rfl, hcs⟩ := okWide_struct Try.underlying27 (hval 0 27 v0 rfl rfl)
  have k0 := h0
  have lt0 : ∀ x ∈ p0, x.block < W.heap.size := by obtain ⟨m, hm⟩ := k0; exact DataW.trod_lt m _ _ _ hm
  have hw0 : (d0.weights Try.prog 27).all (· ≤ reachBytes) = true := by
    rw [List.all_eq_true] at hsz ⊢
    intro m hm
    exact hsz m (DataW.weights_mem_each (j := 0) (t := 27) (d := d0) rfl rfl m hm)
  obtain ⟨a, b, n, v, ks, hcm, ha, hb, hn, hk, hkb⟩ : ∃ (a b : MaD) (n : Int) (v : Value) (ks : List Int), cs.toList = (fallC a b n v).toList ∧ a.Fits ∧ b.Fits ∧ n ≤ 9223372036854775807 ∧ SeesN W v ks ∧ (ks ≠ [] → ∀ k, v.ownBlock = some k → k < W.heap.size) := by
    obtain ⟨fuel, hf⟩ := h0
    exact open_fall (show DataW.trod enc Try.prog W 0 (fun _ => true) true fuel 27 cs.toList = some (d0, p0) from hf) hw0
  obtain rfl : cs = fallC a b n v := Array.toList_inj.1 hcm
  clear hA0 hval0 hcm
  refine (falls_walk a b ha hb n hn v ks W hk hkb).mono fun e W' ⟨he, bel⟩ => ?_
  subst he
  exact ⟨_, rfl, _, _, _, [], _, [], hW', trodAll_mk1 (shut_bool Try.underlying4 _), (trodAll_cons_mk (Below.trod Try.laidOut (by kernel_rfl) (of_decide_eq_true (by kernel_rfl)) k0 bel lt0) trodAll_mk0), rfl, bel.frame _, fun h => by cases h⟩

theorem over : Rows.maniFallsRow.holds Try.pinned (OpenSpec.ofChange Rows.maniFallsSpec) :=
  OpenClaim.holds_of_wide 3 Try.f3 rfl rfl rfl rfl rfl rfl rfl ⟨rfl, rfl, rfl, rfl, rfl⟩ rfl rfl rfl rfl rfl (by kernel_rfl) Try.func3 (by kernel_rfl)
    (of_decide_eq_true (by kernel_rfl)) (by unfold Func.isWrapper; first | (rw [if_pos (by decide +kernel)]; kernel_rfl) | (rw [if_neg (by decide +kernel)]; exact ⟨rfl, rfl⟩))
    (fun os started H enc _ => lifted os started H enc)

end maniFalls

/-- The statement. -/
theorem maniFalls_holds : Rows.ManiFallsSaid := maniFalls.over
#print axioms maniFalls_holds
end Go.Proofs.Ytkpdckpcnnmdkaa
