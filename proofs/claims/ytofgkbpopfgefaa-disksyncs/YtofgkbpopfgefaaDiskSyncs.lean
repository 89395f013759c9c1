/- DiskSyncs of the statements of layer 2 answers true for every room, list of bytes, script and list of what is kept: what was put and synced is there behind a loss of power. No condition. -/
import Derived.Test.YtofgkbpopfgefaaRows
import Derived.Test.YtofgkbpopfgefaaDkW
import Derived.Test.YtofgkbpopfgefaaDkU
namespace Go.Proofs.Ytofgkbpopfgefaa
open Go.ChangeShapes Go.WideShapes Go.ChangeAt Go.RowKit
set_option maxRecDepth 8000
namespace diskSyncs
set_option linter.unusedVariables false

section
variable {H : Type} {enc : TypeId × Value → H} {W : World} {base : Nat} {spare : Nat → Bool} {held : Bool}

theorem open_firm {fuel : Nat} {cs : List Value} {x : DataW H × List MemPlace} (h : DataW.trod enc Try.prog W base spare held fuel 44 cs = some x) (hw : (x.1.weights Try.prog 44).all (· ≤ reachBytes) = true) :
    ∃ (room : Int) (pv v kv : Value) (ys : List Int) (l : List OpK) (ks : List Int), cs = [.int .i64 room, pv, v, kv] ∧ Sees W pv ys ∧ (ys ≠ [] → ∀ j, pv.ownBlock = some j → j < W.heap.size) ∧ SeesOpsK W W.heap.size v l ∧ l.length ≤ 140737488355328 ∧ SeesN W kv ks ∧ (ks ≠ [] → ∀ j, kv.ownBlock = some j → j < W.heap.size) := by
  have hcells : Try.prog.cellsOf 44 = 4 := by kernel_rfl
  obtain ⟨xs, n, _, hx, hl, hxl, hf⟩ := DataW.trod_struct Try.underlying44 h
  rw [hcells] at hl
  have q1 : Try.prog.cellsOf 3 = 1 := by kernel_rfl
  have q4 : Try.prog.cellsOf 22 = 1 := by kernel_rfl
  have q5 : Try.prog.cellsOf 30 = 1 := by kernel_rfl
  have q6 : Try.prog.cellsOf 23 = 1 := by kernel_rfl
  have g0 : DataW.trod enc Try.prog W base spare held n 3 ((cs.drop 0).take (Try.prog.cellsOf 3)) = xs[0]? := hf 0 _ rfl
  have g1 : DataW.trod enc Try.prog W base spare held n 30 ((cs.drop 1).take (Try.prog.cellsOf 30)) = xs[1]? := hf 1 _ rfl
  have g2 : DataW.trod enc Try.prog W base spare held n 22 ((cs.drop 2).take (Try.prog.cellsOf 22)) = xs[2]? := hf 2 _ rfl
  have g3 : DataW.trod enc Try.prog W base spare held n 23 ((cs.drop 3).take (Try.prog.cellsOf 23)) = xs[3]? := hf 3 _ rfl
  have hxl4 : xs.length = 4 := hxl
  clear hf hxl
  match xs, hxl4, cs, hl with
  | [y0, y1, y2, y3], _, [v0, v1, v2, v3], _ =>
    rw [q1] at g0
    rw [q5] at g1
    rw [q4] at g2
    rw [q6] at g3
    rw [hx] at hw
    simp only [DataW.weights, Try.underlying44] at hw
    have hm : ∀ (j : Nat) (t : TypeId) (d : DataW H), ([3, 30, 22, 23] : List TypeId)[j]? = some t → ([y0.1, y1.1, y2.1, y3.1] : List (DataW H))[j]? = some d → (d.weights Try.prog t).all (· ≤ reachBytes) = true := by
      intro j t d ht hd
      rw [List.all_eq_true] at hw ⊢
      intro m hm
      exact hw m (DataW.weights_mem_each (ts := [3, 30, 22, 23]) ht hd m hm)
    obtain ⟨kd, e0, _, _⟩ := DataW.trod_int Try.underlying3 (show DataW.trod enc Try.prog W base spare held n 3 [v0] = some y0 from g0)
    obtain ⟨ao, cap, ys, e1, hs, hsb, _⟩ := open_bytesK (show DataW.trod enc Try.prog W base spare held n 30 [v1] = some y1 from g1) (hm 1 _ _ rfl rfl)
    obtain ⟨l, hol, hll⟩ := open_opsK (show DataW.trod enc Try.prog W base spare held n 22 [v2] = some y2 from g2) (hm 2 _ _ rfl rfl)
    obtain ⟨ka, kc, ks, e3, hk, hkb, _⟩ := open_numsK (show DataW.trod enc Try.prog W base spare held n 23 [v3] = some y3 from g3) (hm 3 _ _ rfl rfl)
    simp at e0
    subst e0 e1 e3
    exact ⟨kd, _, _, _, ys, l, ks, rfl, hs, hsb, hol, hll, hk, hkb⟩
end

/-! ### The row's step -/
set_option maxRecDepth 100000 in
theorem lifted (os : Os) (started : os.Started) (H : Type) (enc : TypeId × Value → H) :
    ReturnsInHanded {} Try.checked os 4 .any (Rows.diskSyncsSpec.pre6 enc Try.prog Try.f4 Rows.diskSyncsRow.domain false) (Rows.diskSyncsSpec.post enc Try.prog Try.f4 false true false false) := by
  refine returnsInHanded_of_change_sized (C := Try.checked) Try.own started (by kernel_rfl) Try.func4
    (ChangeSpec.witness6 (enc := enc) (C := Try.checked) false ⟨#[], #[.agg #[.int .i64 0, .slice none 0 0, .slice none 0 0, .slice none 0 0]], []⟩ 8 (by kernel_rfl) (by kernel_rfl) (by kernel_rfl) (by kernel_rfl)) ?_
  intro W base args ds gs before hval0 hW hcnd hsz _
  have hval : ∀ (j : Nat) t v, Try.f4.params[j]? = some t → args[j]? = some v → Value.okWide Try.prog W .any base t v := hval0
  have hW' := hW
  obtain ⟨p, q, hA0, hV, rfl, hfz, hnd⟩ := hW
  have hA : DataW.TrodAll enc Try.prog W 0 (fun _ => true) true Try.f4.params.toList args.toList ds p := hA0
  rw [Try.params4] at hA hval hsz
  obtain ⟨v0, vs0, d0, ds0, p0, q0, hargs, rfl, rfl, h0, r0⟩ := trodAll_cons hA
  obtain ⟨rfl, rfl, rfl⟩ := trodAll_nil r0
  obtain rfl : args = #[v0] := by cases args; simp_all
  obtain ⟨rfl, rfl⟩ := trodVars_none hV
  obtain ⟨cs, rfl, hcs⟩ := okWide_struct Try.underlying44 (hval 0 44 v0 rfl rfl)
  have k0 := h0
  have lt0 : ∀ x ∈ p0, x.block < W.heap.size := by obtain ⟨m, hm⟩ := k0; exact DataW.trod_lt m _ _ _ hm
  have hw0 : (d0.weights Try.prog 44).all (· ≤ reachBytes) = true := by
    rw [List.all_eq_true] at hsz ⊢
    intro m hm
    exact hsz m (DataW.weights_mem_each (j := 0) (t := 44) (d := d0) rfl rfl m hm)
  obtain ⟨room, pv, v, kv, ys, l, ks, hc, g1, g2, g3, g4, g5, g6⟩ : ∃ (room : Int) (pv v kv : Value) (ys : List Int) (l : List OpK) (ks : List Int), cs.toList = [.int .i64 room, pv, v, kv] ∧ Sees W pv ys ∧ (ys ≠ [] → ∀ j, pv.ownBlock = some j → j < W.heap.size) ∧ SeesOpsK W W.heap.size v l ∧ l.length ≤ 140737488355328 ∧ SeesN W kv ks ∧ (ks ≠ [] → ∀ j, kv.ownBlock = some j → j < W.heap.size) := by
    obtain ⟨fuel, hf⟩ := h0
    exact open_firm (show DataW.trod enc Try.prog W 0 (fun _ => true) true fuel 44 cs.toList = some (d0, p0) from hf) hw0
  obtain rfl : cs = #[.int .i64 room, pv, v, kv] := by
    cases cs; simp_all
  clear hA0 hval0 hc
  refine (syncs_walk room pv v kv ys l ks W g1 g2 g3 g4 g5 g6).mono fun e W' ⟨he, bel⟩ => ?_
  subst he
  exact ⟨_, rfl, _, _, _, [], _, [], hW', trodAll_mk1 (shut_bool Try.underlying4 _), (trodAll_cons_mk (Below.trod Try.laidOut (by kernel_rfl) (of_decide_eq_true (by kernel_rfl)) k0 bel lt0) trodAll_mk0), rfl, bel.frame _, fun h => by cases h⟩

theorem over : Rows.diskSyncsRow.holds Try.pinned (OpenSpec.ofChange Rows.diskSyncsSpec) :=
  OpenClaim.holds_of_wide 4 Try.f4 rfl rfl rfl rfl rfl rfl rfl ⟨rfl, rfl, rfl, rfl, rfl⟩ rfl rfl rfl rfl rfl (by kernel_rfl) Try.func4 (by kernel_rfl)
    (of_decide_eq_true (by kernel_rfl)) (by unfold Func.isWrapper; first | (rw [if_pos (by decide +kernel)]; kernel_rfl) | (rw [if_neg (by decide +kernel)]; exact ⟨rfl, rfl⟩))
    (fun os started H enc _ => lifted os started H enc)

end diskSyncs

/-- The statement. -/
theorem diskSyncs_holds : Rows.DiskSyncsSaid := diskSyncs.over
#print axioms diskSyncs_holds
end Go.Proofs.Ytofgkbpopfgefaa
