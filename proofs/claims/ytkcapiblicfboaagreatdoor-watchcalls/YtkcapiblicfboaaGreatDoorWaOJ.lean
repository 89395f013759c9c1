/- lives of the statements of layer 18 is true. -/
import Derived.Test.YtkcapiblicfboaaGreatDoorPaGJ
namespace Go.Proofs.YtkcapiblicfboaaGreatDoor
open Go.RowKit Go.Shelf
set_option maxRecDepth 8000
set_option linter.unusedSimpArgs false

abbrev laA : ByteArray := ⟨#[47, 97]⟩
abbrev laW : WaT := (4, 1, laA)
abbrev laC : ChT := (3, laA)
theorem la_name (b : UInt8) (h1 : b.toNat < 128) (h2 : stand b.toNat = true) (h3 : b ≠ 46) : NameOK [b] := by
  refine ⟨?_, ?_⟩
  · unfold nf; rw [if_neg (by simp), if_neg (by simp [h3])]
  · rw [rf_ascii b [] h1 h2, rf_nil]; rfl
theorem la_path : isPb laA.data.toList = true := by
  show isPb [47, 97] = true
  rw [isPb_iff (by decide)]
  refine .inr ⟨[97], rfl, by decide, fun s hs => ?_⟩
  have e : segs [97] = [[97]] := by decide
  rw [e] at hs
  simp only [List.mem_cons, List.not_mem_nil, or_false] at hs
  subst hs
  exact la_name _ (by decide) (by decide) (by decide)
theorem la_ok : waOk laW = true := by unfold waOk; rw [la_path]; rfl
theorem lc_ok : chOk laC = true := by unfold chOk; rw [la_path]; rfl
theorem la_met : metB laC laW = true := by
  show metB laC (4, 1, laA) = true
  rw [metKind.1]
  simp [smP]
theorem la_filter : [laW].filter (metB laC) = [laW] := by rw [List.filter_cons_of_pos la_met]; rfl

set_option maxHeartbeats 2000000 in
theorem lives18 (w : World) : Calls Tryz.prog 5 #[] w fun e w' => e = .returned (.bool true) ∧ Below w.heap.size w w' := by
  have HN : Hid _ := newB_any w
  go_enter Tryz.func5, Tryz.ntmps5
  go_wp2_with fail
  refine Calls.mono HN.out ?_
  rintro e w1 ⟨rfl, h1, hB1⟩
  clear HN
  have B2 : Below w1.heap.size w1 (w1.alloc (.cells (waCs laW) 57)) := (Below.refl _ _).alloc (Nat.le_refl _) _
  have bx : (w1.alloc (.cells (waCs laW) 57)).heap[w1.heap.size]? = some (.cells (waCs laW) 57 (0, 0)) := heap_alloc_new w1 _
  have hs1 := lt_of_block h1.hb
  have hbl := h1.lt (.inl rfl)
  have hml := h1.lt (.inr (.inl rfl))
  have HA : Hid (Calls Tryz.prog 17 #[.pointer (some ⟨w.heap.size + 1, 0, none⟩), .agg (waCs laW)] (w1.alloc (.cells (waCs laW) 57)) fun e w' => e = .returned (.int .i64 0) ∧ ∃ v', Bo w' (w.heap.size + 1) w.heap.size v' [laW] [laW] ∧ Below w.heap.size w w' ∧ w'.heap[w1.heap.size]? = some (.cells (waCs laW) 57 (0, 0)) ∧ w1.heap.size ≠ w.heap.size + 1 ∧ w1.heap.size ≠ w.heap.size ∧ v'.ownBlock ≠ some w1.heap.size ∧ ∀ k, k < w.heap.size → v'.ownBlock ≠ some k) := by
    refine (add_new laW (h1.below B2) (by decide) la_ok (by simp) (by decide)).mono (fun e w' hh => ?_)
    obtain ⟨he, v', hb, hk, hn⟩ := hh
    refine ⟨he, v', hb, ?_, ?_, by omega, by omega, ?_, ?_⟩
    · refine ⟨hk.os.trans hB1.os, hk.tape.trans hB1.tape, hk.output.trans hB1.output, Nat.le_trans (Nat.le_trans hB1.size B2.size) hk.size, fun k hk' => ?_⟩
      rw [hk.block k (by have := hB1.size; simp; omega) (fun hf => by rcases hf with rfl | rfl | hf <;> first | omega | (simp [Value.ownBlock] at hf)), B2.block k (by have := hB1.size; omega), hB1.block k hk']
    · exact hk.heap bx (fun hf => by rcases hf with e | e | hf <;> first | omega | (simp [Value.ownBlock] at hf))
    · rcases hn with e | ⟨k, e, hk2⟩
      · rw [e]; simp [Value.ownBlock]
      · rw [e]; simp at hk2 ⊢; omega
    · intro k hk'
      rcases hn with e | ⟨k2, e, hk2⟩
      · rw [e]; simp [Value.ownBlock]
      · rw [e]; have := hB1.size; simp at hk2 ⊢; omega
  have d0 := cell_of_row _ w1.heap.size 0 _ _ _ bx
  have d1 := cell_of_row _ w1.heap.size 1 _ _ _ bx
  have d2 := cell_of_row _ w1.heap.size 2 _ _ _ bx
  have hz := lt_of_block bx
  clear h1 B2 bx hs1 hbl hml hB1
  go_wp2_with fail
  go_at_call 17
  refine Calls.mono HA.out ?_
  rintro e w2 ⟨rfl, v', h2, hB2, bx2, hne1, hne, hvn, hvl⟩
  clear HA d0 d1 d2 hz
  have HF : Hid (Calls Tryz.prog 18 #[.pointer (some ⟨w.heap.size + 1, 0, none⟩), .agg (chCs laC)] w2 fun e w' => ∃ g cap, e = .returned (.slice (some ⟨g, 0, none⟩) 1 cap) ∧ w'.cell? ⟨g, 0, none⟩ = some (.int .i64 4) ∧ w'.cell? ⟨g, 1, none⟩ = some (.int .i8 1) ∧ w'.cell? ⟨g, 2, none⟩ = some (.string laA) ∧ g < w'.heap.size ∧ w'.heap[w1.heap.size]? = some (.cells (waCs laW) 57 (0, 0)) ∧ Hid (Below w.heap.size w w')) := by
    refine (fire_yes laC h2 (by decide) (by simp) (fun x hx => by simp at hx; subst hx; exact .inl rfl) (by decide) lc_ok).mono (fun e w' hh => ?_)
    obtain ⟨u, he, ho, v2, hb, hk, hv⟩ := hh
    rw [la_filter] at ho
    obtain ⟨_, ⟨_, h0⟩ | ⟨g, cap, cur, rfl, a2, a3, a4, a5, a6, a7⟩⟩ := ho
    · exact absurd h0 (by decide)
    · have hcell : ∀ j u, j < 5 → (fiFlat laC [laW])[j]? = some u → w'.cell? ⟨g, j, none⟩ = some u := fun j u hj hu => by
        rw [cell_of_row _ g j _ _ _ a3, ← Array.getElem?_toList]
        rw [← a7, List.getElem?_take, if_pos (by simpa using hj)] at hu
        exact hu
      refine ⟨g, cap, he, hcell 0 _ (by decide) rfl, hcell 1 _ (by decide) rfl, hcell 2 _ (by decide) rfl, lt_of_block a3, hk.heap bx2 (fun hf => ?_), ?_⟩
      · rcases hf with e | e | hf
        · exact hne1 e
        · exact hne e
        · exact hvn hf
      · refine ⟨hk.os.trans hB2.os, hk.tape.trans hB2.tape, hk.output.trans hB2.output, Nat.le_trans hB2.size hk.size, fun k hk' => ?_⟩
        rw [hk.block k (by have := hB2.size; omega) (fun hf => ?_), hB2.block k hk']
        rcases hf with e | e | hf
        · omega
        · omega
        · exact absurd hf (hvl k hk')
  clear h2 hB2 bx2 hne1 hne hvn hvl
  go_wp2_with fail
  go_at_call 18
  refine Calls.mono HF.out ?_
  rintro e w3 ⟨g, cap, rfl, e0, e1, e2, hg, bx3, HB⟩
  clear HF
  have d0 := cell_of_row _ w1.heap.size 0 _ _ _ bx3
  have d1 := cell_of_row _ w1.heap.size 1 _ _ _ bx3
  have d2 := cell_of_row _ w1.heap.size 2 _ _ _ bx3
  have hz := lt_of_block bx3
  clear bx3
  have heq : ∀ W, (binOp .eql 57 (.agg #[.int .i64 4, .int .i8 1, .string ⟨#[47, 97]⟩]) (.agg #[.int .i64 4, .int .i8 1, .string ⟨#[47, 97]⟩])).run Tryz.prog W = .ok (.bool true) W := fun W => by
    have := eqWaV laW laW W
    rw [waEq_self] at this
    exact this
  go_upto_region 7 with fail
  go_quiet (fail)
  go_wp2
  all_goals (go_ret; exact ⟨rfl, below_drewN HB.out _⟩)

end Go.Proofs.YtkcapiblicfboaaGreatDoor
