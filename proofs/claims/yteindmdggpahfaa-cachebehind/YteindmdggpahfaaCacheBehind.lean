/- CacheBehind is true for every number, every two zxids and every list of transactions: of a history behind a zxid a cache of its last ones tells just those above a zxid, if that is not below the one ahead of its first; else that it has not all. Condition: as the row says, the transactions that come in have no ring of requests (the row's cell loops). -/
import Derived.Test.YteindmdggpahfaaRows
import Derived.Test.YteindmdggpahfaaCaO
import Derived.Test.YteindmdggpahfaaTxOpenZ
import Derived.Test.YteindmdggpahfaaCbK
namespace Go.Proofs.Yteindmdggpahfaa
open Go.ChangeShapes Go.WideShapes Go.ChangeAt Go.RowKit
set_option maxRecDepth 8000
namespace cacheBehind
set_option linter.unusedVariables false

/-! ### The row's step -/
set_option maxRecDepth 100000 in
set_option maxHeartbeats 4000000 in
theorem lifted (os : Os) (started : os.Started) (H : Type) (enc : TypeId × Value → H) :
    ReturnsInHanded {} Try.checked os 3 .any (Rows.cacheBehindSpec.pre6 enc Try.prog Try.f3 Rows.cacheBehindRow.domain false) (Rows.cacheBehindSpec.post enc Try.prog Try.f3 false true false false) := by
  refine returnsInHanded_of_change_sized (C := Try.checked) Try.own started (by kernel_rfl) Try.func3
    (ChangeSpec.witness6 (enc := enc) (C := Try.checked) false ⟨#[], #[.int .i64 0, .agg #[.int .u32 0, .int .u32 0], .slice none 0 0, .agg #[.int .u32 0, .int .u32 0]], []⟩ 8 (by kernel_rfl) (by kernel_rfl) (by kernel_rfl) (by kernel_rfl)) ?_
  intro W base args ds gs before hval0 hW hcnd hsz _
  have hval : ∀ (j : Nat) t v, Try.f3.params[j]? = some t → args[j]? = some v → Value.okWide Try.prog W .any base t v := hval0
  have hW' := hW
  obtain ⟨p, q, hA0, hV, rfl, hfz, hnd⟩ := hW
  have hA : DataW.TrodAll enc Try.prog W 0 (fun _ => true) true Try.f3.params.toList args.toList ds p := hA0
  rw [Try.params3] at hA hval hsz
  obtain ⟨v0, vs0, d0, ds0, p0, q0, hargs, rfl, rfl, h0, r0⟩ := trodAll_cons hA
  obtain ⟨v1, vs1, d1, ds1, p1, q1, rfl, rfl, rfl, h1, r1⟩ := trodAll_cons r0
  obtain ⟨v2, vs2, d2, ds2, p2, q2, rfl, rfl, rfl, h2, r2⟩ := trodAll_cons r1
  obtain ⟨v3, vs3, d3, ds3, p3, q3, rfl, rfl, rfl, h3, r3⟩ := trodAll_cons r2
  obtain ⟨rfl, rfl, rfl⟩ := trodAll_nil r3
  obtain rfl : args = #[v0, v1, v2, v3] := by cases args; simp_all
  obtain ⟨rfl, rfl⟩ := trodVars_none hV
  obtain ⟨n0, rfl⟩ := okWide_int Try.underlying3 (hval 0 3 v0 rfl rfl)
  obtain ⟨ca1, rfl, _⟩ := okWide_struct Try.underlying24 (hval 1 24 v1 rfl rfl)
  obtain ⟨cs1, rfl⟩ : ∃ cl : List Value, ca1 = cl.toArray := ⟨ca1.toList, by simp⟩
  obtain ⟨a2, len2, cap2, rfl⟩ := okWide_slice Try.underlying25 (hval 2 25 v2 rfl rfl)
  obtain ⟨ca3, rfl, _⟩ := okWide_struct Try.underlying24 (hval 3 24 v3 rfl rfl)
  obtain ⟨cs3, rfl⟩ : ∃ cl : List Value, ca3 = cl.toArray := ⟨ca3.toList, by simp⟩
  have k0 := h0
  have lt0 : ∀ x ∈ p0, x.block < W.heap.size := by obtain ⟨m, hm⟩ := k0; exact DataW.trod_lt m _ _ _ hm
  have k1 := h1
  have lt1 : ∀ x ∈ p1, x.block < W.heap.size := by obtain ⟨m, hm⟩ := k1; exact DataW.trod_lt m _ _ _ hm
  have k2 := h2
  have lt2 : ∀ x ∈ p2, x.block < W.heap.size := by obtain ⟨m, hm⟩ := k2; exact DataW.trod_lt m _ _ _ hm
  have k3 := h3
  have lt3 : ∀ x ∈ p3, x.block < W.heap.size := by obtain ⟨m, hm⟩ := k3; exact DataW.trod_lt m _ _ _ hm
  have hb0 : -9223372036854775808 ≤ n0 ∧ n0 ≤ 9223372036854775807 := by
    obtain ⟨fuel, hf⟩ := h0
    obtain ⟨m, e, _, hwf⟩ := DataW.trod_int Try.underlying3 (show DataW.trod enc Try.prog W 0 (fun _ => true) true fuel 3 [.int .i64 n0] = some (d0, p0) from hf)
    simp at e
    subst e
    exact bounds_i64 hwf
  obtain ⟨e1, f1, rfl, hz1⟩ : ∃ e n : Int, cs1 = [.int .u32 e, .int .u32 n] ∧ (0 ≤ e ∧ e ≤ 4294967295) ∧ 0 ≤ n ∧ n ≤ 4294967295 := by
    obtain ⟨fuel, hf⟩ := h1
    exact open_zxK (show DataW.trod enc Try.prog W 0 (fun _ => true) true fuel 24 cs1 = some (d1, p1) from hf)
  have hw2 : (d2.weights Try.prog 25).all (· ≤ reachBytes) = true := by
    rw [List.all_eq_true] at hsz ⊢
    intro m hm
    exact hsz m (DataW.weights_mem_each (j := 2) (t := 25) (d := d2) rfl rfl m hm)
  obtain ⟨l2, hs2, hl2, hg2⟩ : ∃ l : List TxD, SeesTxs W (.slice a2 len2 cap2) l ∧ l.length ≤ reachBytes ∧ ∀ t ∈ l, t.good := by
    obtain ⟨fuel, hf⟩ := h2
    exact open_txs (show DataW.trod enc Try.prog W 0 (fun _ => true) true fuel 25 [.slice a2 len2 cap2] = some (d2, p2) from hf) hw2
  obtain ⟨e3, f3, rfl, hz3⟩ : ∃ e n : Int, cs3 = [.int .u32 e, .int .u32 n] ∧ (0 ≤ e ∧ e ≤ 4294967295) ∧ 0 ≤ n ∧ n ≤ 4294967295 := by
    obtain ⟨fuel, hf⟩ := h3
    exact open_zxK (show DataW.trod enc Try.prog W 0 (fun _ => true) true fuel 24 cs3 = some (d3, p3) from hf)
  clear hA0 hval0
  refine (behind_walk n0 e1 f1 _ l2 e3 f3 W hs2 hl2 hg2 hb0 hz1 hz3).mono fun e W' ⟨he, bel⟩ => ?_
  subst he
  exact ⟨_, rfl, _, _, _, [], _, [], hW', trodAll_mk1 (shut_bool Try.underlying4 _), (trodAll_cons_mk (Below.trod Try.laidOut (by kernel_rfl) (of_decide_eq_true (by kernel_rfl)) k0 bel lt0) (trodAll_cons_mk (Below.trod Try.laidOut (by kernel_rfl) (of_decide_eq_true (by kernel_rfl)) k1 bel lt1) (trodAll_cons_mk (Below.trod Try.laidOut (by kernel_rfl) (of_decide_eq_true (by kernel_rfl)) k2 bel lt2) (trodAll_cons_mk (Below.trod Try.laidOut (by kernel_rfl) (of_decide_eq_true (by kernel_rfl)) k3 bel lt3) trodAll_mk0)))), rfl, bel.frame _, fun h => by cases h⟩

theorem over : Rows.cacheBehindRow.holds Try.pinned (OpenSpec.ofChange Rows.cacheBehindSpec) :=
  OpenClaim.holds_of_wide 3 Try.f3 rfl rfl rfl rfl rfl rfl rfl ⟨rfl, rfl, rfl, rfl, rfl⟩ rfl rfl rfl rfl rfl (by kernel_rfl) Try.func3 (by kernel_rfl)
    (of_decide_eq_true (by kernel_rfl)) (by unfold Func.isWrapper; first | (rw [if_pos (by decide +kernel)]; kernel_rfl) | (rw [if_neg (by decide +kernel)]; exact ⟨rfl, rfl⟩))
    (fun os started H enc _ => lifted os started H enc)

end cacheBehind

/-- The statement. -/
theorem cacheBehind_holds : Rows.CacheBehindSaid := cacheBehind.over
#print axioms cacheBehind_holds
end Go.Proofs.Yteindmdggpahfaa
