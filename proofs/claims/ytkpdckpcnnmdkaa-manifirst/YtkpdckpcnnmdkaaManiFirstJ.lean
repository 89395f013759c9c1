/- ManiFirst of the statements of layer 11 answers true for every manifest, every number of writes and every list of lengths: where a disk had no manifest, behind a loss of power in its first Put it has none, or the whole one. No condition. -/
import Derived.Test.YtkpdckpcnnmdkaaRows
import Derived.Test.YtkpdckpcnnmdkaaMaNJ
import Derived.Test.YtkpdckpcnnmdkaaMaUJ
namespace Go.Proofs.Ytkpdckpcnnmdkaa
open Go.ChangeShapes Go.WideShapes Go.ChangeAt Go.RowKit
set_option maxRecDepth 8000
namespace maniFirst
set_option linter.unusedVariables false

/-! ### The row's step -/
set_option maxRecDepth 100000 in
theorem lifted (os : Os) (started : os.Started) (H : Type) (enc : TypeId × Value → H) :
    ReturnsInHanded {} Try.checked os 4 .any (Rows.maniFirstSpec.pre6 enc Try.prog Try.f4 Rows.maniFirstRow.domain false) (Rows.maniFirstSpec.post enc Try.prog Try.f4 false true false false) := by
  refine returnsInHanded_of_change_sized (C := Try.checked) Try.own started (by kernel_rfl) Try.func4
    (ChangeSpec.witness6 (enc := enc) (C := Try.checked) false ⟨#[], #[.agg #[.int .u32 0, .int .u32 0, .int .u32 0, .int .i64 0, .int .i64 0], .int .i64 0, .slice none 0 0], []⟩ 8 (by kernel_rfl) (by kernel_rfl) (by kernel_rfl) (by kernel_rfl)) ?_
  intro W base args ds gs before hval0 hW hcnd hsz _
  have hval : ∀ (j : Nat) t v, Try.f4.params[j]? = some t → args[j]? = some v → Value.okWide Try.prog W .any base t v := hval0
  have hW' := hW
  obtain ⟨p, q, hA0, hV, rfl, hfz, hnd⟩ := hW
  have hA : DataW.TrodAll enc Try.prog W 0 (fun _ => true) true Try.f4.params.toList args.toList ds p := hA0
  rw [Try.params4] at hA hval hsz
  obtain ⟨v0, vs0, d0, ds0, p0, q0, hargs, rfl, rfl, h0, r0⟩ := trodAll_cons hA
  obtain ⟨v1, vs1, d1, ds1, p1, q1, rfl, rfl, rfl, h1, r1⟩ := trodAll_cons r0
  obtain ⟨v2, vs2, d2, ds2, p2, q2, rfl, rfl, rfl, h2, r2⟩ := trodAll_cons r1
  obtain ⟨rfl, rfl, rfl⟩ := trodAll_nil r2
  obtain rfl : args = #[v0, v1, v2] := by cases args; simp_all
  obtain ⟨rfl, rfl⟩ := trodVars_none hV
  obtain ⟨cs, rfl, hcs⟩ := okWide_struct Try.underlying24 (hval 0 24 v0 rfl rfl)
  obtain ⟨n1, rfl, hn1⟩ : ∃ k : Int, v1 = .int .i64 k ∧ k ≤ 9223372036854775807 := by
    obtain ⟨k, rfl, _, _, wk⟩ := open_int Try.underlying3 (hval 1 3 v1 rfl rfl) h1
    exact ⟨k, rfl, (bounds_i64 wk).2⟩
  obtain ⟨a2, len2, cap2, rfl⟩ := okWide_slice Try.underlying25 (hval 2 25 v2 rfl rfl)
  have k0 := h0
  have k1 := h1
  have k2 := h2
  have lt0 : ∀ x ∈ p0, x.block < W.heap.size := by obtain ⟨m, hm⟩ := k0; exact DataW.trod_lt m _ _ _ hm
  have lt1 : ∀ x ∈ p1, x.block < W.heap.size := by obtain ⟨m, hm⟩ := k1; exact DataW.trod_lt m _ _ _ hm
  have lt2 : ∀ x ∈ p2, x.block < W.heap.size := by obtain ⟨m, hm⟩ := k2; exact DataW.trod_lt m _ _ _ hm
  have hw2 : (d2.weights Try.prog 25).all (· ≤ reachBytes) = true := by
    rw [List.all_eq_true] at hsz ⊢
    intro m hm
    exact hsz m (DataW.weights_mem_each (j := 2) (t := 25) (d := d2) rfl rfl m hm)
  obtain ⟨m, hcm, hmf⟩ : ∃ m : MaD, cs.toList = [.int .u32 m.boot, .int .u32 m.acc, .int .u32 m.cur, .int .i64 m.snap, .int .i64 m.log] ∧ m.Fits := by
    obtain ⟨fuel, hf⟩ := h0
    exact open_man (show DataW.trod enc Try.prog W 0 (fun _ => true) true fuel 24 cs.toList = some (d0, p0) from hf)
  obtain rfl : cs = #[.int .u32 m.boot, .int .u32 m.acc, .int .u32 m.cur, .int .i64 m.snap, .int .i64 m.log] := by
    cases cs; simp_all
  obtain ⟨ka, kc, ks, ek, hk, hkb, _⟩ : ∃ (ao : Option Addr) (cap : Nat) (ks : List Int), Value.slice a2 len2 cap2 = .slice ao ks.length cap ∧ SeesN W (.slice ao ks.length cap) ks ∧ (ks ≠ [] → ∀ k, (Value.slice ao ks.length cap).ownBlock = some k → k < W.heap.size) ∧ ks.length ≤ 140737488355328 := by
    obtain ⟨fuel, hf⟩ := h2
    exact open_numsK (show DataW.trod enc Try.prog W 0 (fun _ => true) true fuel 25 [.slice a2 len2 cap2] = some (d2, p2) from hf) hw2
  rw [← ek] at hk hkb
  clear hA0 hval0 hcm
  refine (first_walk m hmf n1 hn1 _ ks W hk hkb).mono fun e W' ⟨he, bel⟩ => ?_
  subst he
  exact ⟨_, rfl, _, _, _, [], _, [], hW', trodAll_mk1 (shut_bool Try.underlying4 _), (trodAll_cons_mk (Below.trod Try.laidOut (by kernel_rfl) (of_decide_eq_true (by kernel_rfl)) k0 bel lt0) (trodAll_cons_mk (Below.trod Try.laidOut (by kernel_rfl) (of_decide_eq_true (by kernel_rfl)) k1 bel lt1) (trodAll_cons_mk (Below.trod Try.laidOut (by kernel_rfl) (of_decide_eq_true (by kernel_rfl)) k2 bel lt2) trodAll_mk0))), rfl, bel.frame _, fun h => by cases h⟩

theorem over : Rows.maniFirstRow.holds Try.pinned (OpenSpec.ofChange Rows.maniFirstSpec) :=
  OpenClaim.holds_of_wide 4 Try.f4 rfl rfl rfl rfl rfl rfl rfl ⟨rfl, rfl, rfl, rfl, rfl⟩ rfl rfl rfl rfl rfl (by kernel_rfl) Try.func4 (by kernel_rfl)
    (of_decide_eq_true (by kernel_rfl)) (by unfold Func.isWrapper; first | (rw [if_pos (by decide +kernel)]; kernel_rfl) | (rw [if_neg (by decide +kernel)]; exact ⟨rfl, rfl⟩))
    (fun os started H enc _ => lifted os started H enc)

end maniFirst

/-- The statement. -/
theorem maniFirst_holds : Rows.ManiFirstSaid := maniFirst.over
#print axioms maniFirst_holds
end Go.Proofs.Ytkpdckpcnnmdkaa
