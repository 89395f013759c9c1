/- PackTurned of the statements of layer 1 answers true for every list of bytes, place and byte: where one byte is turned into another one, the sum is another one. No condition. -/
import Derived.Test.YtmjcpcpcngpdjaaRows
import Derived.Test.YtmjcpcpcngpdjaaShell
namespace Go.Proofs.Ytmjcpcpcngpdjaa
open Go.ChangeShapes Go.WideShapes Go.ChangeAt Go.RowKit
namespace packTurned
set_option linter.unusedVariables false

theorem sum_set (xs : List Int) (k : Nat) (y : Int) (h : k < xs.length) : (xs.set k y).sum = xs.sum - xs.getD k 0 + y := by
  induction xs generalizing k with
  | nil => simp at h
  | cons x xs ih =>
    cases k with
    | zero => simp; omega
    | succ k =>
      have := ih k (by simpa using h)
      simp [List.set_cons_succ] at this ⊢
      omega

theorem adl_low (xs : List Int) : (adl xs).1 = (1 + xs.sum) % 65521 := by
  suffices h : ∀ s : Int × Int, (xs.foldl adlStep s).1 % 65521 = (s.1 + xs.sum) % 65521 by
    have h1 := h (1, 0)
    have h2 := adl_bd xs
    unfold adl at h2 ⊢
    simp only at h1
    omega
  induction xs with
  | nil => intro s; simp
  | cons x xs ih =>
    intro s
    rw [List.foldl_cons, ih, List.sum_cons]
    simp only [adlStep]
    omega

theorem xor_turns (x b : Int) (h0 : 0 ≤ x) (h1 : x ≤ 255) (h2 : 0 < b) (h3 : b ≤ 255) : bits .xor .u8 x b ≠ x := by
  rw [u8_xor x b (by omega) (by omega) (by omega) (by omega)]
  intro e
  have e1 : x.toNat ^^^ b.toNat = x.toNat := by omega
  have e2 := congrArg (x.toNat ^^^ ·) e1
  simp only [← Nat.xor_assoc, Nat.xor_self, Nat.zero_xor] at e2
  omega

theorem turned (xs : List Int) (k : Nat) (b : Int) (hk : k < xs.length) (hb : Byts xs) (h0 : 0 < b) (h1 : b ≤ 255) : adler xs ≠ adler (xs.set k (bits .xor .u8 (xs.getD k 0) b)) := by
  have hx := hb.nth k
  have hne := xor_turns (xs.getD k 0) b hx.1 hx.2 h0 h1
  have hy := xor_byte (xs.getD k 0) b hx.1 hx.2 (by omega) h1
  have hs := sum_set xs k (bits .xor .u8 (xs.getD k 0) b) hk
  generalize bits .xor .u8 (xs.getD k 0) b = y at *
  have l1 := adl_low xs
  have l2 := adl_low (xs.set k y)
  have b1 := adl_bd xs
  have b2 := adl_bd (xs.set k y)
  unfold adler
  intro e
  have : (adl xs).1 = (adl (xs.set k y)).1 := by omega
  rw [l1, l2, hs] at this
  omega

set_option maxHeartbeats 1000000 in
theorem walk (a0 : Option Addr) (len0 cap0 : Nat) (z0 : List Int) (a1 : Int) (a2 : Int) (w : World) (w0 : IsRow .u8 w a0 len0 cap0 z0) (w1 : (Lit.int .i64 a1).wf = true) (w2 : (Lit.int .u8 a2).wf = true) :
    Calls Try.prog 6 #[.slice a0 len0 cap0, .int .i64 a1, .int .u8 a2] w fun e w' => e = .returned (.bool true) ∧ Below w.heap.size w w' := by
  obtain ⟨xs, hl, hs, hb⟩ := sees_row w0
  clear w0 z0
  subst hl
  have HS : Hid (Sees w (.slice a0 xs.length cap0) xs ∧ Byts xs) := ⟨hs, hb⟩
  have hcap : cap0 ≤ 9223372036854775807 := by obtain ⟨_, _, e, _, h, _⟩ := hs; simp at e; obtain ⟨_, rfl⟩ := e; unfold maxLen at h; omega
  have hlc : xs.length ≤ cap0 := by obtain ⟨_, _, e, h, _⟩ := hs; simp at e; obtain ⟨_, rfl⟩ := e; exact h
  have hby := bounds_u8 w2
  clear hs hb w1 w2
  by_cases hbig : 67108864 < xs.length
  · go_enter Try.func6, Try.ntmps6
    go_wp2_with fail
    refine (works_any _).mono ?_
    rintro e w1 ⟨rfl, hb1⟩
    have HB1 : Hid (Below w.heap.size w w1) := hb1
    clear hb1
    go_wp2
    go_ret
    exact ⟨rfl, HB1.out⟩
  by_cases hat0 : a1 < 0
  · go_enter Try.func6, Try.ntmps6
    go_wp2_with fail
    refine (works_any _).mono ?_
    rintro e w1 ⟨rfl, hb1⟩
    have HB1 : Hid (Below w.heap.size w w1) := hb1
    clear hb1
    go_wp2
    go_ret
    exact ⟨rfl, HB1.out⟩
  by_cases hat1 : (xs.length : Int) ≤ a1
  · go_enter Try.func6, Try.ntmps6
    go_wp2_with fail
    refine (works_any _).mono ?_
    rintro e w1 ⟨rfl, hb1⟩
    have HB1 : Hid (Below w.heap.size w w1) := hb1
    clear hb1
    go_wp2
    go_ret
    exact ⟨rfl, HB1.out⟩
  by_cases hby0 : a2 = 0
  · subst hby0
    go_enter Try.func6, Try.ntmps6
    go_wp2_with fail
    refine (works_any _).mono ?_
    rintro e w1 ⟨rfl, hb1⟩
    have HB1 : Hid (Below w.heap.size w w1) := hb1
    clear hb1
    go_wp2
    go_ret
    exact ⟨rfl, HB1.out⟩
  obtain ⟨k, rfl⟩ := Int.eq_ofNat_of_zero_le (show 0 ≤ a1 by omega)
  have hk : k < xs.length := by omega
  have hb0 : (a2 == 0) = false := by simp [hby0]
  have HT : Hid (adler xs ≠ adler (xs.set k (bits .xor .u8 (xs.getD k 0) a2))) := turned xs k a2 hk HS.out.2 (by omega) hby.2
  clear hby0 hat0 hat1
  go_enter Try.func6, Try.ntmps6
  go_wp2_with fail
  refine (works_any _).mono ?_
  rintro e w1 ⟨rfl, hb1⟩
  have hz1 := hb1.size
  have HB1 : Hid (Below w.heap.size w w1) := hb1
  have HS1 : Hid (Sees w1 (.slice a0 xs.length cap0) xs) := HS.out.1.below hb1 (Nat.le_refl _)
  clear hb1
  go_wp2_with fail
  refine (copyBytes_any _ xs _ HS1.out (by omega)).mono ?_
  rintro e w2 ⟨v2, rfl, ho2, hb2⟩
  obtain ⟨g, c, hv2, hg⟩ := owns_some ho2 (by omega)
  subst hv2
  have HB2 : Hid (Below w.heap.size w w2) := HB1.out.trans (hb2.mono hz1)
  have HS2 : Hid (Sees w2 (.slice a0 xs.length cap0) xs) := HS1.out.below hb2 (Nat.le_refl _)
  have HO2 : Hid (Owns w2 w1.heap.size (.slice (some ⟨g, 0, none⟩) xs.length c) xs) := ho2
  have hlS : ∀ j, (Value.slice a0 xs.length cap0).ownBlock = some j → j < w1.heap.size := HS1.out.lt (by intro e; rw [e] at hk; simp at hk)
  have HL : Hid _ := hlS
  have hc := owns_cell ho2 k hk
  have hf := ho2.frozenAt k
  have hx := HS.out.2.nth k
  have HX : Hid (Byts xs) := HS.out.2
  clear ho2 hb2 HB1 HS1 HS hlS
  generalize xs.getD k 0 = x at *
  go_wp2_with fail
  have HB3 : Hid (Below w.heap.size w (w2.setCell ⟨g, k, none⟩ (.int .u8 (bits .xor .u8 x a2)))) := HB2.out.setCell (by simp; omega) _
  have HS3 : Hid (Sees (w2.setCell ⟨g, k, none⟩ (.int .u8 (bits .xor .u8 x a2))) (.slice a0 xs.length cap0) xs) := HS2.out.set _ _ (fun _ e => by have := HL.out _ e; simp at this; omega)
  have HO3 : Hid (Owns (w2.setCell ⟨g, k, none⟩ (.int .u8 (bits .xor .u8 x a2))) w1.heap.size (.slice (some ⟨g, 0, none⟩) (xs.set k (bits .xor .u8 x a2)).length c) (xs.set k (bits .xor .u8 x a2))) := (owns_set HO2.out k _).1
  have HBY : Hid (Byts (xs.set k (bits .xor .u8 x a2))) := byts_set HX.out k _ (xor_byte x a2 hx.1 hx.2 hby.1 hby.2).1 (xor_byte x a2 hx.1 hx.2 hby.1 hby.2).2
  clear HB2 HS2 HO2 hc hf
  refine (copyBytes_any _ xs _ HS3.out (by omega)).mono ?_
  rintro e w4 ⟨v4, rfl, ho4, hb4⟩
  have HB4 : Hid (Below w.heap.size w w4) := HB3.out.trans (hb4.mono HB3.out.size)
  have HC4 : Hid (Sees w4 v4 xs) := Sees.own ho4
  have hse : Sees w4 (.slice (some ⟨g, 0, none⟩) (xs.set k (bits .xor .u8 x a2)).length c) (xs.set k (bits .xor .u8 x a2)) := (Sees.own HO3.out).below hb4 (Nat.le_refl _)
  rw [List.length_set] at hse
  have HD4 : Hid (Sees w4 (.slice (some ⟨g, 0, none⟩) xs.length c) (xs.set k (bits .xor .u8 x a2))) := hse
  clear ho4 hb4 HB3 HS3 HO3 hse
  go_wp2_with fail
  refine (packSum_any _ xs _ HC4.out HX.out).mono ?_
  rintro e w5 ⟨rfl, rfl⟩
  go_wp2_with fail
  refine (packSum_any _ (xs.set k (bits .xor .u8 x a2)) _ HD4.out HBY.out).mono ?_
  rintro e w6 ⟨rfl, rfl⟩
  have hne : (adler xs != adler (xs.set k (bits .xor .u8 x a2))) = true := by simpa using HT.out
  go_wp2
  go_ret
  exact ⟨rfl, HB4.out⟩


/-! ### THE ROW's STEP: WRITTEN OUT: LEAVE IT -/
set_option maxRecDepth 100000 in
theorem lifted (os : Os) (started : os.Started) (H : Type) (enc : TypeId × Value → H) :
    ReturnsInHanded {} Try.checked os 6 .any (Rows.packTurnedSpec.pre6 enc Try.prog Try.f6 Rows.packTurnedRow.domain false) (Rows.packTurnedSpec.post enc Try.prog Try.f6 false true false false) := by
  refine returnsInHanded_of_change (C := Try.checked) Try.own started (by kernel_rfl) Try.func6
    (ChangeSpec.witness6 (enc := enc) (C := Try.checked) false ⟨#[], #[.slice none 0 0, .int .i64 0, .int .u8 0], []⟩ 8 (by kernel_rfl) (by kernel_rfl) (by kernel_rfl) (by kernel_rfl)) ?_
  intro W base args ds gs before hval0 hW hcnd _
  have hval : ∀ (j : Nat) t v, Try.f6.params[j]? = some t → args[j]? = some v → Value.okWide Try.prog W .any base t v := hval0
  have hW' := hW
  obtain ⟨p, q, hA0, hV, rfl, hfz, hnd⟩ := hW
  have hA : DataW.TrodAll enc Try.prog W 0 (fun _ => true) true Try.f6.params.toList args.toList ds p := hA0
  rw [Try.params6] at hA hval
  obtain ⟨v0, vs0, d0, ds0, p0, q0, hargs, rfl, rfl, h0, r0⟩ := trodAll_cons hA
  obtain ⟨v1, vs1, d1, ds1, p1, q1, rfl, rfl, rfl, h1, r1⟩ := trodAll_cons r0
  obtain ⟨v2, vs2, d2, ds2, p2, q2, rfl, rfl, rfl, h2, r2⟩ := trodAll_cons r1
  obtain ⟨rfl, rfl, rfl⟩ := trodAll_nil r2
  obtain rfl : args = #[v0, v1, v2] := by cases args; simp_all
  obtain ⟨rfl, rfl⟩ := trodVars_none hV
  obtain ⟨a0, len0, cap0, rfl⟩ := okWide_slice Try.underlying26 (hval 0 26 v0 rfl rfl)
  have k0 := h0
  have lt0 : ∀ x ∈ p0, x.block < W.heap.size := by obtain ⟨m, hm⟩ := k0; exact DataW.trod_lt m _ _ _ hm
  obtain ⟨z0, w0⟩ : ∃ zs, IsRow .u8 W a0 len0 cap0 zs := by
    obtain ⟨fuel, hf⟩ := h0
    rcases open_ints Try.underlying26 Try.underlying5 (by kernel_rfl) hf with ⟨hcs, _⟩ | ⟨x, l, c, zs, hcs, _, hl, hm, hz, _, hcell, hwz⟩
    · simp [Value.cells] at hcs
      obtain ⟨rfl, rfl, rfl⟩ := hcs
      exact ⟨[], .inl ⟨rfl, rfl, rfl, rfl⟩⟩
    · simp [Value.cells] at hcs
      obtain ⟨rfl, rfl, rfl⟩ := hcs
      exact ⟨zs, .inr ⟨_, rfl, hl, hm, by simpa using hz, hcell, hwz⟩⟩
  obtain ⟨a1, rfl, rfl, rfl, w1⟩ := open_int Try.underlying3 (hval 1 3 v1 rfl rfl) h1
  obtain ⟨a2, rfl, rfl, rfl, w2⟩ := open_int Try.underlying5 (hval 2 5 v2 rfl rfl) h2
  clear hA0 hval0
  refine (walk a0 len0 cap0 z0 a1 a2 W w0 w1 w2).mono fun e W' ⟨he, bel⟩ => ?_
  subst he
  exact ⟨_, rfl, _, _, _, [], _, [], hW', trodAll_mk1 (shut_bool Try.underlying4 _), (trodAll_cons_mk (Below.trod Try.laidOut (by kernel_rfl) (of_decide_eq_true (by kernel_rfl)) k0 bel lt0) (trodAll_cons_mk (shut_int Try.underlying3 w1) (trodAll_cons_mk (shut_int Try.underlying5 w2) trodAll_mk0))), rfl, bel.frame _, fun h => by cases h⟩

theorem over : Rows.packTurnedRow.holds Try.pinned (OpenSpec.ofChange Rows.packTurnedSpec) :=
  OpenClaim.holds_of_wide 6 Try.f6 rfl rfl rfl rfl rfl rfl rfl ⟨rfl, rfl, rfl, rfl, rfl⟩ rfl rfl rfl rfl rfl (by kernel_rfl) Try.func6 (by kernel_rfl)
    (of_decide_eq_true (by kernel_rfl)) (by unfold Func.isWrapper; first | (rw [if_pos (by decide +kernel)]; kernel_rfl) | (rw [if_neg (by decide +kernel)]; exact ⟨rfl, rfl⟩))
    (fun os started H enc _ => lifted os started H enc)



end packTurned

/-- The statement. -/
theorem packTurned_holds : Rows.PackTurnedSaid := packTurned.over
#print axioms packTurned_holds
end Go.Proofs.Ytmjcpcpcngpdjaa
