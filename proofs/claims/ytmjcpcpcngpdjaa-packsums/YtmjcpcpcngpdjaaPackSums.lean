/- PackSums of the statements of layer 1 answers true for every list of bytes: Sum is the document's sum, asked twice, and again when the list was written over; the list itself stays. No condition. -/
import Derived.Test.YtmjcpcpcngpdjaaRows
import Derived.Test.YtmjcpcpcngpdjaaShell
import Derived.Test.YtmjcpcpcngpdjaaRefSum
namespace Go.Proofs.Ytmjcpcpcngpdjaa
open Go.ChangeShapes Go.WideShapes Go.ChangeAt Go.RowKit
namespace packSums
set_option linter.unusedVariables false

/-- The loop that writes the list over keeps it a list of bytes. -/
theorem over_rel {B g k n : Nat} {w wr : World} {zs : List Int} (hzl : zs.length = n + 64) (hk : k < n) (x : Int) (hx : 0 ≤ x ∧ x ≤ 255) (hbz : Byts zs) (hg : B ≤ g)
    (hown : Owns wr 0 (.slice (some ⟨g, 0, none⟩) zs.length (n + 64)) zs) (hbel : Below B w wr) :
    ∃ zs' : List Int, zs'.length = n + 64 ∧ Byts zs' ∧ Owns (wr.setCell ⟨g, k, none⟩ (.int .u8 x)) 0 (.slice (some ⟨g, 0, none⟩) zs'.length (n + 64)) zs' ∧ Below B w (wr.setCell ⟨g, k, none⟩ (.int .u8 x)) :=
  ⟨zs.set k x, by simpa using hzl, byts_set hbz k x hx.1 hx.2, (owns_set hown k x).1, hbel.setCell hg _⟩

set_option maxHeartbeats 1000000 in
theorem walk (a0 : Option Addr) (len0 cap0 : Nat) (z0 : List Int) (w : World) (w0 : IsRow .u8 w a0 len0 cap0 z0) :
    Calls Try.prog 5 #[.slice a0 len0 cap0] w fun e w' => e = .returned (.bool true) ∧ Below w.heap.size w w' := by
  obtain ⟨xs, hl, hs, hb⟩ := sees_row w0
  clear w0 z0
  subst hl
  have HS : Hid (Sees w (.slice a0 xs.length cap0) xs ∧ Byts xs) := ⟨hs, hb⟩
  have hcap : cap0 ≤ 9223372036854775807 := by obtain ⟨_, _, e, _, h, _⟩ := hs; simp at e; obtain ⟨_, rfl⟩ := e; unfold maxLen at h; omega
  have hlc : xs.length ≤ cap0 := by obtain ⟨_, _, e, h, _⟩ := hs; simp at e; obtain ⟨_, rfl⟩ := e; exact h
  clear hs hb
  by_cases hbig : 67108864 < xs.length
  · go_enter Try.func5, Try.ntmps5
    go_wp2_with fail
    refine (works_any _).mono ?_
    rintro e w1 ⟨rfl, hb1⟩
    have HB1 : Hid (Below w.heap.size w w1) := hb1
    clear hb1
    go_wp2
    go_ret
    exact ⟨rfl, HB1.out⟩
  · go_enter Try.func5, Try.ntmps5
    go_wp2_with fail
    refine (works_any _).mono ?_
    rintro e w1 ⟨rfl, hb1⟩
    have hz1 := hb1.size
    have HB1 : Hid (Below w.heap.size w w1) := hb1
    have HS1 : Hid (Sees w1 (.slice a0 xs.length cap0) xs) := HS.out.1.below hb1 (Nat.le_refl _)
    clear hb1
    go_wp2_with fail
    refine (wideBytes_any _ xs _ HS1.out (by omega)).mono ?_
    rintro e w2 ⟨rfl, ho2, hb2⟩
    have HB2 : Hid (Below w.heap.size w w2) := HB1.out.trans (hb2.mono hz1)
    have HS2 : Hid (Sees w2 (.slice a0 xs.length cap0) xs) := HS1.out.below hb2 (Nat.le_refl _)
    have HO2 : Hid (Owns w2 w1.heap.size (.slice (some ⟨w1.heap.size, 0, none⟩) (wide xs).length (xs.length + 64)) (wide xs)) := ho2
    have hp := sees_prefix ho2 (n := xs.length) (by rw [wide_len]; omega)
    rw [wide_take] at hp
    have HI2 : Hid (Sees w2 (.slice (some ⟨w1.heap.size, 0, none⟩) xs.length (xs.length + 64)) xs) := hp
    clear ho2 hb2 hp HB1 HS1
    go_wp2_with fail
    refine (packSum_any _ xs _ HI2.out HS.out.2).mono ?_
    rintro e w3 ⟨rfl, rfl⟩
    go_wp2_with fail
    refine (packSum_any _ xs _ HI2.out HS.out.2).mono ?_
    rintro e w4 ⟨rfl, rfl⟩
    go_wp2_with fail
    refine (eqBytes_any _ _ xs xs _ HI2.out HS2.out).mono ?_
    rintro e w5 ⟨rfl, n5, hw5⟩
    have ed : decide (xs = xs) = true := by simp
    rw [ed]
    clear ed
    have hk5 : Kept w4 w5 (fun _ => False) := by rw [hw5]; exact (Kept.refl _ _).drewN _
    have HB5 : Hid (Below w.heap.size w w5) := HB2.out.trans (hk5.below HB2.out.size (fun _ h => h.elim))
    have HS5 : Hid (Sees w5 (.slice a0 xs.length cap0) xs) := HS2.out.kept hk5 (fun _ _ h => h)
    have HO5 : Hid (Owns w5 w1.heap.size (.slice (some ⟨w1.heap.size, 0, none⟩) (wide xs).length (xs.length + 64)) (wide xs)) := Owns.kept HO2.out hk5 (fun _ _ h => h)
    clear hw5 hk5 HB2 HS2 HO2 HI2
    go_wp2_with fail
    refine (spareBytes_any w1.heap.size xs (wide xs) _ HO5.out (wide_len xs) (fun j h1 h2 => by rw [wide_nth xs j h2, if_neg (by omega)]) (by omega)).mono ?_
    rintro e w6 ⟨rfl, rfl⟩
    go_wp2_with fail
    refine (refSum_any _ xs _ HS5.out HS.out.2).mono ?_
    rintro e w7 ⟨rfl, rfl⟩
    have HX : Hid (Byts xs) := HS.out.2
    clear HS HS5
    go_wp2
    have HO7 : Hid (Owns w7 0 (.slice (some ⟨w1.heap.size, 0, none⟩) (wide xs).length (xs.length + 64)) (wide xs)) := owns_mono HO5.out (Nat.zero_le _)
    clear HO5
    go_loopw [9] (fun i wr => ∃ (k : Nat) (zs : List Int), k ≤ xs.length ∧ i = .int .i64 k ∧ zs.length = xs.length + 64 ∧ Byts zs ∧ Owns wr 0 (.slice (some ⟨w1.heap.size, 0, none⟩) zs.length (xs.length + 64)) zs ∧ Below w.heap.size w wr) (fun i _ => xs.length - (intOf i).toNat)
    case atStart => exact ⟨0, wide xs, Nat.zero_le _, rfl, wide_len xs, byts_wide HX.out, HO7.out, HB5.out⟩
    case round =>
      clear HO7 HB5
      obtain ⟨k, zs, hk, rfl, hzl, hbz, hown, hbel⟩ := hrel
      have HZ : Hid (zs.length = xs.length + 64) := hzl
      have HZB : Hid (Byts zs) := hbz
      have HO : Hid (Owns wr 0 (.slice (some ⟨w1.heap.size, 0, none⟩) zs.length (xs.length + 64)) zs) := hown
      have HB : Hid (Below w.heap.size w wr) := hbel
      clear hzl hbz hbel
      by_cases hlt : k < xs.length
      · have hc := owns_cell hown k (by rw [HZ.out]; omega)
        have hf := hown.frozenAt k
        have hx := HZB.out.nth k
        clear hown
        generalize zs.getD k 0 = x at *
        have hxx := xor_byte x 85 hx.1 hx.2 (by omega) (by omega)
        go_wp2
        obtain ⟨zs', r1, r2, r3, r4⟩ := over_rel HZ.out hlt (bits .xor .u8 x 85) hxx HZB.out hz1 HO.out HB.out
        go_roundw
        case rel => exact ⟨k + 1, zs', by omega, by go_num, r1, r2, r3, r4⟩
        case measure => simp [intOf]; omega
      · clear hown
        have hl : (zs.take xs.length).length = xs.length := by have := HZ.out; simp; omega
        have HL : Hid _ := hl
        clear hl
        go_wp2_with fail
        refine (copyBytes_any _ (zs.take xs.length) _ (sees_prefix HO.out (by have := HZ.out; omega)) (by have := HL.out; omega)).mono ?_
        rintro e w8 ⟨v8, rfl, ho8, hb8⟩
        have HB8 : Hid (Below w.heap.size w w8) := HB.out.trans (hb8.mono HB.out.size)
        have HI8 : Hid (Sees w8 (.slice (some ⟨w1.heap.size, 0, none⟩) xs.length (xs.length + 64)) (zs.take xs.length)) := (sees_prefix HO.out (by have := HZ.out; omega)).below hb8 (Nat.le_refl _)
        have HT8 : Hid (Sees w8 v8 (zs.take xs.length)) := Sees.own ho8
        have HBZ : Hid (Byts (zs.take xs.length)) := HZB.out.take _
        clear ho8 hb8 HO HB
        go_wp2_with fail
        refine (packSum_any _ (zs.take xs.length) _ HI8.out HBZ.out).mono ?_
        rintro e w9 ⟨rfl, rfl⟩
        go_wp2_with fail
        refine (refSum_any _ (zs.take xs.length) _ HT8.out HBZ.out).mono ?_
        rintro e w10 ⟨rfl, rfl⟩
        go_wp2
        go_ret
        exact ⟨rfl, HB8.out⟩

/-! ### THE ROW's STEP: WRITTEN OUT: LEAVE IT -/
set_option maxRecDepth 100000 in
theorem lifted (os : Os) (started : os.Started) (H : Type) (enc : TypeId × Value → H) :
    ReturnsInHanded {} Try.checked os 5 .any (Rows.packSumsSpec.pre6 enc Try.prog Try.f5 Rows.packSumsRow.domain false) (Rows.packSumsSpec.post enc Try.prog Try.f5 false true false false) := by
  refine returnsInHanded_of_change (C := Try.checked) Try.own started (by kernel_rfl) Try.func5
    (ChangeSpec.witness6 (enc := enc) (C := Try.checked) false ⟨#[], #[.slice none 0 0], []⟩ 8 (by kernel_rfl) (by kernel_rfl) (by kernel_rfl) (by kernel_rfl)) ?_
  intro W base args ds gs before hval0 hW hcnd _
  have hval : ∀ (j : Nat) t v, Try.f5.params[j]? = some t → args[j]? = some v → Value.okWide Try.prog W .any base t v := hval0
  have hW' := hW
  obtain ⟨p, q, hA0, hV, rfl, hfz, hnd⟩ := hW
  have hA : DataW.TrodAll enc Try.prog W 0 (fun _ => true) true Try.f5.params.toList args.toList ds p := hA0
  rw [Try.params5] at hA hval
  obtain ⟨v0, vs0, d0, ds0, p0, q0, hargs, rfl, rfl, h0, r0⟩ := trodAll_cons hA
  obtain ⟨rfl, rfl, rfl⟩ := trodAll_nil r0
  obtain rfl : args = #[v0] := by cases args; simp_all
  obtain ⟨rfl, rfl⟩ := trodVars_none hV
  obtain ⟨a0, len0, cap0, rfl⟩ := okWide_slice Try.underlying26 (hval 0 26 v0 rfl rfl)
  have k0 := h0
  have lt0 : ∀ x ∈ p0, x.block < W.heap.size := by obtain ⟨m, hm⟩ := k0; exact DataW.trod_lt m _ _ _ hm
  obtain ⟨z0, w0⟩ : ∃ zs, IsRow .u8 W a0 len0 cap0 zs := by
    obtain ⟨fuel, hf⟩ := h0
    rcases open_ints Try.underlying26 Try.underlying5 (by kernel_rfl) hf with ⟨hcs, _⟩ | ⟨x, l, c, zs, hcs, _, hl, hm, hz, _, hcell, hwz⟩
    · simp [Value.cells] at hcs
      obtain ⟨rfl, rfl, rfl⟩ := hcs
      exact ⟨[], .inl ⟨rfl, rfl, rfl, rfl⟩⟩
    · simp [Value.cells] at hcs
      obtain ⟨rfl, rfl, rfl⟩ := hcs
      exact ⟨zs, .inr ⟨_, rfl, hl, hm, by simpa using hz, hcell, hwz⟩⟩
  clear hA0 hval0
  refine (walk a0 len0 cap0 z0 W w0).mono fun e W' ⟨he, bel⟩ => ?_
  subst he
  exact ⟨_, rfl, _, _, _, [], _, [], hW', trodAll_mk1 (shut_bool Try.underlying4 _), (trodAll_cons_mk (Below.trod Try.laidOut (by kernel_rfl) (of_decide_eq_true (by kernel_rfl)) k0 bel lt0) trodAll_mk0), rfl, bel.frame _, fun h => by cases h⟩

theorem over : Rows.packSumsRow.holds Try.pinned (OpenSpec.ofChange Rows.packSumsSpec) :=
  OpenClaim.holds_of_wide 5 Try.f5 rfl rfl rfl rfl rfl rfl rfl ⟨rfl, rfl, rfl, rfl, rfl⟩ rfl rfl rfl rfl rfl (by kernel_rfl) Try.func5 (by kernel_rfl)
    (of_decide_eq_true (by kernel_rfl)) (by unfold Func.isWrapper; first | (rw [if_pos (by decide +kernel)]; kernel_rfl) | (rw [if_neg (by decide +kernel)]; exact ⟨rfl, rfl⟩))
    (fun os started H enc _ => lifted os started H enc)


end packSums

/-- The statement. -/
theorem packSums_holds : Rows.PackSumsSaid := packSums.over
#print axioms packSums_holds
end Go.Proofs.Ytmjcpcpcngpdjaa
