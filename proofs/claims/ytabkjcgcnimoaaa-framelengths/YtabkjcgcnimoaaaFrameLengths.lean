/- FrameLengths of the statements of layer 3 answers true for every number and byte: a body may have 1 to MaxFrame bytes: of a body of that many bytes Put and One answer as the document says, and Whole of its frame is all of it. No condition. -/
import Derived.Test.YtabkjcgcnimoaaaRows
import Derived.Test.YtabkjcgcnimoaaaFr7
import Derived.Test.YtabkjcgcnimoaaaFrLives
import Derived.Test.YtabkjcgcnimoaaaShell
namespace Go.Proofs.Ytabkjcgcnimoaaa
open Go.ChangeShapes Go.WideShapes Go.ChangeAt Go.RowKit
set_option maxRecDepth 8000
namespace frameLengths
set_option linter.unusedVariables false

theorem one_body (zs : List Int) (hs : isSz zs.length = true) : ((frameL zs).drop 8).take zs.length = zs := by
  unfold frameL
  rw [dropF (headL_len zs), takeF rfl]

theorem byts_frame (zs : List Int) (hb : Byts zs) (hs : isSz zs.length = true) : Byts (frameL zs) := by
  have ha := adler_bd zs
  have hl : (zs.length : Int) ≤ 1048576 := by simp [isSz] at hs; omega
  refine Byts.append (Byts.append ?_ ?_) (hb.append (byts_lit rfl))
  · intro x hx
    simp only [be4, List.mem_cons, List.not_mem_nil, or_false] at hx
    rcases hx with rfl | rfl | rfl | rfl <;> omega
  · intro x hx
    simp only [be4, List.mem_cons, List.not_mem_nil, or_false] at hx
    rcases hx with rfl | rfl | rfl | rfl <;> omega

/-- Whole of the frame of a body. -/
theorem whole_frame (g : Nat) (zs : List Int) (w : World) (B : Nat) (ho : Owns w B (.slice (some ⟨g, 0, none⟩) (frameL zs).length (frameL zs).length) (frameL zs)) (hb : Byts zs) (hs : isSz zs.length = true) :
    Calls Try.prog 10 #[.slice (some ⟨g, 0, none⟩) (frameL zs).length (frameL zs).length] w fun e w' => e = .returned (.int .i64 ((zs.length : Int) + 9)) ∧ Below w.heap.size w w' := by
  have hl : zs.length ≤ 1048576 := by simp [isSz] at hs; omega
  refine (whole_any _ (frameL zs) w (Sees.own ho) (.inr ⟨g, 0, _, rfl⟩) (fun k hk => rows_lt ho hk) (byts_frame zs hb hs) (by rw [frameL_len]; omega)).mono ?_
  rintro e w' ⟨l, rfl, hB, hb⟩
  have h1 : Bodies (frameL zs) [zs] := by
    have := bodies_all [zs] (fun b hb => by simp at hb; subst hb; exact hs)
    simpa [framesL] using this
  have := bodies_one hB h1
  subst this
  exact ⟨ret_int (by simp [pos]), hb⟩

theorem whole_nil (w : World) : Calls Try.prog 10 #[.slice none 0 0] w fun e w' => e = .returned (.int .i64 0) ∧ Below w.heap.size w w' := by
  refine (whole_any _ [] w (sees_nil w) (.inl ⟨rfl, rfl⟩) (fun k hk => by simp [Value.ownBlock] at hk) (fun x hx => by simp at hx) (by simp)).mono ?_
  rintro e w' ⟨l, rfl, hB, hb⟩
  have := bodies_one hB (bodies_nil bodyLen_nil)
  subst this
  exact ⟨rfl, hb⟩

set_option maxHeartbeats 1000000 in
theorem walk (a0 : Int) (a1 : Int) (w0 : (Lit.int .i64 a0).wf = true) (w1 : (Lit.int .u8 a1).wf = true) (w : World) :
    Calls Try.prog 5 #[.int .i64 a0, .int .u8 a1] w fun e w' => e = .returned (.bool true) ∧ Below w.heap.size w w' := by
  have hby := bounds_u8 w1
  clear w0 w1
  by_cases hneg : a0 < 0
  · have d0 : decide (a0 < 0) = true := by simp [hneg]
    go_enter Try.func5, Try.ntmps5
    go_wp2
    go_ret
    exact ⟨rfl, Below.refl _ _⟩
  · have d0 : decide (a0 < 0) = false := by simp; omega
    by_cases hbig : 1048579 < a0
    · have d1 : decide (1048579 < a0) = true := by simp [hbig]
      go_enter Try.func5, Try.ntmps5
      go_wp2
      go_ret
      exact ⟨rfl, Below.refl _ _⟩
    · have d1 : decide (1048579 < a0) = false := by simp; omega
      obtain ⟨n, rfl⟩ : ∃ n : Nat, a0 = n := ⟨a0.toNat, by omega⟩
      obtain ⟨i0, hi, hz0, hz1, hz2⟩ := info_parts Try.infoByte
      clear hneg
      go_enter Try.func5, Try.ntmps5
      go_wp2_with (at_make; refine wpList_make_full _ rfl _ _ 25 rfl w.heap.size 5 i0 (.int .u8 0) 1 Try.underlying25 hi hz0 hz1 .i64 .i64 _ _ n rfl rfl (by omega) (by omega) (by rw [hz2]; omega) (by unfold maxLen; omega) (Nat.le_refl _) ?_)
      intro w2 hown0 hgrow0
      have hown1 := made_owns hown0
      have hbel0 : Below w.heap.size w w2 := (Below.refl _ _).grown hgrow0 (Nat.le_refl _) (fun k hk => by simp at hk)
      have hz : (List.replicate n (0 : Int)).length = n := by simp
      rw [hz] at hown1
      have hbz : Byts (List.replicate n 0) := fun x hx => by have := List.eq_of_mem_replicate hx; omega
      have HI : Hid (∃ zs : List Int, zs.length = n ∧ Byts zs ∧ Owns w2 w.heap.size (.slice (some ⟨w.heap.size, 0, none⟩) n n) zs ∧ Below w.heap.size w w2) := ⟨_, hz, hbz, hown1, hbel0⟩
      clear hown0 hgrow0 hown1 hbel0 hz hbz
      go_wp2_with fail
      go_loopw [6] (fun i wr => ∃ (k : Nat) (zs : List Int), k ≤ n ∧ i = .int .i64 k ∧ zs.length = n ∧ Byts zs ∧ Owns wr w.heap.size (.slice (some ⟨w.heap.size, 0, none⟩) n n) zs ∧ Below w.heap.size w wr) (fun i _ => n - (intOf i).toNat)
      case atStart =>
        obtain ⟨zs, h1, h2, h3, h4⟩ := HI.out
        exact ⟨0, zs, Nat.zero_le _, rfl, h1, h2, h3, h4⟩
      case round =>
        obtain ⟨k, zs, hk, rfl, hlz, hbz, hoz, hbw⟩ := hrel
        subst hlz
        by_cases hlt : k < zs.length
        · have hc := owns_cell hoz k hlt
          have hf := hoz.frozenAt k
          have HR : Hid (Owns (wr.setCell ⟨w.heap.size, k, none⟩ (.int .u8 a1)) w.heap.size (.slice (some ⟨w.heap.size, 0, none⟩) zs.length zs.length) (zs.set k a1) ∧ Below w.heap.size w (wr.setCell ⟨w.heap.size, k, none⟩ (.int .u8 a1)) ∧ Byts (zs.set k a1)) := by
            have := (owns_set hoz k a1).1
            rw [List.length_set] at this
            exact ⟨this, hbw.setCell (p := ⟨w.heap.size, k, none⟩) (Nat.le_refl _) _, byts_set hbz k a1 hby.1 hby.2⟩
          clear hoz hbw hbz HI
          generalize zs.getD k 0 = z at *
          go_wp2
          go_roundw
          case rel => exact ⟨k + 1, zs.set k a1, by omega, by go_num, by simp, HR.out.2.2, HR.out.1, HR.out.2.1⟩
          case measure => simp [intOf]; omega
        · have H : Hid (Byts zs ∧ Owns wr w.heap.size (.slice (some ⟨w.heap.size, 0, none⟩) zs.length zs.length) zs ∧ Below w.heap.size w wr) := ⟨hbz, hoz, hbw⟩
          clear hbz hoz hbw HI
          by_cases hsz : isSz zs.length = true
          · have hn1 : 1 ≤ zs.length ∧ zs.length ≤ 1048576 := by simp [isSz] at hsz; omega
            have d2 : decide ((zs.length : Int) < 1) = false := by simp; omega
            have d3 : decide (1048576 < (zs.length : Int)) = false := by simp; omega
            go_wp2_with fail
            refine (put_ok _ zs _ (Sees.own H.out.2.1) H.out.1 hsz).mono ?_
            rintro e w3 ⟨g, rfl, hg, ho, hb3⟩
            have hfl : (frameL zs).length = zs.length + 9 := frameL_len zs
            have H3 : Hid (Owns w3 wr.heap.size (.slice (some ⟨g, 0, none⟩) (frameL zs).length (frameL zs).length) (frameL zs) ∧ Sees w3 (.slice (some ⟨w.heap.size, 0, none⟩) zs.length zs.length) zs ∧ Below w.heap.size w w3) := ⟨ho, (Sees.own H.out.2.1).below hb3 (Nat.le_refl _), H.out.2.2.trans (hb3.mono H.out.2.2.size)⟩
            have HBL : Hid (bodyLen (frameL zs) = zs.length ∧ ((frameL zs).drop 8).take zs.length = zs ∧ Byts (frameL zs)) := ⟨by have := bodyLen_frame zs [] hsz; rwa [List.append_nil] at this, one_body zs hsz, byts_frame zs H.out.1 hsz⟩
            clear ho hb3 hfl
            go_wp2_with fail
            refine (one_ok _ (frameL zs) _ (Sees.own H3.out.1) HBL.out.2.2 (by rw [frameL_len]; omega) (by rw [HBL.out.1]; omega) (by rw [HBL.out.1, frameL_len])).mono ?_
            rw [HBL.out.1, HBL.out.2.1]
            rintro e w4 ⟨g4, rfl, hg4, ho4, hb4⟩
            have H4 : Hid (Owns w4 w3.heap.size (.slice (some ⟨g4, 0, none⟩) zs.length zs.length) zs ∧ Owns w4 wr.heap.size (.slice (some ⟨g, 0, none⟩) (frameL zs).length (frameL zs).length) (frameL zs) ∧ Sees w4 (.slice (some ⟨w.heap.size, 0, none⟩) zs.length zs.length) zs ∧ Below w.heap.size w w4) := ⟨ho4, Owns.kept H3.out.1 (Below.kept hb4) (fun k hk => by have := rows_lt H3.out.1 hk; omega), H3.out.2.1.below hb4 (Nat.le_refl _), H3.out.2.2.trans (hb4.mono H3.out.2.2.size)⟩
            clear ho4 hb4 H3
            go_wp2_with fail
            refine (whole_frame g zs _ _ H4.out.2.1 H.out.1 hsz).mono ?_
            rintro e w5 ⟨rfl, hb5⟩
            have H5 : Hid (Sees w5 (.slice (some ⟨g4, 0, none⟩) zs.length zs.length) zs ∧ Sees w5 (.slice (some ⟨w.heap.size, 0, none⟩) zs.length zs.length) zs ∧ Below w.heap.size w w5) := ⟨(Sees.own H4.out.1).below hb5 (Nat.le_refl _), H4.out.2.2.1.below hb5 (Nat.le_refl _), H4.out.2.2.2.trans (hb5.mono H4.out.2.2.2.size)⟩
            clear hb5 H4
            go_wp2_with fail
            refine (eqBytes_same _ _ zs _ H5.out.1 H5.out.2.1).mono ?_
            rintro e w6 ⟨rfl, n6, rfl⟩
            go_wp2_with fail
            refine (lives_any _).mono ?_
            rintro e w7 ⟨rfl, hb7⟩
            have H7 : Hid (Below w.heap.size w w7) := (below_drewN H5.out.2.2 n6).trans (hb7.mono (below_drewN H5.out.2.2 n6).size)
            clear hb7 H5
            go_wp2
            go_ret
            exact ⟨rfl, H7.out⟩
          · have hsz' : isSz zs.length = false := by simpa using hsz
            have hn : zs.length < 1 ∨ 1048576 < zs.length := by simp [isSz] at hsz'; omega
            have ht : (decide ((zs.length : Int) < 1) || decide (1048576 < (zs.length : Int))) = true := by simp; omega
            rcases hn with hn | hn
            · have d2 : decide ((zs.length : Int) < 1) = true := by simp; omega
              go_wp2_with fail
              refine (put_bad _ zs _ (Sees.own H.out.2.1) hsz').mono ?_
              rintro e w3 ⟨rfl, rfl⟩
              go_wp2_with fail
              refine (one_bad _ [] _ (sees_nil _) (fun x hx => by simp at hx) (by simp) (.inl bodyLen_nil)).mono ?_
              rintro e w4 ⟨rfl, hb4⟩
              have H4 : Hid (Below w.heap.size w w4) := H.out.2.2.trans (hb4.mono H.out.2.2.size)
              clear hb4
              go_wp2_with fail
              refine (whole_nil _).mono ?_
              rintro e w5 ⟨rfl, hb5⟩
              have H5 : Hid (Below w.heap.size w w5) := H4.out.trans (hb5.mono H4.out.size)
              clear hb5
              go_wp2
              go_ret
              exact ⟨rfl, H5.out⟩
            · have d2 : decide ((zs.length : Int) < 1) = false := by simp; omega
              have d3 : decide (1048576 < (zs.length : Int)) = true := by simp; omega
              go_wp2_with fail
              refine (put_bad _ zs _ (Sees.own H.out.2.1) hsz').mono ?_
              rintro e w3 ⟨rfl, rfl⟩
              go_wp2_with fail
              refine (one_bad _ [] _ (sees_nil _) (fun x hx => by simp at hx) (by simp) (.inl bodyLen_nil)).mono ?_
              rintro e w4 ⟨rfl, hb4⟩
              have H4 : Hid (Below w.heap.size w w4) := H.out.2.2.trans (hb4.mono H.out.2.2.size)
              clear hb4
              go_wp2_with fail
              refine (whole_nil _).mono ?_
              rintro e w5 ⟨rfl, hb5⟩
              have H5 : Hid (Below w.heap.size w w5) := H4.out.trans (hb5.mono H4.out.size)
              clear hb5
              go_wp2
              go_ret
              exact ⟨rfl, H5.out⟩

/-! ### The row's step -/
set_option maxRecDepth 100000 in
theorem lifted (os : Os) (started : os.Started) (H : Type) (enc : TypeId × Value → H) :
    ReturnsInHanded {} Try.checked os 5 .any (Rows.frameLengthsSpec.pre6 enc Try.prog Try.f5 Rows.frameLengthsRow.domain false) (Rows.frameLengthsSpec.post enc Try.prog Try.f5 false true false false) := by
  refine returnsInHanded_of_change (C := Try.checked) Try.own started (by kernel_rfl) Try.func5
    (ChangeSpec.witness6 (enc := enc) (C := Try.checked) false ⟨#[], #[.int .i64 0, .int .u8 0], []⟩ 8 (by kernel_rfl) (by kernel_rfl) (by kernel_rfl) (by kernel_rfl)) ?_
  intro W base args ds gs before hval0 hW hcnd _
  have hval : ∀ (j : Nat) t v, Try.f5.params[j]? = some t → args[j]? = some v → Value.okWide Try.prog W .any base t v := hval0
  have hW' := hW
  obtain ⟨p, q, hA0, hV, rfl, hfz, hnd⟩ := hW
  have hA : DataW.TrodAll enc Try.prog W 0 (fun _ => true) true Try.f5.params.toList args.toList ds p := hA0
  rw [Try.params5] at hA hval
  obtain ⟨v0, vs0, d0, ds0, p0, q0, hargs, rfl, rfl, h0, r0⟩ := trodAll_cons hA
  obtain ⟨v1, vs1, d1, ds1, p1, q1, rfl, rfl, rfl, h1, r1⟩ := trodAll_cons r0
  obtain ⟨rfl, rfl, rfl⟩ := trodAll_nil r1
  obtain rfl : args = #[v0, v1] := by cases args; simp_all
  obtain ⟨rfl, rfl⟩ := trodVars_none hV
  obtain ⟨a0, rfl, rfl, rfl, w0⟩ := open_int Try.underlying3 (hval 0 3 v0 rfl rfl) h0
  obtain ⟨a1, rfl, rfl, rfl, w1⟩ := open_int Try.underlying5 (hval 1 5 v1 rfl rfl) h1
  clear hA0 hval0
  simp only [List.append_nil] at hW'
  refine (walk a0 a1 w0 w1 W).mono fun e W' ⟨he, hg⟩ => ?_
  subst he
  exact ⟨_, rfl, _, _, _, [], _, [], hW', trodAll_mk1 (shut_bool Try.underlying4 _), (trodAll_cons_mk (shut_int Try.underlying3 w0) (trodAll_cons_mk (shut_int Try.underlying5 w1) trodAll_mk0)), rfl, hg.frame _, fun h => by cases h⟩

theorem over : Rows.frameLengthsRow.holds Try.pinned (OpenSpec.ofChange Rows.frameLengthsSpec) :=
  OpenClaim.holds_of_wide 5 Try.f5 rfl rfl rfl rfl rfl rfl rfl ⟨rfl, rfl, rfl, rfl, rfl⟩ rfl rfl rfl rfl rfl (by kernel_rfl) Try.func5 (by kernel_rfl)
    (of_decide_eq_true (by kernel_rfl)) (by unfold Func.isWrapper; first | (rw [if_pos (by decide +kernel)]; kernel_rfl) | (rw [if_neg (by decide +kernel)]; exact ⟨rfl, rfl⟩))
    (fun os started H enc _ => lifted os started H enc)

end frameLengths

/-- The statement. -/
theorem frameLengths_holds : Rows.FrameLengthsSaid := frameLengths.over
#print axioms frameLengths_holds
end Go.Proofs.Ytabkjcgcnimoaaa
