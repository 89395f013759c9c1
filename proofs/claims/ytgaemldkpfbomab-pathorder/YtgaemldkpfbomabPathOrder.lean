/- PathOrder of the statements of layer 5 answers true for every three texts: what lies above a path is its parent and what lies above that; Below is just that; no path lies below itself; and below is passed on. No condition. -/
import Derived.Test.YtgaemldkpfbomabRows
import Derived.Test.YtgaemldkpfbomabPbE
import Derived.Test.YtgaemldkpfbomabPaY
import Derived.Test.YtgaemldkpfbomabPaV
import Derived.Test.YtgaemldkpfbomabPaS
namespace Go.Proofs.Ytgaemldkpfbomab
open Go.ChangeShapes Go.WideShapes Go.ChangeAt Go.RowKit
open Go.ChangeMaps (open_string shut_string)
set_option maxRecDepth 8000
namespace pathOrder
set_option linter.unusedVariables false

theorem chk (s : ByteArray) (hl : s.size ≤ 4294967296) : ∃ a b : Int, Hid (∀ w, Calls Try.prog 7 #[.string s] w fun e w' => e = .returned (.tuple #[.int .i64 a, .int .i64 b]) ∧ Below w.heap.size w w') ∧ (isPb s.data.toList = true → b = 0) ∧ (isPb s.data.toList = false → b = 50) := by
  cases h : isPb s.data.toList with
  | true => exact ⟨0, 0, fun w => by have := check_any s w hl; rw [h, if_pos rfl] at this; exact this, fun _ => rfl, fun e => by simp at e⟩
  | false => exact ⟨(faultL s.data.toList : Nat), 50, fun w => by have := check_any s w hl; rw [h] at this; exact this, fun e => by simp at e, fun _ => rfl⟩

set_option maxHeartbeats 1000000 in
theorem walk (p q o : ByteArray) (w : World) : Calls Try.prog 4 #[.string p, .string q, .string o] w fun e w' => e = .returned (.bool true) ∧ Below w.heap.size w w' := by
  by_cases h : 2147483632 ≤ p.size
  · have hd := decide_eq_true h
    go_enter Try.func4, Try.ntmps4
    go_wp2_with fail
    refine (long_any _ _).mono ?_
    rintro e w1 ⟨rfl, rfl⟩
    rw [hd]
    go_wp2
    go_ret
    exact ⟨rfl, Below.refl _ _⟩
  · have hd := decide_eq_false h
    by_cases g : 2147483632 ≤ q.size
    · have hg := decide_eq_true g
      go_enter Try.func4, Try.ntmps4
      go_wp2_with fail
      refine (long_any _ _).mono ?_
      rintro e w1 ⟨rfl, rfl⟩
      rw [hd]
      go_wp2_with fail
      refine (long_any _ _).mono ?_
      rintro e w1 ⟨rfl, rfl⟩
      rw [hg]
      go_wp2
      go_ret
      exact ⟨rfl, Below.refl _ _⟩
    · have hg := decide_eq_false g
      by_cases gg : 2147483632 ≤ o.size
      · have hgg := decide_eq_true gg
        go_enter Try.func4, Try.ntmps4
        go_wp2_with fail
        refine (long_any _ _).mono ?_
        rintro e w1 ⟨rfl, rfl⟩
        rw [hd]
        go_wp2_with fail
        refine (long_any _ _).mono ?_
        rintro e w1 ⟨rfl, rfl⟩
        rw [hg]
        go_wp2_with fail
        refine (long_any _ _).mono ?_
        rintro e w1 ⟨rfl, rfl⟩
        rw [hgg]
        go_wp2
        go_ret
        exact ⟨rfl, Below.refl _ _⟩
      · have hgg := decide_eq_false gg
        have hz := size_list p
        obtain ⟨ca, cb, HC, hc1, hc0⟩ := chk p (by omega)
        have e47 := eq_list' p [47]
        cases hip : isPb p.data.toList with
        | false =>
          obtain rfl := hc0 hip
          have hab := abv_nil (.inr hip)
          clear hc1 hc0 hz e47
          go_enter Try.func4, Try.ntmps4
          go_wp2_with fail
          refine (long_any _ _).mono ?_
          rintro e w1 ⟨rfl, rfl⟩
          rw [hd]
          go_wp2_with fail
          refine (long_any _ _).mono ?_
          rintro e w1 ⟨rfl, rfl⟩
          rw [hg]
          go_wp2_with fail
          refine (long_any _ _).mono ?_
          rintro e w1 ⟨rfl, rfl⟩
          rw [hgg]
          go_wp2_with fail
          refine (lives_any _).mono ?_
          rintro e w2 ⟨rfl, k2⟩
          go_wp2_with fail
          refine (HC.out _).mono ?_
          rintro e w3 ⟨rfl, k3⟩
          have j3 := k2.trans (k3.mono k2.size)
          clear k2 k3
          go_wp2_with fail
          refine (aboveL_any p _ (by omega)).mono ?_
          rintro e w4 ⟨vl, rfl, hrl, k4⟩
          have j4 := j3.trans (k4.mono j3.size)
          obtain ⟨al, cl, rfl⟩ := row_shape hrl
          have HR4 : Hid (w4.ownsRow w3.heap.size 9 1 (.slice al (abv p.data.toList).length cl) (abv p.data.toList).length ((abv p.data.toList).map bytesV)) := hrl
          clear j3 k4 hrl
          rw [hab] at HR4 ⊢
          go_wp2
          go_ret
          exact ⟨rfl, j4⟩
        | true =>
          obtain rfl := hc1 hip
          by_cases h47 : p.data.toList = [47]
          · rw [decide_eq_true h47] at e47
            have hab := abv_nil (.inl h47)
            clear hc1 hc0 hz h47
            go_enter Try.func4, Try.ntmps4
            go_wp2_with fail
            refine (long_any _ _).mono ?_
            rintro e w1 ⟨rfl, rfl⟩
            rw [hd]
            go_wp2_with fail
            refine (long_any _ _).mono ?_
            rintro e w1 ⟨rfl, rfl⟩
            rw [hg]
            go_wp2_with fail
            refine (long_any _ _).mono ?_
            rintro e w1 ⟨rfl, rfl⟩
            rw [hgg]
            go_wp2_with fail
            refine (lives_any _).mono ?_
            rintro e w2 ⟨rfl, k2⟩
            go_wp2_with fail
            refine (HC.out _).mono ?_
            rintro e w3 ⟨rfl, k3⟩
            have j3 := k2.trans (k3.mono k2.size)
            clear k2 k3
            go_wp2_with fail
            refine (aboveL_any p _ (by omega)).mono ?_
            rintro e w4 ⟨vl, rfl, hrl, k4⟩
            have j4 := j3.trans (k4.mono j3.size)
            obtain ⟨al, cl, rfl⟩ := row_shape hrl
            have HR4 : Hid (w4.ownsRow w3.heap.size 9 1 (.slice al (abv p.data.toList).length cl) (abv p.data.toList).length ((abv p.data.toList).map bytesV)) := hrl
            clear j3 k4 hrl
            rw [hab] at HR4 ⊢
            go_wp2
            go_ret
            exact ⟨rfl, j4⟩
          · rw [decide_eq_false h47] at e47
            obtain ⟨_, _, _, g4, _⟩ := join_back hip h47 (by rw [← hz]; omega)
            have hpar := abv_par hip h47 (by rw [← hz]; omega)
            have hself := abv_self hip h47 (by rw [← hz]; omega)
            have htr : q.data.toList ∈ abv p.data.toList → o.data.toList ∈ abv q.data.toList → o.data.toList ∈ abv p.data.toList := fun h1 h2 => abv_trans hip h47 (by rw [← hz]; omega) h1 h2
            have hlen := abv_len p.data.toList (by rw [← hz]; omega)
            obtain ⟨db, hdb⟩ : ∃ db : ByteArray, db = ⟨(parL p.data.toList).toArray⟩ := ⟨_, rfl⟩
            have hdl : db.data.toList = parL p.data.toList := by rw [hdb]
            have hds : db.size ≤ p.size := by rw [size_list, hdl, hz]; exact g4
            have HPa : Hid (∀ w, Calls Try.prog 8 #[.string p] w fun e w' => e = .returned (.string db) ∧ Below w.heap.size w w') := fun w => by
              have := parent_any p w (by omega); rw [bytesV_list db _ hdl] at this; exact this
            have HB1 : Hid (∀ w, Calls Try.prog 11 #[.string p, .string p] w fun e w' => e = .returned (.bool false) ∧ Below w.heap.size w w') := fun w => by
              have := below_any p p w (by omega); rw [decide_eq_false hself] at this; exact this
            have HB2 : Hid (∀ w, Calls Try.prog 11 #[.string p, .string q] w fun e w' => e = .returned (.bool (decide (q.data.toList ∈ abv p.data.toList))) ∧ Below w.heap.size w w') := fun w => below_any p q w (by omega)
            have HB3 : Hid (∀ w, Calls Try.prog 11 #[.string q, .string o] w fun e w' => e = .returned (.bool (decide (o.data.toList ∈ abv q.data.toList))) ∧ Below w.heap.size w w') := fun w => below_any q o w (by omega)
            have HB4 : Hid (∀ w, Calls Try.prog 11 #[.string p, .string o] w fun e w' => e = .returned (.bool (decide (o.data.toList ∈ abv p.data.toList))) ∧ Below w.heap.size w w') := fun w => below_any p o w (by omega)
            have HAb : Hid (∀ w, Calls Try.prog 12 #[.string db, .int .i64 200] w fun e w' => ∃ v, e = .returned v ∧ w'.ownsRow w.heap.size 9 1 v (abv (parL p.data.toList)).length ((abv (parL p.data.toList)).map bytesV) ∧ Below w.heap.size w w') := fun w => by
              have := aboveL_any db w (by omega); rw [hdl] at this; exact this
            have HPr : Hid (abv p.data.toList = abv (parL p.data.toList) ++ [parL p.data.toList] ∧ bytesV (parL p.data.toList) = .string db ∧ (q.data.toList ∈ abv p.data.toList → o.data.toList ∈ abv q.data.toList → o.data.toList ∈ abv p.data.toList)) := ⟨hpar, bytesV_list db _ hdl, htr⟩
            clear hc1 hc0 h47 hpar hself htr hdb hdl hds g4 hz
            go_enter Try.func4, Try.ntmps4
            go_wp2_with fail
            refine (long_any _ _).mono ?_
            rintro e w1 ⟨rfl, rfl⟩
            rw [hd]
            go_wp2_with fail
            refine (long_any _ _).mono ?_
            rintro e w1 ⟨rfl, rfl⟩
            rw [hg]
            go_wp2_with fail
            refine (long_any _ _).mono ?_
            rintro e w1 ⟨rfl, rfl⟩
            rw [hgg]
            go_wp2_with fail
            refine (lives_any _).mono ?_
            rintro e w2 ⟨rfl, k2⟩
            go_wp2_with fail
            refine (HC.out _).mono ?_
            rintro e w3 ⟨rfl, k3⟩
            have j3 := k2.trans (k3.mono k2.size)
            clear k2 k3
            go_wp2_with fail
            refine (aboveL_any p _ (by omega)).mono ?_
            rintro e w4 ⟨vl, rfl, hrl, k4⟩
            have j4 := j3.trans (k4.mono j3.size)
            obtain ⟨al, cl, rfl⟩ := row_shape hrl
            have HR4 : Hid (w4.ownsRow w3.heap.size 9 1 (.slice al (abv p.data.toList).length cl) (abv p.data.toList).length ((abv p.data.toList).map bytesV)) := hrl
            clear j3 k4 hrl
            have HJ4 : Hid (Below w1.heap.size w1 w4) := j4
            go_wp2_with fail
            refine (HPa.out _).mono ?_
            rintro e w5 ⟨rfl, k5⟩
            have j5 := j4.trans (k5.mono j4.size)
            go_wp2_with fail
            refine (HAb.out _).mono ?_
            rintro e w6 ⟨vm, rfl, hrm, k6⟩
            have j6 := j5.trans (k6.mono j5.size)
            have k46 : Below w4.heap.size w4 w6 := k5.trans (k6.mono k5.size)
            obtain ⟨am, cm, rfl⟩ := row_shape hrm
            have HM6 : Hid (w6.ownsRow w5.heap.size 9 1 (.slice am (abv (parL p.data.toList)).length cm) (abv (parL p.data.toList)).length ((abv (parL p.data.toList)).map bytesV)) := hrm
            have HL6 : Hid (w6.ownsRow w3.heap.size 9 1 (.slice al (abv p.data.toList).length cl) (abv p.data.toList).length ((abv p.data.toList).map bytesV)) := row_kept HR4.out (kept_below k46 (fun _ => False)) (fun _ _ h => h)
            have hln := congrArg List.length HPr.out.1
            rw [List.length_append] at hln
            simp only [List.length_cons, List.length_nil, Nat.zero_add] at hln
            have HLN : Hid ((abv p.data.toList).length = (abv (parL p.data.toList)).length + 1) := hln
            have hpl : (abv (parL p.data.toList)).length ≤ 64 := by omega
            clear hln
            have hw45 := k5.size
            have hw56 := k6.size
            have HJ6 : Hid (Below w1.heap.size w1 w6) := j6
            clear hrm k46 k5 k6 j4 j5 j6
            obtain ⟨i0, hi, hz0, hz1, hz2⟩ := info_parts Try.infoStr
            go_wp2_with (at_builtin; refine wpList_append_own _ rfl _ _ 31 rfl w5.heap.size 9 i0 (.string ⟨#[]⟩) 1 16 Try.underlying31 hi hz0 hz1 hz2 rfl (by decide) _ _ _ rfl (HM6.out.alloc _) ⟨w6.heap.size, 0, none⟩ 1 1 [.string db] rfl rfl ?c1 ?c2 ?c3 ?c4 ?c5 ?_)
            case c1 => exact cell_one_new _ _ _
            case c2 =>
              intro u hu
              simp only [List.mem_cons, List.not_mem_nil, or_false] at hu
              subst hu; rfl
            case c3 => unfold maxLen; omega
            case c4 => omega
            case c5 => simp; omega
            intro v' w7 hown' hgrow _
            have k67 : Kept w6 w7 (fun k => (Value.slice am (abv (parL p.data.toList)).length cm).ownBlock = some k) := kept_grownT hgrow
            have HL7 : Hid (w7.ownsRow w3.heap.size 9 1 (.slice al (abv p.data.toList).length cl) (abv p.data.toList).length ((abv p.data.toList).map bytesV)) := row_kept HL6.out k67 (fun k e e' => by
              have h1 := (row_at HR4.out e).2.2
              have h2 := (row_at HM6.out e').2.1
              omega)
            have HM7 : Hid (w7.ownsRow w5.heap.size 9 1 v' (abv p.data.toList).length ((abv p.data.toList).map bytesV)) := by
              show w7.ownsRow _ _ _ _ _ _
              rw [HLN.out, HPr.out.1, List.map_append, List.map_cons, List.map_nil, HPr.out.2.1]
              exact hown'
            have HJ7 : Hid (Below w1.heap.size w1 w7) := HJ6.out.trans (k67.below HJ6.out.size (fun k e => by
              have h2 := (row_at HM6.out e).2.1
              have h3 := HJ6.out.size
              have hw13 : w1.heap.size ≤ w4.heap.size := HJ4.out.size
              omega))
            obtain ⟨av, cv, rfl⟩ := row_shape HM7.out
            clear hown' hgrow k67
            go_wp2_with fail
            refine (eqTexts_same _ _ (abv p.data.toList) _ _ _ HL7.out HM7.out).mono ?_
            rintro e w8 ⟨rfl, n8, rfl⟩
            go_wp2_with fail
            refine (HB1.out _).mono ?_
            rintro e w9 ⟨rfl, k9⟩
            have HL9 : Hid (w9.ownsRow w3.heap.size 9 1 (.slice al (abv p.data.toList).length cl) (abv p.data.toList).length ((abv p.data.toList).map bytesV)) := row_kept (show (w7.drewN n8).ownsRow _ _ _ _ _ _ from HL7.out) (kept_below k9 (fun _ => False)) (fun _ _ h => h)
            have HJ9 : Hid (Below w1.heap.size w1 w9) := (below_drew HJ7.out n8).trans (k9.mono (below_drew HJ7.out n8).size)
            clear k9
            obtain ⟨xs, hxs⟩ : ∃ xs, xs = abv p.data.toList := ⟨_, rfl⟩
            rw [← hxs] at HL9 hlen HB2 HB4 HPr ⊢
            clear HL7 HM7 HR4 HL6 HM6 hxs
            go_wp2
            go_loopw [13, 14] (fun vh vi wr => ∃ k m : Nat, k ≤ xs.length ∧ vi = .int .i64 (k : Int) ∧ vh = .bool (decide (q.data.toList ∈ xs.take k)) ∧ wr = w9.drewN m) (fun _ vi _ => xs.length - (intOf vi).toNat)
            case atStart => exact ⟨0, 0, Nat.zero_le _, rfl, by simp, rfl⟩
            case round =>
              obtain ⟨k, m, hk, rfl, rfl, rfl⟩ := hrel
              by_cases hlt : k < xs.length
              · obtain ⟨g1, d1, e1, _, hc1, hm1, q1⟩ := rowT_cell HL9.out k hlt
                simp only [Value.slice.injEq] at e1
                obtain ⟨rfl, _, rfl⟩ := e1
                have htk : xs.take (k + 1) = xs.take k ++ [xs[k]] := List.take_succ_eq_append_getElem hlt
                obtain ⟨x, hx⟩ : ∃ x, x = xs[k] := ⟨_, rfl⟩
                rw [← hx] at q1 htk
                have HT : Hid (decide (q.data.toList ∈ xs.take (k + 1)) = (decide (q.data.toList ∈ xs.take k) || decide (q.data.toList = x))) := by
                  show _ = _
                  rw [htk, Bool.eq_iff_iff]; simp
                have HEq : Hid ((x == q.toList) = decide (q.data.toList = x)) := by
                  show _ = _
                  rw [toList_eq, Bool.eq_iff_iff, beq_iff_eq, decide_eq_true_eq]
                  exact ⟨fun h => h.symm, fun h => h.symm⟩
                clear htk hx
                cases hb : decide (q.data.toList ∈ xs.take k) with
                | true =>
                  rw [hb, Bool.true_or] at HT
                  clear hb
                  go_wp2
                  go_roundw
                  case rel => exact ⟨k + 1, m, by omega, by simp, by rw [HT.out], rfl⟩
                  case measure => simp [intOf]; omega
                | false =>
                  rw [hb, Bool.false_or] at HT
                  clear hb
                  go_wp2
                  go_roundw
                  case rel => exact ⟨k + 1, m, by omega, by simp, by rw [HT.out, HEq.out], rfl⟩
                  case measure => simp [intOf]; omega
              · have HE : Hid (xs.take k = xs) := List.take_of_length_le (by omega)
                rw [HE.out]
                obtain ⟨b1, hb1⟩ : ∃ b, b = decide (q.data.toList ∈ xs) := ⟨_, rfl⟩
                obtain ⟨b2, hb2⟩ : ∃ b, b = decide (o.data.toList ∈ abv q.data.toList) := ⟨_, rfl⟩
                obtain ⟨b3, hb3⟩ : ∃ b, b = decide (o.data.toList ∈ xs) := ⟨_, rfl⟩
                have himp : b1 = true → b2 = true → b3 = true := fun h1 h2 => by
                  rw [hb1, decide_eq_true_eq] at h1
                  rw [hb2, decide_eq_true_eq] at h2
                  rw [hb3, decide_eq_true_eq]
                  exact HPr.out.2.2 h1 h2
                rw [← hb1] at HB2 ⊢
                rw [← hb2] at HB3
                rw [← hb3] at HB4
                clear hb1 hb2 hb3
                go_wp2_with fail
                refine (HB2.out _).mono ?_
                rintro e w10 ⟨rfl, k10⟩
                have j10 := (below_drew HJ9.out m).trans (k10.mono (below_drew HJ9.out m).size)
                go_wp2_with fail
                refine (HB3.out _).mono ?_
                rintro e w11 ⟨rfl, k11⟩
                have j11 := j10.trans (k11.mono j10.size)
                go_wp2_with fail
                refine (HB4.out _).mono ?_
                rintro e w12 ⟨rfl, k12⟩
                have HJ12 : Hid (Below w1.heap.size w1 w12) := j11.trans (k12.mono j11.size)
                clear k10 k11 k12 j10 j11
                cases b1 with
                | false =>
                  cases b3 with
                  | false =>
                    go_wp2
                    go_ret
                    exact ⟨rfl, HJ12.out⟩
                  | true =>
                    go_wp2
                    go_ret
                    exact ⟨rfl, HJ12.out⟩
                | true =>
                  cases b3 with
                  | true =>
                    go_wp2
                    go_ret
                    exact ⟨rfl, HJ12.out⟩
                  | false =>
                    have h2 : b2 = false := by
                      cases b2 with
                      | false => rfl
                      | true => exact absurd (himp rfl rfl) (by simp)
                    subst h2
                    go_wp2
                    go_ret
                    exact ⟨rfl, HJ12.out⟩

/-! ### The row's step -/
set_option maxRecDepth 100000 in
theorem lifted (os : Os) (started : os.Started) (H : Type) (enc : TypeId × Value → H) :
    ReturnsInHanded {} Try.checked os 4 .any (Rows.pathOrderSpec.pre6 enc Try.prog Try.f4 Rows.pathOrderRow.domain false) (Rows.pathOrderSpec.post enc Try.prog Try.f4 false true false false) := by
  refine returnsInHanded_of_change (C := Try.checked) Try.own started (by kernel_rfl) Try.func4
    (ChangeSpec.witness6 (enc := enc) (C := Try.checked) false ⟨#[], #[.string ⟨#[]⟩, .string ⟨#[]⟩, .string ⟨#[]⟩], []⟩ 8 (by kernel_rfl) (by kernel_rfl) (by kernel_rfl) (by kernel_rfl)) ?_
  intro W base args ds gs before hval0 hW hcnd _
  have hval : ∀ (j : Nat) t v, Try.f4.params[j]? = some t → args[j]? = some v → Value.okWide Try.prog W .any base t v := hval0
  have hW' := hW
  obtain ⟨p, q, hA0, hV, rfl, hfz, hnd⟩ := hW
  have hA : DataW.TrodAll enc Try.prog W 0 (fun _ => true) true Try.f4.params.toList args.toList ds p := hA0
  rw [Try.params4] at hA hval
  obtain ⟨v0, vs0, d0, ds0, p0, q0, hargs, rfl, rfl, h0, r0⟩ := trodAll_cons hA
  obtain ⟨v1, vs1, d1, ds1, p1, q1, rfl, rfl, rfl, h1, r1⟩ := trodAll_cons r0
  obtain ⟨v2, vs2, d2, ds2, p2, q2, rfl, rfl, rfl, h2, r2⟩ := trodAll_cons r1
  obtain ⟨rfl, rfl, rfl⟩ := trodAll_nil r2
  obtain rfl : args = #[v0, v1, v2] := by cases args; simp_all
  obtain ⟨rfl, rfl⟩ := trodVars_none hV
  obtain ⟨a0, rfl, rfl, rfl, w0⟩ := open_string Try.underlying9 (hval 0 9 v0 rfl rfl) h0
  obtain ⟨a1, rfl, rfl, rfl, w1⟩ := open_string Try.underlying9 (hval 1 9 v1 rfl rfl) h1
  obtain ⟨a2, rfl, rfl, rfl, w2⟩ := open_string Try.underlying9 (hval 2 9 v2 rfl rfl) h2
  clear hA0 hval0
  simp only [List.append_nil] at hW'
  refine (walk a0 a1 a2 W).mono fun e W' ⟨he, hg⟩ => ?_
  subst he
  exact ⟨_, rfl, _, _, _, [], _, [], hW', trodAll_mk1 (shut_bool Try.underlying4 _), (trodAll_cons_mk (shut_string Try.underlying9 w0) (trodAll_cons_mk (shut_string Try.underlying9 w1) (trodAll_cons_mk (shut_string Try.underlying9 w2) trodAll_mk0))), rfl, hg.frame _, fun h => by cases h⟩

theorem over : Rows.pathOrderRow.holds Try.pinned (OpenSpec.ofChange Rows.pathOrderSpec) :=
  OpenClaim.holds_of_wide 4 Try.f4 rfl rfl rfl rfl rfl rfl rfl ⟨rfl, rfl, rfl, rfl, rfl⟩ rfl rfl rfl rfl rfl (by kernel_rfl) Try.func4 (by kernel_rfl)
    (of_decide_eq_true (by kernel_rfl)) (by unfold Func.isWrapper; first | (rw [if_pos (by decide +kernel)]; kernel_rfl) | (rw [if_neg (by decide +kernel)]; exact ⟨rfl, rfl⟩))
    (fun os started H enc _ => lifted os started H enc)

end pathOrder

/-- The statement. -/
theorem pathOrder_holds : Rows.PathOrderSaid := pathOrder.over
#print axioms pathOrder_holds
end Go.Proofs.Ytgaemldkpfbomab
