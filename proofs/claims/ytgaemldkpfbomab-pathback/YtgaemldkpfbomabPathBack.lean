/- PathBack of the statements of layer 5 answers true for every two texts: a path is its parent and its last name, put together; a name put below a path is that path's. No condition. -/
import Derived.Test.YtgaemldkpfbomabRows
import Derived.Test.YtgaemldkpfbomabPbC
import Derived.Test.YtgaemldkpfbomabPaY
import Derived.Test.YtgaemldkpfbomabPaV
import Derived.Test.YtgaemldkpfbomabPaS
namespace Go.Proofs.Ytgaemldkpfbomab
open Go.ChangeShapes Go.WideShapes Go.ChangeAt Go.RowKit
open Go.ChangeMaps (open_string shut_string)
set_option maxRecDepth 8000
namespace pathBack
set_option linter.unusedVariables false

theorem chk (s : ByteArray) (hl : s.size ≤ 4294967296) : ∃ a b : Int, Hid (∀ w, Calls Try.prog 7 #[.string s] w fun e w' => e = .returned (.tuple #[.int .i64 a, .int .i64 b]) ∧ Below w.heap.size w w') ∧ (isPb s.data.toList = true → b = 0) ∧ (isPb s.data.toList = false → b = 50) := by
  cases h : isPb s.data.toList with
  | true => exact ⟨0, 0, fun w => by have := check_any s w hl; rw [h, if_pos rfl] at this; exact this, fun _ => rfl, fun e => by simp at e⟩
  | false => exact ⟨(faultL s.data.toList : Nat), 50, fun w => by have := check_any s w hl; rw [h] at this; exact this, fun e => by simp at e, fun _ => rfl⟩

set_option maxHeartbeats 2000000 in
theorem walk (p n : ByteArray) (w : World) : Calls Try.prog 3 #[.string p, .string n] w fun e w' => e = .returned (.bool true) ∧ Below w.heap.size w w' := by
  by_cases h : 2147483632 ≤ p.size
  · have hd := decide_eq_true h
    go_enter Try.func3, Try.ntmps3
    go_wp2_with fail
    refine (long_any _ _).mono ?_
    rintro e w1 ⟨rfl, rfl⟩
    rw [hd]
    go_wp2
    go_ret
    exact ⟨rfl, Below.refl _ _⟩
  · have hd := decide_eq_false h
    by_cases g : 2147483632 ≤ n.size
    · have hg := decide_eq_true g
      go_enter Try.func3, Try.ntmps3
      go_wp2_with fail
      refine (long_any _ _).mono ?_
      rintro e w1 ⟨rfl, rfl⟩
      rw [hd]
      go_wp2_with fail
      refine (long_any _ _).mono ?_
      rintro e w1 ⟨rfl, rfl⟩
      rw [hg]
      go_wp2
      go_ret
      exact ⟨rfl, Below.refl _ _⟩
    · have hg := decide_eq_false g
      by_cases gg : 2147483632 ≤ (p ++ n).size
      · have hgg := decide_eq_true gg
        go_enter Try.func3, Try.ntmps3
        go_wp2_with fail
        refine (long_any _ _).mono ?_
        rintro e w1 ⟨rfl, rfl⟩
        rw [hd]
        go_wp2_with fail
        refine (long_any _ _).mono ?_
        rintro e w1 ⟨rfl, rfl⟩
        rw [hg]
        go_wp2_with fail
        refine (long_any _ _).mono ?_
        rintro e w1 ⟨rfl, rfl⟩
        rw [hgg]
        go_wp2
        go_ret
        exact ⟨rfl, Below.refl _ _⟩
      · have hgg := decide_eq_false gg
        have hz := size_list p
        have hzn := size_list n
        obtain ⟨ca, cb, HC, hc1, hc0⟩ := chk p (by omega)
        cases hip : isPb p.data.toList with
        | false =>
          obtain rfl := hc0 hip
          have hpar : parL p.data.toList = [] := by unfold parL; rw [if_pos (.inr hip)]
          have hbas : basL p.data.toList = [] := by unfold basL; rw [if_pos (.inr hip)]
          have H1 : Hid (∀ w, Calls Try.prog 8 #[.string p] w fun e w' => e = .returned (.string ⟨#[]⟩) ∧ Below w.heap.size w w') := fun w => by
            have := parent_any p w (by omega); rw [hpar] at this; exact this
          have H2 : Hid (∀ w, Calls Try.prog 9 #[.string p] w fun e w' => e = .returned (.string ⟨#[]⟩) ∧ Below w.heap.size w w') := fun w => by
            have := base_any p w (by omega); rw [hbas] at this; exact this
          clear hc1 hc0 hpar hbas hz hzn
          go_enter Try.func3, Try.ntmps3
          go_wp2_with fail
          refine (long_any _ _).mono ?_
          rintro e w1 ⟨rfl, rfl⟩
          rw [hd]
          go_wp2_with fail
          refine (long_any _ _).mono ?_
          rintro e w1 ⟨rfl, rfl⟩
          rw [hg]
          go_wp2_with fail
          refine (long_any _ _).mono ?_
          rintro e w1 ⟨rfl, rfl⟩
          rw [hgg]
          go_wp2_with fail
          refine (lives_any _).mono ?_
          rintro e w2 ⟨rfl, k2⟩
          go_wp2_with fail
          refine (HC.out _).mono ?_
          rintro e w3 ⟨rfl, k3⟩
          have j3 := k2.trans (k3.mono k2.size)
          go_wp2_with fail
          refine (H1.out _).mono ?_
          rintro e w4 ⟨rfl, k4⟩
          have j4 := j3.trans (k4.mono j3.size)
          go_wp2_with fail
          refine (H2.out _).mono ?_
          rintro e w5 ⟨rfl, k5⟩
          have HB : Hid (Below w1.heap.size w1 w5) := j4.trans (k5.mono j4.size)
          clear k2 k3 k4 k5 j3 j4
          go_wp2
          go_ret
          exact ⟨rfl, HB.out⟩
        | true =>
          obtain rfl := hc1 hip
          clear hc1 hc0
          have e47 := eq_list' p [47]
          have hjn : (jn p.data.toList n.data.toList).length ≤ 4294967296 := by
            unfold jn; split
            · simp; omega
            · simp; omega
          cases hok : (nmB n.data.toList && isPb (jn p.data.toList n.data.toList)) with
          | false =>
            have HJ : Hid (∀ w, Calls Try.prog 10 #[.string p, .string n] w fun e w' => e = .returned (.tuple #[.string ⟨#[]⟩, .int .i64 50]) ∧ Below w.heap.size w w') := fun w => by
              have := join_any p n w (by omega) (by omega)
              unfold joinV at this
              rw [Bool.and_assoc, hok, Bool.and_false] at this
              exact this
            clear hok hjn
            by_cases h47 : p.data.toList = [47]
            · rw [decide_eq_true h47] at e47
              have n47 : (p.toList != [47]) = false := by simp [bne, e47]
              clear h47 hz hzn hip
              go_enter Try.func3, Try.ntmps3
              go_wp2_with fail
              refine (long_any _ _).mono ?_
              rintro e w1 ⟨rfl, rfl⟩
              rw [hd]
              go_wp2_with fail
              refine (long_any _ _).mono ?_
              rintro e w1 ⟨rfl, rfl⟩
              rw [hg]
              go_wp2_with fail
              refine (long_any _ _).mono ?_
              rintro e w1 ⟨rfl, rfl⟩
              rw [hgg]
              go_wp2_with fail
              refine (lives_any _).mono ?_
              rintro e w2 ⟨rfl, k2⟩
              go_wp2_with fail
              refine (HC.out _).mono ?_
              rintro e w3 ⟨rfl, k3⟩
              have j3 := k2.trans (k3.mono k2.size)
              clear k2 k3
              go_wp2_with fail
              refine (HJ.out _).mono ?_
              rintro e w4 ⟨rfl, k4⟩
              have j4 := j3.trans (k4.mono j3.size)
              clear k4 j3
              have HB : Hid (Below w1.heap.size w1 w4) := j4
              clear j4
              go_wp2
              go_ret
              exact ⟨rfl, HB.out⟩
            · rw [decide_eq_false h47] at e47
              have n47 : (p.toList != [47]) = true := by simp [bne, e47]
              obtain ⟨g1, g2, g3, g4, g5⟩ := join_back hip h47 (by rw [← hz]; omega)
              obtain ⟨db, hdb⟩ : ∃ db : ByteArray, db = ⟨(parL p.data.toList).toArray⟩ := ⟨_, rfl⟩
              obtain ⟨bb, hbb⟩ : ∃ bb : ByteArray, bb = ⟨(basL p.data.toList).toArray⟩ := ⟨_, rfl⟩
              have hdl : db.data.toList = parL p.data.toList := by rw [hdb]
              have hbl : bb.data.toList = basL p.data.toList := by rw [hbb]
              have hds : db.size ≤ p.size := by rw [size_list, hdl, hz]; exact g4
              have hbs : bb.size ≤ p.size := by rw [size_list, hbl, hz]; exact g5
              have HPa : Hid (∀ w, Calls Try.prog 8 #[.string p] w fun e w' => e = .returned (.string db) ∧ Below w.heap.size w w') := fun w => by
                have := parent_any p w (by omega); rw [bytesV_list db _ hdl] at this; exact this
              have HBs : Hid (∀ w, Calls Try.prog 9 #[.string p] w fun e w' => e = .returned (.string bb) ∧ Below w.heap.size w w') := fun w => by
                have := base_any p w (by omega); rw [bytesV_list bb _ hbl] at this; exact this
              have HJ1 : Hid (∀ w, Calls Try.prog 10 #[.string db, .string bb] w fun e w' => e = .returned (.tuple #[.string p, .int .i64 0]) ∧ Below w.heap.size w w') := fun w => by
                have := join_any db bb w (by omega) (by omega)
                rw [hdl, hbl, g1, bytesV_list p _ rfl] at this
                exact this
              have HBl : Hid (∀ w, Calls Try.prog 11 #[.string p, .string db] w fun e w' => e = .returned (.bool true) ∧ Below w.heap.size w w') := fun w => by
                have := below_any p db w (by omega)
                rw [hdl, decide_eq_true g2] at this
                exact this
              clear g1 g2 g3 g4 g5 hdb hbb hdl hbl hds hbs
              clear h47 hz hzn hip
              go_enter Try.func3, Try.ntmps3
              go_wp2_with fail
              refine (long_any _ _).mono ?_
              rintro e w1 ⟨rfl, rfl⟩
              rw [hd]
              go_wp2_with fail
              refine (long_any _ _).mono ?_
              rintro e w1 ⟨rfl, rfl⟩
              rw [hg]
              go_wp2_with fail
              refine (long_any _ _).mono ?_
              rintro e w1 ⟨rfl, rfl⟩
              rw [hgg]
              go_wp2_with fail
              refine (lives_any _).mono ?_
              rintro e w2 ⟨rfl, k2⟩
              go_wp2_with fail
              refine (HC.out _).mono ?_
              rintro e w3 ⟨rfl, k3⟩
              have j3 := k2.trans (k3.mono k2.size)
              clear k2 k3
              go_wp2_with fail
              refine (HPa.out _).mono ?_
              rintro e w4 ⟨rfl, k4⟩
              have j4 := j3.trans (k4.mono j3.size)
              clear k4 j3
              go_wp2_with fail
              refine (HBs.out _).mono ?_
              rintro e w5 ⟨rfl, k5⟩
              have j5 := j4.trans (k5.mono j4.size)
              clear k5 j4
              go_wp2_with fail
              refine (HJ1.out _).mono ?_
              rintro e w6 ⟨rfl, k6⟩
              have j6 := j5.trans (k6.mono j5.size)
              clear k6 j5
              go_wp2_with fail
              refine (HBl.out _).mono ?_
              rintro e w7 ⟨rfl, k7⟩
              have j7 := j6.trans (k7.mono j6.size)
              clear k7 j6
              go_wp2_with fail
              refine (HJ.out _).mono ?_
              rintro e w8 ⟨rfl, k8⟩
              have j8 := j7.trans (k8.mono j7.size)
              clear k8 j7
              have HB : Hid (Below w1.heap.size w1 w8) := j8
              clear j8
              go_wp2
              go_ret
              exact ⟨rfl, HB.out⟩
          | true =>
            rw [Bool.and_eq_true] at hok
            obtain ⟨f1, f2, f3, f4⟩ := join_fits hip hok.1 hok.2 hjn
            obtain ⟨qb, hqb⟩ : ∃ qb : ByteArray, qb = ⟨(jn p.data.toList n.data.toList).toArray⟩ := ⟨_, rfl⟩
            have hql : qb.data.toList = jn p.data.toList n.data.toList := by rw [hqb]
            have hqs : qb.size ≤ 4294967296 := by rw [size_list, hql]; exact hjn
            have HJ : Hid (∀ w, Calls Try.prog 10 #[.string p, .string n] w fun e w' => e = .returned (.tuple #[.string qb, .int .i64 0]) ∧ Below w.heap.size w w') := fun w => by
              have := join_any p n w (by omega) (by omega)
              unfold joinV at this
              rw [hip, hok.1, hok.2] at this
              rw [hqb]
              exact this
            have HCq : Hid (∀ w, Calls Try.prog 7 #[.string qb] w fun e w' => e = .returned (.tuple #[.int .i64 0, .int .i64 0]) ∧ Below w.heap.size w w') := fun w => by
              have := check_any qb w hqs
              rw [hql, hok.2, if_pos rfl] at this
              exact this
            have HPq : Hid (∀ w, Calls Try.prog 8 #[.string qb] w fun e w' => e = .returned (.string p) ∧ Below w.heap.size w w') := fun w => by
              have := parent_any qb w hqs
              rw [hql, f1, bytesV_list p _ rfl] at this
              exact this
            have HBq : Hid (∀ w, Calls Try.prog 9 #[.string qb] w fun e w' => e = .returned (.string n) ∧ Below w.heap.size w w') := fun w => by
              have := base_any qb w hqs
              rw [hql, f2, bytesV_list n _ rfl] at this
              exact this
            have HLq : Hid (∀ w, Calls Try.prog 11 #[.string qb, .string p] w fun e w' => e = .returned (.bool true) ∧ Below w.heap.size w w') := fun w => by
              have := below_any qb p w hqs
              rw [hql, decide_eq_true f3] at this
              exact this
            clear hok hjn f1 f2 f3 f4 hqb hql hqs
            by_cases h47 : p.data.toList = [47]
            · rw [decide_eq_true h47] at e47
              have n47 : (p.toList != [47]) = false := by simp [bne, e47]
              clear h47 hz hzn hip
              go_enter Try.func3, Try.ntmps3
              go_wp2_with fail
              refine (long_any _ _).mono ?_
              rintro e w1 ⟨rfl, rfl⟩
              rw [hd]
              go_wp2_with fail
              refine (long_any _ _).mono ?_
              rintro e w1 ⟨rfl, rfl⟩
              rw [hg]
              go_wp2_with fail
              refine (long_any _ _).mono ?_
              rintro e w1 ⟨rfl, rfl⟩
              rw [hgg]
              go_wp2_with fail
              refine (lives_any _).mono ?_
              rintro e w2 ⟨rfl, k2⟩
              go_wp2_with fail
              refine (HC.out _).mono ?_
              rintro e w3 ⟨rfl, k3⟩
              have j3 := k2.trans (k3.mono k2.size)
              clear k2 k3
              go_wp2_with fail
              refine (HJ.out _).mono ?_
              rintro e w4 ⟨rfl, k4⟩
              have j4 := j3.trans (k4.mono j3.size)
              clear k4 j3
              go_wp2_with fail
              refine (HCq.out _).mono ?_
              rintro e w5 ⟨rfl, k5⟩
              have j5 := j4.trans (k5.mono j4.size)
              clear k5 j4
              go_wp2_with fail
              refine (HPq.out _).mono ?_
              rintro e w6 ⟨rfl, k6⟩
              have j6 := j5.trans (k6.mono j5.size)
              clear k6 j5
              go_wp2_with fail
              refine (HBq.out _).mono ?_
              rintro e w7 ⟨rfl, k7⟩
              have j7 := j6.trans (k7.mono j6.size)
              clear k7 j6
              go_wp2_with fail
              refine (HLq.out _).mono ?_
              rintro e w8 ⟨rfl, k8⟩
              have j8 := j7.trans (k8.mono j7.size)
              clear k8 j7
              have HB : Hid (Below w1.heap.size w1 w8) := j8
              clear j8
              go_wp2
              go_ret
              exact ⟨rfl, HB.out⟩
            · rw [decide_eq_false h47] at e47
              have n47 : (p.toList != [47]) = true := by simp [bne, e47]
              obtain ⟨g1, g2, g3, g4, g5⟩ := join_back hip h47 (by rw [← hz]; omega)
              obtain ⟨db, hdb⟩ : ∃ db : ByteArray, db = ⟨(parL p.data.toList).toArray⟩ := ⟨_, rfl⟩
              obtain ⟨bb, hbb⟩ : ∃ bb : ByteArray, bb = ⟨(basL p.data.toList).toArray⟩ := ⟨_, rfl⟩
              have hdl : db.data.toList = parL p.data.toList := by rw [hdb]
              have hbl : bb.data.toList = basL p.data.toList := by rw [hbb]
              have hds : db.size ≤ p.size := by rw [size_list, hdl, hz]; exact g4
              have hbs : bb.size ≤ p.size := by rw [size_list, hbl, hz]; exact g5
              have HPa : Hid (∀ w, Calls Try.prog 8 #[.string p] w fun e w' => e = .returned (.string db) ∧ Below w.heap.size w w') := fun w => by
                have := parent_any p w (by omega); rw [bytesV_list db _ hdl] at this; exact this
              have HBs : Hid (∀ w, Calls Try.prog 9 #[.string p] w fun e w' => e = .returned (.string bb) ∧ Below w.heap.size w w') := fun w => by
                have := base_any p w (by omega); rw [bytesV_list bb _ hbl] at this; exact this
              have HJ1 : Hid (∀ w, Calls Try.prog 10 #[.string db, .string bb] w fun e w' => e = .returned (.tuple #[.string p, .int .i64 0]) ∧ Below w.heap.size w w') := fun w => by
                have := join_any db bb w (by omega) (by omega)
                rw [hdl, hbl, g1, bytesV_list p _ rfl] at this
                exact this
              have HBl : Hid (∀ w, Calls Try.prog 11 #[.string p, .string db] w fun e w' => e = .returned (.bool true) ∧ Below w.heap.size w w') := fun w => by
                have := below_any p db w (by omega)
                rw [hdl, decide_eq_true g2] at this
                exact this
              clear g1 g2 g3 g4 g5 hdb hbb hdl hbl hds hbs
              clear h47 hz hzn hip
              go_enter Try.func3, Try.ntmps3
              go_wp2_with fail
              refine (long_any _ _).mono ?_
              rintro e w1 ⟨rfl, rfl⟩
              rw [hd]
              go_wp2_with fail
              refine (long_any _ _).mono ?_
              rintro e w1 ⟨rfl, rfl⟩
              rw [hg]
              go_wp2_with fail
              refine (long_any _ _).mono ?_
              rintro e w1 ⟨rfl, rfl⟩
              rw [hgg]
              go_wp2_with fail
              refine (lives_any _).mono ?_
              rintro e w2 ⟨rfl, k2⟩
              go_wp2_with fail
              refine (HC.out _).mono ?_
              rintro e w3 ⟨rfl, k3⟩
              have j3 := k2.trans (k3.mono k2.size)
              clear k2 k3
              go_wp2_with fail
              refine (HPa.out _).mono ?_
              rintro e w4 ⟨rfl, k4⟩
              have j4 := j3.trans (k4.mono j3.size)
              clear k4 j3
              go_wp2_with fail
              refine (HBs.out _).mono ?_
              rintro e w5 ⟨rfl, k5⟩
              have j5 := j4.trans (k5.mono j4.size)
              clear k5 j4
              go_wp2_with fail
              refine (HJ1.out _).mono ?_
              rintro e w6 ⟨rfl, k6⟩
              have j6 := j5.trans (k6.mono j5.size)
              clear k6 j5
              go_wp2_with fail
              refine (HBl.out _).mono ?_
              rintro e w7 ⟨rfl, k7⟩
              have j7 := j6.trans (k7.mono j6.size)
              clear k7 j6
              go_wp2_with fail
              refine (HJ.out _).mono ?_
              rintro e w8 ⟨rfl, k8⟩
              have j8 := j7.trans (k8.mono j7.size)
              clear k8 j7
              go_wp2_with fail
              refine (HCq.out _).mono ?_
              rintro e w9 ⟨rfl, k9⟩
              have j9 := j8.trans (k9.mono j8.size)
              clear k9 j8
              go_wp2_with fail
              refine (HPq.out _).mono ?_
              rintro e w10 ⟨rfl, k10⟩
              have j10 := j9.trans (k10.mono j9.size)
              clear k10 j9
              go_wp2_with fail
              refine (HBq.out _).mono ?_
              rintro e w11 ⟨rfl, k11⟩
              have j11 := j10.trans (k11.mono j10.size)
              clear k11 j10
              go_wp2_with fail
              refine (HLq.out _).mono ?_
              rintro e w12 ⟨rfl, k12⟩
              have j12 := j11.trans (k12.mono j11.size)
              clear k12 j11
              have HB : Hid (Below w1.heap.size w1 w12) := j12
              clear j12
              go_wp2
              go_ret
              exact ⟨rfl, HB.out⟩

/-! ### The row's step -/
set_option maxRecDepth 100000 in
theorem lifted (os : Os) (started : os.Started) (H : Type) (enc : TypeId × Value → H) :
    ReturnsInHanded {} Try.checked os 3 .any (Rows.pathBackSpec.pre6 enc Try.prog Try.f3 Rows.pathBackRow.domain false) (Rows.pathBackSpec.post enc Try.prog Try.f3 false true false false) := by
  refine returnsInHanded_of_change (C := Try.checked) Try.own started (by kernel_rfl) Try.func3
    (ChangeSpec.witness6 (enc := enc) (C := Try.checked) false ⟨#[], #[.string ⟨#[]⟩, .string ⟨#[]⟩], []⟩ 8 (by kernel_rfl) (by kernel_rfl) (by kernel_rfl) (by kernel_rfl)) ?_
  intro W base args ds gs before hval0 hW hcnd _
  have hval : ∀ (j : Nat) t v, Try.f3.params[j]? = some t → args[j]? = some v → Value.okWide Try.prog W .any base t v := hval0
  have hW' := hW
  obtain ⟨p, q, hA0, hV, rfl, hfz, hnd⟩ := hW
  have hA : DataW.TrodAll enc Try.prog W 0 (fun _ => true) true Try.f3.params.toList args.toList ds p := hA0
  rw [Try.params3] at hA hval
  obtain ⟨v0, vs0, d0, ds0, p0, q0, hargs, rfl, rfl, h0, r0⟩ := trodAll_cons hA
  obtain ⟨v1, vs1, d1, ds1, p1, q1, rfl, rfl, rfl, h1, r1⟩ := trodAll_cons r0
  obtain ⟨rfl, rfl, rfl⟩ := trodAll_nil r1
  obtain rfl : args = #[v0, v1] := by cases args; simp_all
  obtain ⟨rfl, rfl⟩ := trodVars_none hV
  obtain ⟨a0, rfl, rfl, rfl, w0⟩ := open_string Try.underlying9 (hval 0 9 v0 rfl rfl) h0
  obtain ⟨a1, rfl, rfl, rfl, w1⟩ := open_string Try.underlying9 (hval 1 9 v1 rfl rfl) h1
  clear hA0 hval0
  simp only [List.append_nil] at hW'
  refine (walk a0 a1 W).mono fun e W' ⟨he, hg⟩ => ?_
  subst he
  exact ⟨_, rfl, _, _, _, [], _, [], hW', trodAll_mk1 (shut_bool Try.underlying4 _), (trodAll_cons_mk (shut_string Try.underlying9 w0) (trodAll_cons_mk (shut_string Try.underlying9 w1) trodAll_mk0)), rfl, hg.frame _, fun h => by cases h⟩

theorem over : Rows.pathBackRow.holds Try.pinned (OpenSpec.ofChange Rows.pathBackSpec) :=
  OpenClaim.holds_of_wide 3 Try.f3 rfl rfl rfl rfl rfl rfl rfl ⟨rfl, rfl, rfl, rfl, rfl⟩ rfl rfl rfl rfl rfl (by kernel_rfl) Try.func3 (by kernel_rfl)
    (of_decide_eq_true (by kernel_rfl)) (by unfold Func.isWrapper; first | (rw [if_pos (by decide +kernel)]; kernel_rfl) | (rw [if_neg (by decide +kernel)]; exact ⟨rfl, rfl⟩))
    (fun os started H enc _ => lifted os started H enc)

end pathBack

/-- The statement. -/
theorem pathBack_holds : Rows.PathBackSaid := pathBack.over
#print axioms pathBack_holds
end Go.Proofs.Ytgaemldkpfbomab
