/- What the document's Least answers. -/
import Derived.Test.YtlnoighjdmjdeaaQvC
namespace Go.Proofs.Ytlnoighjdmjdeaa
open Go.RowKit Go.Shelf
set_option maxRecDepth 8000

theorem refLeast20 {w : World} {r : Nat} {ws gs : List Int} (h : IsDs w r ws gs) (ok : NewOk ws gs) {S : Nat} (hS : S < 256) : Calls Try.prog 25 #[.pointer (some ⟨r, 0, none⟩), .int .u8 (S : Int)] w fun e w' => e = .returned (.bool ((syD ws gs).least S.testBit)) ∧ w' = w := by
  have HD : Hid (syD ws gs).Good := ok.good
  have HA : Hid (∀ S : Nat, S < 256 → Calls Try.prog 23 #[.pointer (some ⟨r, 0, none⟩), .int .u8 (S : Int)] w fun e w' => e = .returned (.bool ((syD ws gs).has S.testBit)) ∧ w' = w) := fun S hS => refHas20 h ok hS
  obtain ⟨b, off, cap, b', off', cap', c0, c1, l1, l2, hw, hg⟩ := h.read ok
  have hz := h.lt
  have n7 := ok.l7
  have HDn : Hid ((syD ws gs).n = ws.length) := rfl
  clear h ok hw hg c1 l2
  generalize syD ws gs = D at *
  generalize ws.length = n at *
  unfold SyD.least
  have HLd : Hid (D.lst S.testBit D.n = D.ldB S 128) := (D.ld_least HD.out hS).symm
  have HI : Hid (∀ (T i : Nat), T < 256 → i < 8 → ∀ w, Calls Try.prog 43 #[.int .u8 (T : Int), .int .i64 (i : Int)] w fun e w' => e = .returned (.bool (T.testBit i)) ∧ w' = w) := fun T i h1 h2 w => in_any h1 h2 w
  cases hh : D.has S.testBit with
  | false =>
    rw [Bool.false_and]
    have HG := HA.out S hS
    rw [hh] at HG
    go_enter Try.func25, Try.ntmps25
    go_wp2_with fail
    refine Calls.mono HG ?_
    rintro e w1 ⟨rfl, rfl⟩
    go_wp2
    all_goals (go_ret; exact ⟨rfl, rfl⟩)
  | true =>
    rw [Bool.true_and, HLd.out]
    have HG := HA.out S hS
    rw [hh] at HG
    obtain ⟨val, hval⟩ : ∃ val, val = D.ldB S 128 := ⟨_, rfl⟩
    rw [← hval]
    have HV : Hid (val = D.ldB S 128) := hval
    clear hval hh HLd
    go_enter Try.func25, Try.ntmps25
    go_wp2_with fail
    refine Calls.mono HG ?_
    rintro e w1 ⟨rfl, hw1⟩
    rw [hw1]
    clear hw1 HG w1
    go_wp2
    go_loopw [5] (fun vt wr => ∃ t : Nat, t ≤ 128 ∧ vt = .int .i64 (t : Int) ∧ Hid (D.ldB S t = true) ∧ Hid (wr = w)) (fun vt _ => 128 - (intOf vt).toNat)
    case atStart => exact ⟨0, by omega, rfl, rfl, rfl⟩
    case round =>
      obtain ⟨t, ht, rfl, HT, HE⟩ := hrel
      rw [HE.out]
      clear HE
      by_cases ht7 : t < 128
      · have t0 : (0 : Int) ≤ (t : Int) := by omega
        have t1 : (t : Int) < 128 := by omega
        have t2 : t < 256 := by omega
        have sT : Hid (D.ldB S (t + 1) = (D.ldB S t && !(paB t S D.n && !saB t S D.n && D.has t.testBit))) := rfl
        obtain ⟨wo, hwo⟩ : ∃ wo, wo = wr := ⟨_, rfl⟩
        subst hwo
        go_wp2
        go_loopw [6, 7, 8] (fun v6 v7 vi wr => ∃ i : Nat, i ≤ n ∧ v6 = .bool (paB t S i) ∧ v7 = .bool (saB t S i) ∧ vi = .int .i64 (i : Int) ∧ Hid (wr = w)) (fun _ _ vi _ => n - (intOf vi).toNat)
        case atStart => exact ⟨0, by omega, rfl, rfl, rfl, rfl⟩
        case round =>
          obtain ⟨i, hi, rfl, rfl, rfl, HE⟩ := hrel
          rw [HE.out]
          clear HE
          by_cases hin : i < n
          · have i0 : (0 : Int) ≤ (i : Int) := by omega
            have i1 : (i : Int) < (n : Int) := by omega
            have i8 : i < 8 := by omega
            have H1 := HI.out t i t2 i8
            have H2 := HI.out S i hS i8
            have sP : Hid (paB t S (i + 1) = (paB t S i && (S.testBit i || !t.testBit i))) := rfl
            have sS : Hid (saB t S (i + 1) = (saB t S i && (t.testBit i == S.testBit i))) := rfl
            generalize t.testBit i = x at *
            generalize S.testBit i = y at *
            go_wp2_with fail
            refine Calls.mono (H1 _) ?_
            rintro e w1 ⟨rfl, rfl⟩
            go_wp2_with fail
            refine Calls.mono (H2 _) ?_
            rintro e w1 ⟨rfl, rfl⟩
            clear H1 H2
            generalize paB t S i = pb at *
            generalize saB t S i = sb at *
            cases x <;> cases y <;> cases pb <;> cases sb <;>
            (go_wp2
             go_roundw
             case rel => exact ⟨i + 1, by omega, by rw [sP.out]; rfl, by rw [sS.out]; rfl, by simp, trivial⟩
             case measure => simp [intOf]; omega)
          · obtain rfl : i = n := by omega
            rw [HDn.out] at sT
            have HG2 := HA.out t t2
            generalize paB t S i = pb at *
            generalize saB t S i = sb at *
            cases pb with
            | false =>
              have HX : Hid (D.ldB S (t + 1) = true) := by show _ = _; rw [sT.out, HT.out]; rfl
              clear sT HG2
              cases sb <;>
              (go_wp2
               go_roundw
               case rel => exact ⟨t + 1, by omega, by simp, HX, trivial⟩
               case measure => simp [intOf]; omega)
            | true =>
              cases sb with
              | true =>
                have HX : Hid (D.ldB S (t + 1) = true) := by show _ = _; rw [sT.out, HT.out]; rfl
                clear sT HG2
                go_wp2
                go_roundw
                case rel => exact ⟨t + 1, by omega, by simp, HX, trivial⟩
                case measure => simp [intOf]; omega
              | false =>
                cases hq : D.has t.testBit with
                | false =>
                  rw [hq] at HG2
                  have HX : Hid (D.ldB S (t + 1) = true) := by show _ = _; rw [sT.out, HT.out, hq]; rfl
                  clear sT hq
                  go_wp2_with fail
                  refine Calls.mono HG2 ?_
                  rintro e w1 ⟨rfl, rfl⟩
                  go_wp2
                  go_roundw
                  case rel => exact ⟨t + 1, by omega, by simp, HX, trivial⟩
                  case measure => simp [intOf]; omega
                | true =>
                  rw [hq] at HG2
                  have HX : Hid (val = false) := by
                    show _ = _
                    have q : D.ldB S (t + 1) = false := by rw [sT.out, HT.out, hq]; rfl
                    rw [HV.out]
                    cases e : D.ldB S 128 with
                    | false => rfl
                    | true =>
                      have := (D.ldB_iff S (t + 1)).2 (fun u hu => (D.ldB_iff S 128).1 e u (by omega))
                      rw [q] at this
                      cases this
                  clear sT hq
                  go_wp2_with fail
                  refine Calls.mono HG2 ?_
                  rintro e w1 ⟨rfl, rfl⟩
                  go_wp2
                  all_goals (go_ret; exact ⟨by rw [HX.out]; rfl, rfl⟩)
      · obtain rfl : t = 128 := by omega
        have HX : Hid (val = true) := by show _ = _; rw [HV.out, HT.out]
        have e128 : ((128 : Nat) : Int) = 128 := rfl
        generalize ((128 : Nat) : Int) = z128 at *
        have hz128 : ¬ z128 < 128 := by omega
        clear e128 HT HV
        go_wp2
        all_goals (go_ret; exact ⟨by rw [HX.out]; rfl, rfl⟩)

end Go.Proofs.Ytlnoighjdmjdeaa
