/- What Send does. -/
import Derived.Test.YtghngopclhhoeaaDoorLkFJ
namespace Go.Proofs.YtghngopclhhoeaaDoor
open Go.RowKit
set_option maxRecDepth 8000
set_option linter.unusedSimpArgs false
set_option linter.unusedVariables false

/-- May it be sent? -/
def okS (n f t : Int) (len : Nat) : Bool := hasL n f && hasL n t && decide (f ≠ t) && decide (1 ≤ len) && decide (len ≤ 8192)

set_option maxHeartbeats 4000000 in
theorem send_no {w : World} {b : Nat} {n : Int} {v : Value} {l : List MsD} (h : Nt w b n v l) (f t : Int) (f0 : -128 ≤ f) (f1 : f ≤ 127) (t0 : -128 ≤ t) (t1 : t ≤ 127) (ao : Option Addr) (len cap : Nat) (hk : okS n f t len = false) :
    Calls Tryd.prog 12 #[.pointer (some ⟨b, 0, none⟩), .int .i8 f, .int .i8 t, .slice ao len cap] w fun e w' => e = .returned (.int .i64 1) ∧ w' = w := by
  have HF : Hid (Calls Tryd.prog 49 #[.pointer (some ⟨b, 0, none⟩), .int .i8 f] w fun e w' => e = .returned (.bool (hasL n f)) ∧ w' = w) := has_anyL h f f0 f1
  have HT : Hid (Calls Tryd.prog 49 #[.pointer (some ⟨b, 0, none⟩), .int .i8 t] w fun e w' => e = .returned (.bool (hasL n t)) ∧ w' = w) := has_anyL h t t0 t1
  have HI : Hid (Calls Tryd.prog 48 #[.pointer (some ⟨b, 0, none⟩)] w fun e w' => e = .returned (.bool false) ∧ w' = w) := isNone_noL h
  clear h
  unfold okS at hk
  cases q1 : hasL n f with
  | false =>
    rw [q1] at HF
    clear hk HT
    go_enter Tryd.func12, Tryd.ntmps12
    go_wp2_with fail
    refine HI.out.mono ?_
    rintro _ _ ⟨rfl, rfl⟩
    go_wp2_with fail
    refine HF.out.mono ?_
    rintro _ _ ⟨rfl, rfl⟩
    go_wp2_with fail
    all_goals (go_ret; exact ⟨rfl, rfl⟩)
  | true =>
    rw [q1] at HF hk
    cases q2 : hasL n t with
    | false =>
      rw [q2] at HT
      clear hk
      go_enter Tryd.func12, Tryd.ntmps12
      go_wp2_with fail
      refine HI.out.mono ?_
      rintro _ _ ⟨rfl, rfl⟩
      go_wp2_with fail
      refine HF.out.mono ?_
      rintro _ _ ⟨rfl, rfl⟩
      go_wp2_with fail
      refine HT.out.mono ?_
      rintro _ _ ⟨rfl, rfl⟩
      go_wp2_with fail
      all_goals (go_ret; exact ⟨rfl, rfl⟩)
    | true =>
      rw [q2] at HT hk
      by_cases q3 : f = t
      · subst q3
        clear hk
        go_enter Tryd.func12, Tryd.ntmps12
        go_wp2_with fail
        refine HI.out.mono ?_
        rintro _ _ ⟨rfl, rfl⟩
        go_wp2_with fail
        refine HF.out.mono ?_
        rintro _ _ ⟨rfl, rfl⟩
        go_wp2_with fail
        refine HT.out.mono ?_
        rintro _ _ ⟨rfl, rfl⟩
        go_wp2_with fail
        all_goals (go_ret; exact ⟨rfl, rfl⟩)
      · have d3 : decide (f = t) = false := decide_eq_false q3
        have d3' : (f == t) = false := by simpa using q3
        simp only [ne_eq, q3, not_false_eq_true, decide_true, Bool.and_self, Bool.true_and, Bool.and_eq_false_iff, decide_eq_false_iff_not] at hk
        by_cases q4 : len < 1
        · have d4 : decide ((len : Int) < 1) = true := decide_eq_true (by omega)
          clear hk
          go_enter Tryd.func12, Tryd.ntmps12
          go_wp2_with fail
          refine HI.out.mono ?_
          rintro _ _ ⟨rfl, rfl⟩
          go_wp2_with fail
          refine HF.out.mono ?_
          rintro _ _ ⟨rfl, rfl⟩
          go_wp2_with fail
          refine HT.out.mono ?_
          rintro _ _ ⟨rfl, rfl⟩
          go_wp2_with fail
          all_goals (go_ret; exact ⟨rfl, rfl⟩)
        · have d4 : decide ((len : Int) < 1) = false := decide_eq_false (by omega)
          have d5 : decide ((8192 : Int) < (len : Int)) = true := decide_eq_true (by omega)
          clear hk
          go_enter Tryd.func12, Tryd.ntmps12
          go_wp2_with fail
          refine HI.out.mono ?_
          rintro _ _ ⟨rfl, rfl⟩
          go_wp2_with fail
          refine HF.out.mono ?_
          rintro _ _ ⟨rfl, rfl⟩
          go_wp2_with fail
          refine HT.out.mono ?_
          rintro _ _ ⟨rfl, rfl⟩
          go_wp2_with fail
          all_goals (go_ret; exact ⟨rfl, rfl⟩)

set_option maxHeartbeats 4000000 in
theorem send_yes {w : World} {b : Nat} {n : Int} {v : Value} {l : List MsD} (h : Nt w b n v l) (f t : Int) (f0 : -128 ≤ f) (f1 : f ≤ 127) (t0 : -128 ≤ t) (t1 : t ≤ 127) (ba off cap : Nat) (xs : List Int) (hs : Sees w (.slice (some ⟨ba, off, none⟩) xs.length cap) xs) (hy : Byts xs) (hl : l.length ≤ 100000000) (hk : okS n f t xs.length = true) :
    Calls Tryd.prog 12 #[.pointer (some ⟨b, 0, none⟩), .int .i8 f, .int .i8 t, .slice (some ⟨ba, off, none⟩) xs.length cap] w fun e w' => e = .returned (.int .i64 0) ∧ ∃ v' R, Nt w' b n v' (l ++ [⟨f, t, xs, false, R, 0, xs.length⟩]) ∧ Kept w w' (fun k => k = b ∨ v.ownBlock = some k) ∧ NewRow w v v' ∧ w.heap.size ≤ R := by
  have HF : Hid (Calls Tryd.prog 49 #[.pointer (some ⟨b, 0, none⟩), .int .i8 f] w fun e w' => e = .returned (.bool (hasL n f)) ∧ w' = w) := has_anyL h f f0 f1
  have HT : Hid (Calls Tryd.prog 49 #[.pointer (some ⟨b, 0, none⟩), .int .i8 t] w fun e w' => e = .returned (.bool (hasL n t)) ∧ w' = w) := has_anyL h t t0 t1
  have HI : Hid (Calls Tryd.prog 48 #[.pointer (some ⟨b, 0, none⟩)] w fun e w' => e = .returned (.bool false) ∧ w' = w) := isNone_noL h
  unfold okS at hk
  simp only [Bool.and_eq_true, decide_eq_true_eq] at hk
  obtain ⟨⟨⟨⟨q1, q2⟩, q3⟩, q4⟩, q5⟩ := hk
  rw [q1] at HF
  rw [q2] at HT
  have d3 : decide (f = t) = false := decide_eq_false q3
  have d3' : (f == t) = false := by simpa using q3
  have d4 : decide ((xs.length : Int) < 1) = false := decide_eq_false (by omega)
  have d5 : decide ((8192 : Int) < (xs.length : Int)) = false := decide_eq_false (by omega)
  have HP : Hid (Calls Tryd.prog 50 #[.pointer (some ⟨b, 0, none⟩), .pointer (some ⟨w.heap.size, 0, none⟩)] (w.alloc (.cells #[.int .i8 f, .int .i8 t, .slice (some ⟨ba, off, none⟩) xs.length cap, .bool false] 72)) fun e w' => e = .returned (.int .i64 0) ∧ ∃ v' R, Nt w' b n v' (l ++ [⟨f, t, xs, false, R, 0, xs.length⟩]) ∧ Kept w w' (fun k => k = b ∨ v.ownBlock = some k) ∧ NewRow w v v' ∧ w.heap.size ≤ R) := by
    have hB := oneL w (.cells #[.int .i8 f, .int .i8 t, .slice (some ⟨ba, off, none⟩) xs.length cap, .bool false] 72)
    have hr := heap_alloc_new w (.cells #[.int .i8 f, .int .i8 t, .slice (some ⟨ba, off, none⟩) xs.length cap, .bool false] 72)
    refine Calls.mono (put_anyL (pb := w.heap.size) (po := 0) ⟨f, t, xs, false, ba, off, cap⟩ (h.below hB) ⟨by rw [cell_of_row _ _ _ _ _ _ hr]; rfl, by rw [cell_of_row _ _ _ _ _ _ hr]; rfl, by rw [cell_of_row _ _ _ _ _ _ hr]; rfl, by rw [cell_of_row _ _ _ _ _ _ hr]; rfl⟩ (hs.below hB (Nat.le_refl _)) q4 q5 hy hl) ?_
    rintro _ w2 ⟨rfl, v', R, g1, g2, g3, g4⟩
    have hsz : (w.alloc (.cells #[.int .i8 f, .int .i8 t, .slice (some ⟨ba, off, none⟩) xs.length cap, .bool false] 72)).heap.size = w.heap.size + 1 := World.size_alloc _ _
    refine ⟨rfl, v', R, g1, ((Below.kept hB).mono (S' := fun k => k = b ∨ v.ownBlock = some k) (fun k h1 h2 => by omega)).trans g2 (fun _ _ e => e), ?_, by omega⟩
    rcases g3 with e | ⟨k, e, h3⟩
    · exact .inl e
    · exact .inr ⟨k, e, by omega⟩
  clear h hs hy q1 q2
  go_enter Tryd.func12, Tryd.ntmps12
  go_wp2_with fail
  refine HI.out.mono ?_
  rintro _ _ ⟨rfl, rfl⟩
  go_wp2_with fail
  refine HF.out.mono ?_
  rintro _ _ ⟨rfl, rfl⟩
  go_wp2_with fail
  refine HT.out.mono ?_
  rintro _ _ ⟨rfl, rfl⟩
  go_wp2_with fail
  refine HP.out.mono ?_
  rintro _ w2 ⟨rfl, hR⟩
  have HR : Hid _ := hR
  clear hR HP
  go_wp2_with fail
  all_goals (go_ret; exact ⟨rfl, HR.out⟩)
end Go.Proofs.YtghngopclhhoeaaDoor
