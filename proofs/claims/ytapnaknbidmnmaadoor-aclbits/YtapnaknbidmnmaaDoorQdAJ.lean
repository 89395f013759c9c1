/- What acl's Allows and Fix answer, for lists of whatever length. -/
import Derived.Test.YtapnaknbidmnmaaDoorQcYJ
namespace Go.Proofs.YtapnaknbidmnmaaDoor
open Go.RowKit Go.Shelf
set_option maxRecDepth 8000

set_option maxHeartbeats 1000000 in
theorem allows_gen (v u : Value) (l : List EnT) (p : Int) (who : List IdT) (w : World) (h : SE w v l) (g : SI w u who) (hlen : l.length ≤ 1000) (hsz : ∀ x ∈ l, x.2.2.size ≤ 4294967296) (gsz : ∀ x ∈ who, x.2.size ≤ 4294967296) : Calls Tryd.prog 12 #[v, .int .i8 p, u] w fun e w' => e = .returned (.bool (alB l p who)) ∧ Below w.heap.size w w' := by
  by_cases hi : idLs who = true
  · exact allows_any v u l p who w h g hlen (by have := ((idLs_iff who).1 hi).1; omega) hsz gsz
  have hi2 : idLs who = false := by simpa using hi
  have HF : Hid (Calls Tryd.prog 22 #[v] w fun e w' => e = .returned (.bool (fxLs l)) ∧ Below w.heap.size w w') := isFixed_any v l w h hlen hsz
  have HP : Hid (∀ V : World, Calls Tryd.prog 23 #[.int .i8 p] V fun e w' => e = .returned (.bool (decide (0 ≤ p ∧ p ≤ 31))) ∧ w' = V) := isPerms_any p
  have HC : Hid (∀ V : World, Below w.heap.size w V → Calls Tryd.prog 8 #[u] V fun e w' => e = .returned (erV false) ∧ Below w.heap.size w w') := fun V hV => (aclCheckIds u who V (g.below hV) gsz).mono (fun e w' hh => ⟨by rw [hh.1, hi2], hV.trans (hh.2.mono hV.size)⟩)
  have ha : alB l p who = false := by unfold alB; rw [hi2]; simp
  rw [ha]
  generalize fxLs l = b1 at HF
  generalize decide (0 ≤ p ∧ p ≤ 31) = b2 at HP
  clear h g hlen hsz gsz hi hi2 ha
  cases b1
  · go_enter Tryd.func12, Tryd.ntmps12
    go_wp2_with (go_at_call 22; refine (HF.out).mono ?_; rintro e w1 ⟨rfl, hB⟩)
    all_goals (go_ret; exact ⟨rfl, hB⟩)
  cases b2
  · go_enter Tryd.func12, Tryd.ntmps12
    go_wp2_with fail
    go_at_call 22
    refine (HF.out).mono ?_
    rintro e w1 ⟨rfl, hB⟩
    go_wp2_with (go_at_call 23; refine (HP.out _).mono ?_; rintro e w2 ⟨rfl, rfl⟩)
    all_goals (go_ret; exact ⟨rfl, hB⟩)
  · go_enter Tryd.func12, Tryd.ntmps12
    go_wp2_with fail
    go_at_call 22
    refine (HF.out).mono ?_
    rintro e w1 ⟨rfl, hB⟩
    have HC1 : Hid (Calls Tryd.prog 8 #[u] w1 fun e w' => e = .returned (erV false) ∧ Below w.heap.size w w') := HC.out w1 hB
    clear hB
    go_wp2_with fail
    go_at_call 23
    refine (HP.out _).mono ?_
    rintro e w2 ⟨rfl, rfl⟩
    go_wp2_with (go_at_call 8; refine (HC1.out).mono ?_; rintro e w3 ⟨rfl, hB⟩)
    all_goals (go_ret; exact ⟨rfl, hB⟩)

set_option maxHeartbeats 2000000 in
theorem fix_gen (v u : Value) (l : List EnT) (who : List IdT) (w : World) (h : SE w v l) (g : SI w u who) (hsz : ∀ x ∈ l, x.2.2.size ≤ 4294967296) (gsz : ∀ x ∈ who, x.2.size ≤ 4294967296) : Calls Tryd.prog 6 #[v, u] w fun e w' => (∃ fv, e = .returned (.tuple #[fv, erV (fixA l who).isSome]) ∧ w'.ownsRow w.heap.size 28 3 fv ((fixA l who).getD []).length (enFlat ((fixA l who).getD [])) ∧ (fixA l who = none → fv = .slice none 0 0)) ∧ Below w.heap.size w w' := by
  have HC : Hid (Calls Tryd.prog 7 #[v] w fun e w' => e = .returned (erV (enLs l)) ∧ Below w.heap.size w w') := aclCheck v l w h hsz
  have HI : Hid (∀ V : World, Below w.heap.size w V → Calls Tryd.prog 8 #[u] V fun e w' => e = .returned (erV (idLs who)) ∧ Below w.heap.size w w') := fun V hV => (aclCheckIds u who V (g.below hV) gsz).mono (fun e w' hh => ⟨hh.1, hV.trans (hh.2.mono hV.size)⟩)
  cases hb1 : enLs l
  · have hr : fixA l who = none := by
      unfold fixA
      rw [if_neg (fun e => by
        rw [List.length_eq_zero_iff.1 e] at hb1
        exact absurd hb1 (by decide))]
      unfold fixL
      rw [hb1]
      rfl
    rw [hr]
    rw [hb1] at HC
    clear hb1 hr h g hsz gsz
    go_enter Tryd.func6, Tryd.ntmps6
    go_wp2_with fail
    go_at_call 7
    refine (HC.out).mono ?_
    rintro e w1 ⟨rfl, hB⟩
    go_wp2
    all_goals (refine bodyPost_ret (results_tmp2 rfl _ _ _) rfl ?_; exact ⟨⟨_, rfl, World.ownsRow_nil _ _ _ _, fun _ => rfl⟩, hB⟩)
  cases hb2 : idLs who
  · have hr : fixA l who = none := by
      unfold fixA fixL
      rw [hb2]
      split
      · rfl
      · rw [Bool.and_false]; rfl
    rw [hr]
    rw [hb1] at HC
    rw [hb2] at HI
    clear hb1 hb2 hr h g hsz gsz
    go_enter Tryd.func6, Tryd.ntmps6
    go_wp2_with fail
    go_at_call 7
    refine (HC.out).mono ?_
    rintro e w1 ⟨rfl, hB⟩
    have HI1 := HI.out w1 hB
    clear hB
    go_wp2_with fail
    go_at_call 8
    refine HI1.mono ?_
    rintro e w2 ⟨rfl, hB⟩
    go_wp2
    all_goals (refine bodyPost_ret (results_tmp2 rfl _ _ _) rfl ?_; exact ⟨⟨_, rfl, World.ownsRow_nil _ _ _ _, fun _ => rfl⟩, hB⟩)
  by_cases hl0 : l.length = 0
  · have hr : fixA l who = some [evE] := by unfold fixA; rw [if_pos hl0, hb2]; rfl
    rw [hr]
    rw [hb1] at HC
    rw [hb2] at HI
    obtain ⟨ao, cap, rfl, _, _⟩ := id h
    rw [hl0] at HC ⊢
    clear hb1 hb2 hr h g hsz gsz hl0
    go_enter Tryd.func6, Tryd.ntmps6
    go_wp2_with fail
    go_at_call 7
    refine (HC.out).mono ?_
    rintro e w1 ⟨rfl, hB⟩
    have HI1 := HI.out w1 hB
    clear hB
    go_wp2_with fail
    go_at_call 8
    refine HI1.mono ?_
    rintro e w2 ⟨rfl, hB⟩
    have H2 : Hid (Below w.heap.size w w2) := hB
    clear hB
    go_wp2_with fail
    go_at_call 13
    refine (everybody_any _).mono ?_
    rintro e w3 ⟨rfl, hB⟩
    have H3 : Hid (Below w.heap.size w w3) := H2.out.trans (hB.mono H2.out.size)
    clear hB H2
    go_wp2
    refine bodyPost_ret (results_tmp2 rfl _ _ _) rfl ?_
    exact ⟨⟨_, rfl, ⟨rfl, .inr ⟨w3.heap.size, 1, _, rfl, H3.out.size, heap_alloc_new _ _, Nat.le_refl _, by decide, rfl, rfl⟩⟩, fun e => by cases e⟩, H3.out.alloc H3.out.size _⟩
  · have hA : fixA l who = fixL l who := by unfold fixA; rw [if_neg hl0]
    rw [hA]
    exact fix_any v u l who w h g (by omega) (by have := ((enLs_iff l).1 hb1).1; omega) (by have := ((idLs_iff who).1 hb2).1; omega) hsz gsz

end Go.Proofs.YtapnaknbidmnmaaDoor
