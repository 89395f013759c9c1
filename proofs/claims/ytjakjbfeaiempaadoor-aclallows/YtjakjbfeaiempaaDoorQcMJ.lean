/- What acl's Fix answers, but for the empty list. -/
import Derived.Test.YtjakjbfeaiempaaDoorQcLJ
namespace Go.Proofs.YtjakjbfeaiempaaDoor
open Go.RowKit Go.Shelf
set_option maxRecDepth 8000

/-- A list that is not empty as a node keeps it: none where it may not be. -/
def fixL (l : List EnT) (who : List IdT) : Option (List EnT) :=
  if enLs l && idLs who && !(l.any isAu && decide (((who.filter isNm).length : Int) = 0)) && !decide ((4 : Int) < ((putAt (who.filter isNm) l l.length).length : Int)) then some (putAt (who.filter isNm) l l.length) else none

set_option maxHeartbeats 2000000 in
theorem fix_any (v u : Value) (l : List EnT) (who : List IdT) (w : World) (h : SE w v l) (g : SI w u who) (h0 : 0 < l.length) (hlen : l.length ≤ 1000) (glen : who.length ≤ 1000) (hsz : ∀ x ∈ l, x.2.2.size ≤ 4294967296) (gsz : ∀ x ∈ who, x.2.size ≤ 4294967296) : Calls Tryd.prog 28 #[v, u] w fun e w' => (∃ fv, e = .returned (.tuple #[fv, erV (fixL l who).isSome]) ∧ w'.ownsRow w.heap.size 39 3 fv ((fixL l who).getD []).length (enFlat ((fixL l who).getD [])) ∧ (fixL l who = none → fv = .slice none 0 0)) ∧ Below w.heap.size w w' := by
  have HC : Hid (Calls Tryd.prog 8 #[v] w fun e w' => e = .returned (erV (enLs l)) ∧ Below w.heap.size w w') := aclCheck v l w h hsz
  have HI : Hid (∀ V : World, Below w.heap.size w V → Calls Tryd.prog 9 #[u] V fun e w' => e = .returned (erV (idLs who)) ∧ Below w.heap.size w w') := fun V hV => (aclCheckIds u who V (g.below hV) gsz).mono (fun e w' hh => ⟨hh.1, hV.trans (hh.2.mono hV.size)⟩)
  have HN : Hid (∀ V : World, Below w.heap.size w V → Calls Tryd.prog 44 #[u] V fun e w' => ∃ no nc, e = .returned (.slice no (who.filter isNm).length nc) ∧ Hid (SI w' (.slice no (who.filter isNm).length nc) (who.filter isNm) ∧ Below w.heap.size w w')) := fun V hV => (namesOf_any u who V (g.below hV) glen).mono (fun e w' hh => by
    obtain ⟨v', rfl, q1, q2⟩ := hh
    have q3 := SI_owns q1
    obtain ⟨no, nc, rfl, _⟩ := id q3
    exact ⟨no, nc, rfl, q3, hV.trans (q2.mono hV.size)⟩)
  have HH : Hid (∀ V : World, Below w.heap.size w V → Calls Tryd.prog 45 #[v] V fun e w' => e = .returned (.bool (l.any isAu)) ∧ Below V.heap.size V w') := fun V hV => hasAuth_any v l V (h.below hV) hlen
  have HP : Hid (∀ (V : World) (nv : Value), enLs l = true → idLs who = true → Below w.heap.size w V → SI V nv (who.filter isNm) → Calls Tryd.prog 46 #[v, nv] V fun e w' => ∃ fo fc, e = .returned (.slice fo (putAt (who.filter isNm) l l.length).length fc) ∧ Hid (w'.ownsRow w.heap.size 39 3 (.slice fo (putAt (who.filter isNm) l l.length).length fc) (putAt (who.filter isNm) l l.length).length (enFlat (putAt (who.filter isNm) l l.length)) ∧ Below w.heap.size w w')) := fun V nv e1 e2 hV hn => (putFor_any v nv l (who.filter isNm) V (h.below hV) hn (by
      unfold enLs at e1
      simp at e1
      exact e1.1) (by
      unfold idLs at e2
      simp at e2
      exact Nat.le_trans (List.length_filter_le _ _) e2.1)).mono (fun e w' hh => by
    obtain ⟨fv, rfl, q1, q2⟩ := hh
    obtain ⟨fo, fc, rfl, _⟩ := SE_owns q1
    obtain ⟨q3, q4⟩ := q1
    refine ⟨fo, fc, rfl, ⟨q3, ?_⟩, hV.trans (q2.mono hV.size)⟩
    rcases q4 with q4 | ⟨g, cap, cur, a1, a2, a3⟩
    · exact .inl q4
    · exact .inr ⟨g, cap, cur, a1, Nat.le_trans hV.size a2, a3⟩)
  obtain ⟨ao, cap, rfl, _, _⟩ := id h
  obtain ⟨bo, dap, rfl, _, _⟩ := id g
  have d0 : ((l.length : Int) == 0) = false := beq_eq_false_iff_ne.2 (by omega)
  generalize hfx : fixL l who = res
  unfold fixL at hfx
  clear h g hsz gsz
  cases hb1 : enLs l
  · rw [hb1] at HC hfx
    have hr : res = none := by rw [← hfx]; rfl
    subst hr
    clear hfx HP hb1
    go_enter Tryd.func28, Tryd.ntmps28
    go_wp2_with fail
    go_at_call 8
    refine (HC.out).mono ?_
    rintro e w1 ⟨rfl, hB⟩
    go_wp2
    all_goals (refine bodyPost_ret (results_tmp2 rfl _ _ _) rfl ?_; exact ⟨⟨_, rfl, World.ownsRow_nil _ _ _ _, fun _ => rfl⟩, hB⟩)
  rw [hb1] at HC hfx
  cases hb2 : idLs who
  · rw [hb2] at HI hfx
    have hr : res = none := by rw [← hfx]; rfl
    subst hr
    clear hfx HP hb1
    go_enter Tryd.func28, Tryd.ntmps28
    go_wp2_with fail
    go_at_call 8
    refine (HC.out).mono ?_
    rintro e w1 ⟨rfl, hB⟩
    have HI1 := HI.out w1 hB
    clear hB
    go_wp2_with fail
    go_at_call 9
    refine HI1.mono ?_
    rintro e w2 ⟨rfl, hB⟩
    go_wp2
    all_goals (refine bodyPost_ret (results_tmp2 rfl _ _ _) rfl ?_; exact ⟨⟨_, rfl, World.ownsRow_nil _ _ _ _, fun _ => rfl⟩, hB⟩)
  rw [hb2] at HI hfx
  go_enter Tryd.func28, Tryd.ntmps28
  go_wp2_with fail
  go_at_call 8
  refine (HC.out).mono ?_
  rintro e w1 ⟨rfl, hB⟩
  have HI1 := HI.out w1 hB
  clear hB
  go_wp2_with fail
  go_at_call 9
  refine HI1.mono ?_
  rintro e w2 ⟨rfl, hB⟩
  have HN2 := HN.out w2 hB
  clear hB HI1
  go_wp2_with fail
  go_at_call 44
  refine HN2.mono ?_
  rintro e w3 ⟨no, nc, rfl, H3⟩
  have HH3 := HH.out w3 H3.out.2
  go_wp2_with fail
  go_at_call 45
  refine HH3.mono ?_
  rintro e w4 ⟨rfl, hB4⟩
  have H4 : Hid (SI w4 (.slice no (who.filter isNm).length nc) (who.filter isNm) ∧ Below w.heap.size w w4) := ⟨H3.out.1.below hB4, H3.out.2.trans (hB4.mono H3.out.2.size)⟩
  have HP4 := HP.out w4 (.slice no (who.filter isNm).length nc) hb1 hb2 H4.out.2 H4.out.1
  clear hB4 HH3 H3 HN2 HN HC HI HH HP hb1 hb2 d0
  obtain ⟨fl, hfl⟩ : ∃ fl, fl = putAt (who.filter isNm) l l.length := ⟨_, rfl⟩
  rw [← hfl] at HP4 hfx
  clear hfl
  generalize l.any isAu = bA at hfx
  generalize (who.filter isNm).length = nn at hfx HP4 H4
  cases bA
  · have hr : res = if !decide ((4 : Int) < (fl.length : Int)) then some fl else none := by rw [← hfx]; rfl
    clear hfx
    go_wp2_with fail
    go_at_call 46
    refine HP4.mono ?_
    rintro e w5 ⟨fo, fc, rfl, H5⟩
    cases hd : decide ((4 : Int) < (fl.length : Int))
    · rw [hd] at hr
      have HR : Hid (res = some fl) := hr
      clear hr
      go_wp2
      all_goals (refine bodyPost_ret (results_tmp2 rfl _ _ _) rfl ?_; rw [HR.out]; exact ⟨⟨_, rfl, H5.out.1, fun e => by cases e⟩, H5.out.2⟩)
    · rw [hd] at hr
      have HR : Hid (res = none) := hr
      clear hr
      go_wp2
      all_goals (refine bodyPost_ret (results_tmp2 rfl _ _ _) rfl ?_; rw [HR.out]; exact ⟨⟨_, rfl, World.ownsRow_nil _ _ _ _, fun _ => rfl⟩, H5.out.2⟩)
  · by_cases hn0 : (nn : Int) = 0
    · have HR : Hid (res = none) := by show _ = _; rw [← hfx, decide_eq_true hn0]; rfl
      have d1 : ((nn : Int) == 0) = true := beq_iff_eq.2 hn0
      clear hfx hn0
      go_wp2
      all_goals (refine bodyPost_ret (results_tmp2 rfl _ _ _) rfl ?_; rw [HR.out]; exact ⟨⟨_, rfl, World.ownsRow_nil _ _ _ _, fun _ => rfl⟩, H4.out.2⟩)
    · have hr : res = if !decide ((4 : Int) < (fl.length : Int)) then some fl else none := by rw [← hfx, decide_eq_false hn0]; rfl
      have d1 : ((nn : Int) == 0) = false := beq_eq_false_iff_ne.2 hn0
      clear hfx hn0
      go_wp2_with fail
      go_at_call 46
      refine HP4.mono ?_
      rintro e w5 ⟨fo, fc, rfl, H5⟩
      cases hd : decide ((4 : Int) < (fl.length : Int))
      · rw [hd] at hr
        have HR : Hid (res = some fl) := hr
        clear hr
        go_wp2
        all_goals (refine bodyPost_ret (results_tmp2 rfl _ _ _) rfl ?_; rw [HR.out]; exact ⟨⟨_, rfl, H5.out.1, fun e => by cases e⟩, H5.out.2⟩)
      · rw [hd] at hr
        have HR : Hid (res = none) := hr
        clear hr
        go_wp2
        all_goals (refine bodyPost_ret (results_tmp2 rfl _ _ _) rfl ?_; rw [HR.out]; exact ⟨⟨_, rfl, World.ownsRow_nil _ _ _ _, fun _ => rfl⟩, H5.out.2⟩)

end Go.Proofs.YtjakjbfeaiempaaDoor
