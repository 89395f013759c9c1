/- What the document's Meets answers where not both ids are ips: the program's metD. -/
import Derived.Test.YtjakjbfeaiempaaDoorQcNJ
namespace Go.Proofs.YtjakjbfeaiempaaDoor
open Go.RowKit Go.Shelf
set_option maxRecDepth 8000

theorem rng_some (l : Bs) : (rngD l).isSome = (rngR l).isSome := by
  cases h : rngD l with
  | some x =>
    obtain ⟨ns, n⟩ := x
    rw [((rngD_rngR l).1 ns n h).1]
    rfl
  | none =>
    cases h2 : rngR l with
    | none => rfl
    | some y =>
      obtain ⟨a, n⟩ := y
      obtain ⟨ns, e, _⟩ := (rngD_rngR l).2 a n h2
      rw [h] at e
      cases e

theorem adr_some (l : Bs) : (adD l).isSome = adrB l := by
  unfold adrB
  cases h : adD l with
  | some ns =>
    obtain ⟨a, b, c, d, _, _, _, _, _, e⟩ := (adD_adr l).1 ns h
    rw [e]
    simp
  | none =>
    cases h2 : adr l 4 with
    | none => rfl
    | some y =>
      obtain ⟨a, p⟩ := y
      by_cases hp : p = l.length
      · subst hp
        obtain ⟨ns, e, _⟩ := (adD_adr l).2 a h2
        rw [h] at e
        cases e
      · simp [hp]

theorem enD_enR (sc nm : Bs) : enR sc nm = enD sc nm := by unfold enD enR; rw [rng_some]
theorem clD_clR (sc nm : Bs) : clR sc nm = clD sc nm := by unfold clD clR; rw [adr_some]

/-- Two ids held in two blocks behind a world. -/
def RefM (w : World) (es en ws wn : ByteArray) (V : World) : Prop := V.cell? ⟨w.heap.size, 0, none⟩ = some (.string es) ∧ V.cell? ⟨w.heap.size, 1, none⟩ = some (.string en) ∧ V.cell? ⟨w.heap.size + 1, 0, none⟩ = some (.string ws) ∧ V.cell? ⟨w.heap.size + 1, 1, none⟩ = some (.string wn) ∧ Below w.heap.size w V

theorem RefM.below {w : World} {es en ws wn : ByteArray} {V V' : World} (h : RefM w es en ws wn V) (hB : Below V.heap.size V V') : RefM w es en ws wn V' :=
  ⟨cell_below hB h.1, cell_below hB h.2.1, cell_below hB h.2.2.1, cell_below hB h.2.2.2.1, h.2.2.2.2.trans (hB.mono h.2.2.2.2.size)⟩

theorem RefM_new (w : World) (es en ws wn : ByteArray) : RefM w es en ws wn ((w.alloc (.cells #[.string es, .string en] 37)).alloc (.cells #[.string ws, .string wn] 37)) := by
  have h1 : ((w.alloc (.cells #[.string es, .string en] 37)).alloc (.cells #[.string ws, .string wn] 37)).heap[w.heap.size]? = some (.cells #[.string es, .string en] 37 (0, 0)) := by
    rw [Below.heap_alloc _ _ _ (by simp)]
    exact heap_alloc_new _ _
  have h2 : ((w.alloc (.cells #[.string es, .string en] 37)).alloc (.cells #[.string ws, .string wn] 37)).heap[w.heap.size + 1]? = some (.cells #[.string ws, .string wn] 37 (0, 0)) := alloc_newq (by simp)
  exact ⟨cell_of_row _ _ 0 _ _ _ h1, cell_of_row _ _ 1 _ _ _ h1, cell_of_row _ _ 0 _ _ _ h2, cell_of_row _ _ 1 _ _ _ h2, ((Below.refl _ _).alloc (Nat.le_refl _) _).alloc (by simp) _⟩

set_option maxHeartbeats 2000000 in
theorem refMeets_plain (es en ws wn : ByteArray) (hip : ¬ (es.data.toList = sIp ∧ ws.data.toList = sIp)) (hs : en.size ≤ 4294967296) (ht : wn.size ≤ 4294967296) (w : World) :
    Calls Tryd.prog 34 #[.agg #[.string es, .string en], .agg #[.string ws, .string wn]] w fun e w' => e = .returned (.bool (metD es.data.toList en.data.toList ws.data.toList wn.data.toList)) ∧ Below w.heap.size w w' := by
  obtain ⟨val, hval⟩ : ∃ val, val = metD es.data.toList en.data.toList ws.data.toList wn.data.toList := ⟨_, rfl⟩
  rw [← hval]
  have HE : Hid (Calls Tryd.prog 26 #[.agg #[.string es, .string en]] ((w.alloc (.cells #[.string es, .string en] 37)).alloc (.cells #[.string ws, .string wn] 37)) fun e w' => e = .returned (.bool (enD es.data.toList en.data.toList)) ∧ Hid (RefM w es en ws wn w')) :=
    (ofEntry_any es en hs _).mono (fun e w' hh => ⟨by rw [hh.1, enD_enR], (RefM_new w es en ws wn).below hh.2⟩)
  have HC : Hid (∀ V, RefM w es en ws wn V → Calls Tryd.prog 27 #[.agg #[.string ws, .string wn]] V fun e w' => e = .returned (.bool (clD ws.data.toList wn.data.toList)) ∧ Hid (RefM w es en ws wn w')) := fun V hV =>
    (ofClient_any ws wn ht V).mono (fun e w' hh => ⟨by rw [hh.1, clD_clR], hV.below hh.2⟩)
  unfold metD at hval
  have HV : Hid (val = (enD es.data.toList en.data.toList && clD ws.data.toList wn.data.toList && (if es.data.toList = sWorld then true else if es.data.toList = sIp then decide (ws.data.toList = sIp) && witD en.data.toList wn.data.toList else if es.data.toList = sName then decide (ws.data.toList = sName) && decide (en.data.toList = wn.data.toList) else false))) := hval
  have e0 := eqT es [119, 111, 114, 108, 100]
  have e1 := eqT es [105, 112]
  have e2 := eqT es [110, 97, 109, 101]
  have e3 := eqT ws [105, 112]
  cases hbe : enD es.data.toList en.data.toList
  · rw [hbe] at HE HV
    have hv : val = false := HV.out
    clear HV hval e0 e1 e2 e3
    subst hv
    go_enter Tryd.func34, Tryd.ntmps34
    go_wp2_with fail
    refine (HE.out).mono ?_
    rintro e w1 ⟨rfl, H1⟩
    have HC1 := HC.out w1 H1.out
    obtain ⟨q0, q1, q2, q3, _⟩ := H1.out
    go_wp2_with fail
    refine HC1.mono ?_
    rintro e w2 ⟨rfl, H2⟩
    clear q0 q1 q2 q3
    obtain ⟨q0, q1, q2, q3, _⟩ := H2.out
    go_wp2
    all_goals (go_ret; exact ⟨rfl, H2.out.2.2.2.2⟩)
  rw [hbe] at HE HV
  cases hbc : clD ws.data.toList wn.data.toList
  · rw [hbc] at HC HV
    have hv : val = false := HV.out
    clear HV hval e0 e1 e2 e3
    subst hv
    go_enter Tryd.func34, Tryd.ntmps34
    go_wp2_with fail
    refine (HE.out).mono ?_
    rintro e w1 ⟨rfl, H1⟩
    have HC1 := HC.out w1 H1.out
    obtain ⟨q0, q1, q2, q3, _⟩ := H1.out
    go_wp2_with fail
    refine HC1.mono ?_
    rintro e w2 ⟨rfl, H2⟩
    clear q0 q1 q2 q3
    obtain ⟨q0, q1, q2, q3, _⟩ := H2.out
    go_wp2
    all_goals (go_ret; exact ⟨rfl, H2.out.2.2.2.2⟩)
  rw [hbc] at HC HV
  go_enter Tryd.func34, Tryd.ntmps34
  go_wp2_with fail
  refine (HE.out).mono ?_
  rintro e w1 ⟨rfl, H1⟩
  have HC1 := HC.out w1 H1.out
  obtain ⟨q0, q1, q2, q3, _⟩ := H1.out
  go_wp2_with fail
  refine HC1.mono ?_
  rintro e w2 ⟨rfl, H2⟩
  clear q0 q1 q2 q3 HC1 HE HC H1
  obtain ⟨q0, q1, q2, q3, _⟩ := H2.out
  by_cases h0 : es.data.toList = sWorld
  · rw [decide_eq_true (show es.data.toList = [119, 111, 114, 108, 100] from h0)] at e0
    have HX : Hid (val = true) := by show _ = _; rw [HV.out, if_pos h0]; rfl
    clear h0 hval HV e1 e2 e3
    go_wp2
    all_goals (go_ret; exact ⟨by rw [HX.out]; rfl, H2.out.2.2.2.2⟩)
  rw [decide_eq_false (show ¬ es.data.toList = [119, 111, 114, 108, 100] from h0)] at e0
  by_cases h1 : es.data.toList = sIp
  · have hn : es.data.toList ≠ sName := by rw [h1]; decide
    rw [decide_eq_true (show es.data.toList = [105, 112] from h1)] at e1
    rw [decide_eq_false (show ¬ es.data.toList = [110, 97, 109, 101] from hn)] at e2
    by_cases h3 : ws.data.toList = sIp
    · exact absurd ⟨h1, h3⟩ hip
    · rw [decide_eq_false (show ¬ ws.data.toList = [105, 112] from h3)] at e3
      have HX : Hid (val = false) := by show _ = _; rw [HV.out, if_neg h0, if_pos h1, decide_eq_false h3]; simp
      clear h0 h1 h3 hn hval HV
      go_wp2
      all_goals (go_ret; exact ⟨by rw [HX.out]; rfl, H2.out.2.2.2.2⟩)
  rw [decide_eq_false (show ¬ es.data.toList = [105, 112] from h1)] at e1
  by_cases h2 : es.data.toList = sName
  · rw [decide_eq_true (show es.data.toList = [110, 97, 109, 101] from h2)] at e2
    have HX : Hid (val = decide (ws = es ∧ wn = en)) := by
      show _ = _
      rw [HV.out, if_neg h0, if_neg h1, if_pos h2]
      have a1 : (ws = es) ↔ ws.data.toList = sName := ⟨fun e => by rw [e]; exact h2, fun e => ba_ext (e.trans h2.symm)⟩
      have a2 : (wn = en) ↔ en.data.toList = wn.data.toList := ⟨fun e => by rw [e], fun e => ba_ext e.symm⟩
      simp only [Bool.true_and, a1, a2, Bool.decide_and]
    clear h0 h1 h2 hval HV e3
    go_wp2
    · rename_i g1 g2
      go_ret
      exact ⟨by rw [HX.out, decide_eq_true ⟨ba_ext (by rw [← Lib.toList_data, ← Lib.toList_data]; exact g1), ba_ext (by rw [← Lib.toList_data, ← Lib.toList_data]; exact g2)⟩]; rfl, H2.out.2.2.2.2⟩
    · rename_i g1 g2
      go_ret
      exact ⟨by rw [HX.out, decide_eq_false (fun h => g2 (by rw [h.2]))]; rfl, H2.out.2.2.2.2⟩
    · rename_i g1
      go_ret
      exact ⟨by rw [HX.out, decide_eq_false (fun h => g1 (by rw [h.1]))]; rfl, H2.out.2.2.2.2⟩
  · rw [decide_eq_false (show ¬ es.data.toList = [110, 97, 109, 101] from h2)] at e2
    have HX : Hid (val = false) := by show _ = _; rw [HV.out, if_neg h0, if_neg h1, if_neg h2]; rfl
    clear h0 h1 h2 hval HV e3
    go_wp2
    all_goals (go_ret; exact ⟨by rw [HX.out]; rfl, H2.out.2.2.2.2⟩)

end Go.Proofs.YtjakjbfeaiempaaDoor
