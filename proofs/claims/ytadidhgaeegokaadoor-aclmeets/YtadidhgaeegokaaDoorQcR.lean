/- The walk of AclMeets: every two ids. -/
import Derived.Test.YtadidhgaeegokaaDoorQcP
import Derived.Test.YtadidhgaeegokaaDoorQcQ
namespace Go.Proofs.YtadidhgaeegokaaDoor
open Go.RowKit Go.Shelf
set_option maxRecDepth 8000

/-- The list of the two ids behind their boxes. -/
abbrev twoW (w : World) (es en ws wn : ByteArray) : World := ((w.alloc (.cells #[.string es, .string en] 23)).alloc (.cells #[.string ws, .string wn] 23)).alloc (.cells #[.string es, .string en, .string ws, .string wn] 23)

theorem two_ref (w : World) (es en ws wn : ByteArray) : RefM w es en ws wn (twoW w es en ws wn) :=
  (RefM_new w es en ws wn).below ((Below.refl _ _).alloc (Nat.le_refl _) _)

theorem two_list (w : World) (es en ws wn : ByteArray) : SI (twoW w es en ws wn) (.slice (some ⟨w.heap.size + 1 + 1, 0, none⟩) 2 2) [(es, en), (ws, wn)] :=
  SI_row (l := [(es, en), (ws, wn)]) (b := w.heap.size + 1 + 1) (fr := (0, 0)) (t := 23) (alloc_newq (by simp))

theorem SE_nil (w : World) : SE w (.slice none 0 0) [] := ⟨none, 0, rfl, Nat.le_refl _, fun h => absurd rfl h⟩

set_option maxHeartbeats 1000000 in
theorem meets_walk (es en ws wn : ByteArray) (w : World) :
    Calls Tryd.prog 3 #[.agg #[.string es, .string en], .agg #[.string ws, .string wn]] w fun e w' => e = .returned (.bool true) ∧ Below w.heap.size w w' := by
  have HL : Hid (Calls Tryd.prog 5 #[.slice none 0 0, .slice (some ⟨w.heap.size + 1 + 1, 0, none⟩) 2 2] (twoW w es en ws wn) fun e w' => ∃ r, e = .returned (.bool r) ∧ Hid ((r = false → en.size ≤ 4294967296 ∧ wn.size ≤ 4294967296) ∧ RefM w es en ws wn w')) := by
    refine (long6_any _ _ [] [(es, en), (ws, wn)] _ (SE_nil _) (two_list w es en ws wn) (by simp) (by simp)).mono ?_
    rintro e w' ⟨r, rfl, hr, m, rfl⟩
    refine ⟨r, rfl, fun h => ?_, (two_ref w es en ws wn).below (below_drewN (Below.refl _ _) _)⟩
    have := hr h
    simp [bulkE, bulkI] at this
    omega
  go_enter Tryd.func3, Tryd.ntmps3
  go_wp2_with fail
  go_at_call 5
  refine HL.out.mono ?_
  rintro e w1 ⟨r, rfl, H1⟩
  clear HL
  obtain ⟨q0, q1, q2, q3, _⟩ := H1.out.2
  cases r
  · obtain ⟨hs, ht⟩ := H1.out.1 rfl
    go_wp2_with fail
    go_at_call 6
    refine (meets_gen es en ws wn hs ht _).mono ?_
    rintro e w2 ⟨rfl, hB⟩
    have H2 : Hid (RefM w es en ws wn w2) := H1.out.2.below hB
    clear q0 q1 q2 q3 hB H1
    have HR := refMeets_any es en ws wn hs ht w2
    generalize metD es.data.toList en.data.toList ws.data.toList wn.data.toList = bv at *
    obtain ⟨q0, q1, q2, q3, _⟩ := H2.out
    have hbb : (bv == bv) = true := by simp
    go_wp2_with fail
    go_at_call 7
    refine HR.mono ?_
    rintro e w3 ⟨rfl, hB⟩
    have H3 : Hid (RefM w es en ws wn w3) := H2.out.below hB
    clear q0 q1 q2 q3 hB HR H2
    go_wp2_with fail
    go_at_call 8
    refine (lives6_yes _).mono ?_
    rintro e w4 ⟨rfl, hB⟩
    have H4 : Hid (RefM w es en ws wn w4) := H3.out.below hB
    clear hB H3
    go_wp2
    go_ret
    exact ⟨rfl, H4.out.2.2.2.2⟩
  · go_wp2
    go_ret
    exact ⟨rfl, H1.out.2.2.2.2.2⟩

end Go.Proofs.YtadidhgaeegokaaDoor
