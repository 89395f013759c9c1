/- What a board's Fire answers; whether lives of the statements of layer 18 is true. -/
import Derived.Test.YtgdbcdddcejehaaWaMJ
import Derived.Test.YtgdbcdddcejehaaWaFJ
namespace Go.Proofs.Ytgdbcdddcejehaa
open Go.RowKit Go.Shelf
set_option maxRecDepth 8000
set_option linter.unusedSimpArgs false

set_option maxHeartbeats 1000000 in
theorem fire_no {w : World} {b m : Nat} {v : Value} {l l' : List WaT} (c : ChT) (h : Bo w b m v l l') (hcl : c.2.size ≤ 4294967296) (hc : chOk c = false) :
    Calls Try.prog 12 #[.pointer (some ⟨b, 0, none⟩), .agg (chCs c)] w fun e w' => e = .returned (.slice none 0 0) ∧ Below w.heap.size w w' := by
  have hB : Below w.heap.size w (w.alloc (.cells (chCs c) 32)) := (Below.refl _ w).alloc (Nat.le_refl _) _
  have HN : Hid (Calls Try.prog 20 #[.pointer (some ⟨b, 0, none⟩)] (w.alloc (.cells (chCs c) 32)) fun e w' => e = .returned (.bool false) ∧ w' = (w.alloc (.cells (chCs c) 32))) := isNone_no (h.below hB)
  have HC : Hid (Calls Try.prog 23 #[.agg (chCs c)] (w.alloc (.cells (chCs c) 32)) fun e w' => e = .returned (.bool false) ∧ Hid (Below w.heap.size w w')) := by
    refine (isChange_any c _ hcl).mono (fun e w' hh => ⟨?_, hB.trans (hh.2.mono hB.size)⟩)
    have := hh.1
    rw [hc] at this
    exact this
  clear hB h hc
  go_enter Try.func12, Try.ntmps12
  go_wp2_with fail
  refine Calls.mono HN.out ?_
  rintro e w1 ⟨rfl, rfl⟩
  clear HN
  go_wp2_with fail
  go_at_call 23
  refine Calls.mono HC.out ?_
  rintro e w2 ⟨rfl, HB⟩
  clear HC
  go_wp2
  all_goals (go_ret; exact ⟨rfl, HB.out⟩)

set_option maxHeartbeats 1000000 in
theorem fire_yes {w : World} {b m : Nat} {v : Value} {l : List WaT} (c : ChT) (h : Bo w b m v l l) (hl : l.length ≤ 1000) (hnd : l.Nodup) (hkk : ∀ x ∈ l, x.2.1 = 1 ∨ x.2.1 = 2 ∨ x.2.1 = 3 ∨ x.2.1 = 4) (hcl : c.2.size ≤ 4294967296) (hc : chOk c = true) :
    Calls Try.prog 12 #[.pointer (some ⟨b, 0, none⟩), .agg (chCs c)] w fun e w' => ∃ u, e = .returned u ∧ w'.ownsRow w.heap.size 44 5 u (l.filter (metB c)).length (fiFlat c (l.filter (metB c))) ∧ ∃ v', Bo w' b m v' (l.filter (stayB c)) (l.filter (stayB c)) ∧ Kept w w' (Ft b m v) ∧ v'.ownBlock = v.ownBlock := by
  have hB : Below w.heap.size w (w.alloc (.cells (chCs c) 32)) := (Below.refl _ w).alloc (Nat.le_refl _) _
  have hbx : (w.alloc (.cells (chCs c) 32)).heap[w.heap.size]? = some (.cells (chCs c) 32 (0, 0)) := heap_alloc_new w _
  have HN : Hid (Calls Try.prog 20 #[.pointer (some ⟨b, 0, none⟩)] (w.alloc (.cells (chCs c) 32)) fun e w' => e = .returned (.bool false) ∧ w' = (w.alloc (.cells (chCs c) 32))) := isNone_no (h.below hB)
  have HC : Hid (Calls Try.prog 23 #[.agg (chCs c)] (w.alloc (.cells (chCs c) 32)) fun e w' => e = .returned (.bool true) ∧ Hid (Below w.heap.size w w' ∧ w'.heap[w.heap.size]? = some (.cells (chCs c) 32 (0, 0)))) := by
    refine (isChange_any c _ hcl).mono (fun e w' hh => ⟨?_, hB.trans (hh.2.mono hB.size), box_later hbx hh.2⟩)
    have := hh.1
    rw [hc] at this
    exact this
  have HH : Hid (Bo w b m v l l ∧ l.length ≤ 1000 ∧ l.Nodup ∧ (∀ x ∈ l, x.2.1 = 1 ∨ x.2.1 = 2 ∨ x.2.1 = 3 ∨ x.2.1 = 4) ∧ c.2.size ≤ 4294967296) := ⟨h, hl, hnd, hkk, hcl⟩
  clear hB h hc hbx hl hnd hkk hcl
  go_enter Try.func12, Try.ntmps12
  go_wp2_with fail
  refine Calls.mono HN.out ?_
  rintro e w1 ⟨rfl, rfl⟩
  clear HN
  go_wp2_with fail
  go_at_call 23
  refine Calls.mono HC.out ?_
  rintro e w2 ⟨rfl, HB⟩
  clear HC
  have HM : Hid _ := meet_any c (HH.out.1.below HB.out.1) HH.out.2.1 HH.out.2.2.1 HH.out.2.2.2.1 HH.out.2.2.2.2
  have d0 := cell_of_row _ w.heap.size 0 _ _ _ HB.out.2
  have d1 := cell_of_row _ w.heap.size 1 _ _ _ HB.out.2
  have hz := lt_of_block HB.out.2
  go_wp2_with fail
  go_at_call 24
  refine Calls.mono HM.out ?_
  rintro e w3 ⟨u, rfl, ho3, h3, hk3⟩
  clear HM d0 d1 hz
  have HS : Hid _ := shrink_any h3 HH.out.2.1
  have H3 : Hid (w3.ownsRow w.heap.size 44 5 u (l.filter (metB c)).length (fiFlat c (l.filter (metB c))) ∧ Kept w w3 (Ft b m v) ∧ ∀ k, u.ownBlock = some k → ¬ Ft b m v k) := by
    have ho := row_base ho3 HB.out.1.size
    refine ⟨ho, ((Below.kept HB.out.1).mono (fun k h1 h2 => by omega)).trans (S' := fun k => k = m) hk3 (fun _ _ h => .inr (.inl h)), own_apart HH.out.1 ho⟩
  obtain ⟨uo, ln, uc, huu⟩ : ∃ a n c, u = .slice a n c := by
    obtain ⟨a, c, e⟩ := rowS ho3
    exact ⟨a, _, c, e⟩
  subst huu
  clear ho3 h3 hk3 HB HH
  go_wp2_with fail
  go_at_call 25
  refine Calls.mono HS.out ?_
  rintro e w4 ⟨rfl, v', h4, hk4, hv4⟩
  rw [keep_filter] at h4
  have HE : Hid (w4.ownsRow w.heap.size 44 5 (.slice uo ln uc) (l.filter (metB c)).length (fiFlat c (l.filter (metB c))) ∧ ∃ v', Bo w4 b m v' (l.filter (stayB c)) (l.filter (stayB c)) ∧ Kept w w4 (Ft b m v) ∧ v'.ownBlock = v.ownBlock) := ⟨rowK H3.out.1 hk4 H3.out.2.2, v', h4, H3.out.2.1.trans hk4 (fun _ _ h => h), hv4⟩
  clear HS h4 hk4 hv4 H3
  go_wp2
  all_goals (go_ret; exact ⟨_, rfl, HE.out⟩)

end Go.Proofs.Ytgdbcdddcejehaa
