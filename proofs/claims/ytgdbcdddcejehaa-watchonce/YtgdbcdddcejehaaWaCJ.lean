/- What watch's isChange and the four kinds' isMetBy answer. -/
import Derived.Test.YtgdbcdddcejehaaWaBJ
namespace Go.Proofs.Ytgdbcdddcejehaa
open Go.RowKit Go.Shelf
set_option maxRecDepth 8000

theorem isOfNode_any (c : ChT) (w : World) :
    Calls Try.prog 75 #[.agg (chCs c)] w fun e w' => e = .returned (.bool (c.1 != 4)) ∧ Below w.heap.size w w' := by
  have HB : Hid (Below w.heap.size w (w.alloc (.cells (chCs c) 32))) := (Below.refl _ w).alloc (Nat.le_refl _) _
  cases h : (c.1 != 4)
  · go_enter Try.func75, Try.ntmps75
    go_wp2
    all_goals (go_ret; exact ⟨rfl, HB.out⟩)
  · go_enter Try.func75, Try.ntmps75
    go_wp2
    all_goals (go_ret; exact ⟨rfl, HB.out⟩)

set_option maxHeartbeats 1000000 in
theorem isChange_any (c : ChT) (w : World) (hl : c.2.size ≤ 4294967296) :
    Calls Try.prog 23 #[.agg (chCs c)] w fun e w' => e = .returned (.bool (chOk c)) ∧ Below w.heap.size w w' := by
  obtain ⟨kd, p⟩ := c
  have hB : Below w.heap.size w (w.alloc (.cells (chCs (kd, p)) 32)) := (Below.refl _ w).alloc (Nat.le_refl _) _
  have HB0 : Hid (Below w.heap.size w (w.alloc (.cells (chCs (kd, p)) 32))) := hB
  have HC : Hid (Calls Try.prog 28 #[.string p] (w.alloc (.cells (chCs (kd, p)) 32)) fun e w' => e = .returned (.bool (isPb p.data.toList)) ∧ Hid (Below w.heap.size w w')) :=
    (wIsPath_any p _ hl).mono (fun e w' hh => ⟨hh.1, hB.trans (hh.2.mono hB.size)⟩)
  clear hB
  by_cases h1 : 1 ≤ kd
  · have d1 : decide (1 ≤ kd) = true := by simpa using h1
    by_cases h4 : kd ≤ 4
    · have d4 : decide (kd ≤ 4) = true := by simpa using h4
      have hv : chOk (kd, p) = isPb p.data.toList := by unfold chOk; rw [d1, d4]; rfl
      rw [hv]
      generalize isPb p.data.toList = b at *
      clear hv h1 h4
      go_enter Try.func23, Try.ntmps23
      go_wp2_with (go_at_call 28; refine Calls.mono HC.out ?_; rintro e w1 ⟨rfl, HB⟩)
      all_goals (go_ret; exact ⟨rfl, HB.out⟩)
    · have d4 : decide (kd ≤ 4) = false := by simpa using h4
      have hv : chOk (kd, p) = false := by unfold chOk; rw [d1, d4]; rfl
      rw [hv]
      clear hv h1 h4 HC
      go_enter Try.func23, Try.ntmps23
      go_wp2
      all_goals (go_ret; exact ⟨rfl, HB0.out⟩)
  · have d1 : decide (1 ≤ kd) = false := by simpa using h1
    have hv : chOk (kd, p) = false := by unfold chOk; rw [d1]; rfl
    rw [hv]
    clear hv h1 HC
    go_enter Try.func23, Try.ntmps23
    go_wp2
    all_goals (go_ret; exact ⟨rfl, HB0.out⟩)

/-- Is it this path that changes? -/
def smP (c : ChT) (p : ByteArray) : Bool := c.2.toList == p.toList

set_option maxHeartbeats 1000000 in
theorem metData (c : ChT) (p : ByteArray) (w : World) :
    Calls Try.prog 74 #[.agg #[.string p], .agg (chCs c)] w fun e w' => e = .returned (.bool (smP c p && (c.1 != 4))) ∧ Below w.heap.size w w' := by
  obtain ⟨kd, q⟩ := c
  have hB : Below w.heap.size w ((w.alloc (.cells #[.string p] 61)).alloc (.cells (chCs (kd, q)) 32)) := ((Below.refl _ w).alloc (Nat.le_refl _) _).alloc (by simp) _
  have HB0 : Hid (Below w.heap.size w ((w.alloc (.cells #[.string p] 61)).alloc (.cells (chCs (kd, q)) 32))) := hB
  have HC : Hid (Calls Try.prog 75 #[.agg (chCs (kd, q))] ((w.alloc (.cells #[.string p] 61)).alloc (.cells (chCs (kd, q)) 32)) fun e w' => e = .returned (.bool (kd != 4)) ∧ Hid (Below w.heap.size w w')) :=
    (isOfNode_any (kd, q) _).mono (fun e w' hh => ⟨hh.1, hB.trans (hh.2.mono hB.size)⟩)
  clear hB
  show Calls _ _ _ _ (fun e w' => e = .returned (.bool (smP (kd, q) p && (kd != 4))) ∧ _)
  generalize (kd != 4) = b at *
  cases hs : smP (kd, q) p
  · have hq : (q.toList == p.toList) = false := hs
    rw [Bool.false_and]
    clear hs HC
    go_enter Try.func74, Try.ntmps74
    go_wp2
    all_goals (go_ret; exact ⟨rfl, HB0.out⟩)
  · have hq : (q.toList == p.toList) = true := hs
    rw [Bool.true_and]
    clear hs
    go_enter Try.func74, Try.ntmps74
    go_wp2_with (go_at_call 75; refine Calls.mono HC.out ?_; rintro e w1 ⟨rfl, HB⟩)
    all_goals (go_ret; exact ⟨rfl, HB.out⟩)

set_option maxHeartbeats 1000000 in
theorem metChild (c : ChT) (p : ByteArray) (w : World) :
    Calls Try.prog 76 #[.agg #[.string p], .agg (chCs c)] w fun e w' => e = .returned (.bool (smP c p && ((c.1 == 2) || (c.1 == 4)))) ∧ Below w.heap.size w w' := by
  obtain ⟨kd, q⟩ := c
  have HB0 : Hid (Below w.heap.size w ((w.alloc (.cells #[.string p] 62)).alloc (.cells (chCs (kd, q)) 32))) := ((Below.refl _ w).alloc (Nat.le_refl _) _).alloc (by simp) _
  show Calls _ _ _ _ (fun e w' => e = .returned (.bool (smP (kd, q) p && ((kd == 2) || (kd == 4)))) ∧ _)
  cases hs : smP (kd, q) p
  · have hq : (q.toList == p.toList) = false := hs
    rw [Bool.false_and]
    clear hs
    go_enter Try.func76, Try.ntmps76
    go_wp2
    all_goals (go_ret; exact ⟨rfl, HB0.out⟩)
  · have hq : (q.toList == p.toList) = true := hs
    rw [Bool.true_and]
    clear hs
    cases h2 : (kd == 2)
    · cases h4 : (kd == 4)
      · go_enter Try.func76, Try.ntmps76
        go_wp2
        all_goals (go_ret; exact ⟨rfl, HB0.out⟩)
      · go_enter Try.func76, Try.ntmps76
        go_wp2
        all_goals (go_ret; exact ⟨rfl, HB0.out⟩)
    · go_enter Try.func76, Try.ntmps76
      go_wp2
      all_goals (go_ret; exact ⟨by simp, HB0.out⟩)

theorem metStay (c : ChT) (p : ByteArray) (w : World) :
    Calls Try.prog 77 #[.agg #[.string p], .agg (chCs c)] w fun e w' => e = .returned (.bool (smP c p)) ∧ Below w.heap.size w w' := by
  obtain ⟨kd, q⟩ := c
  have HB0 : Hid (Below w.heap.size w ((w.alloc (.cells #[.string p] 63)).alloc (.cells (chCs (kd, q)) 32))) := ((Below.refl _ w).alloc (Nat.le_refl _) _).alloc (by simp) _
  cases hs : smP (kd, q) p
  · have hq : (q.toList == p.toList) = false := hs
    clear hs
    go_enter Try.func77, Try.ntmps77
    go_wp2
    all_goals (go_ret; exact ⟨rfl, HB0.out⟩)
  · have hq : (q.toList == p.toList) = true := hs
    clear hs
    go_enter Try.func77, Try.ntmps77
    go_wp2
    all_goals (go_ret; exact ⟨rfl, HB0.out⟩)

set_option maxHeartbeats 1000000 in
theorem metBelow (c : ChT) (p : ByteArray) (w : World) (hl : c.2.size ≤ 4294967296) :
    Calls Try.prog 78 #[.agg #[.string p], .agg (chCs c)] w fun e w' => e = .returned (.bool ((c.1 != 4) && (smP c p || belowB c.2.data.toList p.data.toList))) ∧ Below w.heap.size w w' := by
  obtain ⟨kd, q⟩ := c
  have hB : Below w.heap.size w ((w.alloc (.cells #[.string p] 64)).alloc (.cells (chCs (kd, q)) 32)) := ((Below.refl _ w).alloc (Nat.le_refl _) _).alloc (by simp) _
  have n0 : ((w.alloc (.cells #[.string p] 64)).alloc (.cells (chCs (kd, q)) 32)).heap[w.heap.size]? = some (.cells #[.string p] 64 (0, 0)) := by
    rw [Below.heap_alloc _ _ _ (by simp)]; exact heap_alloc_new _ _
  have n1 : ((w.alloc (.cells #[.string p] 64)).alloc (.cells (chCs (kd, q)) 32)).heap[w.heap.size + 1]? = some (.cells (chCs (kd, q)) 32 (0, 0)) := by
    have := heap_alloc_new (w.alloc (.cells #[.string p] 64)) (.cells (chCs (kd, q)) 32); rwa [World.size_alloc] at this
  have HC : Hid (Calls Try.prog 75 #[.agg (chCs (kd, q))] ((w.alloc (.cells #[.string p] 64)).alloc (.cells (chCs (kd, q)) 32)) fun e w' => e = .returned (.bool (kd != 4)) ∧ w'.heap[w.heap.size]? = some (.cells #[.string p] 64 (0, 0)) ∧ w'.heap[w.heap.size + 1]? = some (.cells (chCs (kd, q)) 32 (0, 0)) ∧ Hid (Below w.heap.size w w')) :=
    (isOfNode_any (kd, q) _).mono (fun e w' hh => ⟨hh.1, (hh.2.block _ (by simp; omega)).trans n0, (hh.2.block _ (by simp)).trans n1, hB.trans (hh.2.mono hB.size)⟩)
  have HD : Hid (∀ V, Below w.heap.size w V → Calls Try.prog 79 #[.string q, .string p] V fun e w' => e = .returned (.bool (belowB q.data.toList p.data.toList)) ∧ Hid (Below w.heap.size w w')) := fun V hV => by
    refine (below_any q p V hl).mono (fun e w' hh => ⟨?_, hV.trans (hh.2.mono hV.size)⟩)
    rw [← below_doc _ _ (by rw [← size_list]; exact hl)]
    exact hh.1
  clear hB n0 n1
  show Calls _ _ _ _ (fun e w' => e = .returned (.bool ((kd != 4) && (smP (kd, q) p || belowB q.data.toList p.data.toList))) ∧ _)
  generalize belowB q.data.toList p.data.toList = bb at *
  cases hk : (kd != 4)
  · rw [hk] at HC
    rw [Bool.false_and]
    clear hk HD
    go_enter Try.func78, Try.ntmps78
    go_wp2_with fail
    refine Calls.mono HC.out ?_
    rintro e w1 ⟨rfl, n0, n1, HB⟩
    clear HC
    go_wp2
    all_goals (go_ret; exact ⟨rfl, HB.out⟩)
  · rw [hk] at HC
    rw [Bool.true_and]
    clear hk
    cases hs : smP (kd, q) p
    · have hq : (q.toList == p.toList) = false := hs
      rw [Bool.false_or]
      clear hs
      go_enter Try.func78, Try.ntmps78
      go_wp2_with fail
      refine Calls.mono HC.out ?_
      rintro e w1 ⟨rfl, n0, n1, HB⟩
      clear HC
      have z0 := lt_of_block n0
      have z1 := lt_of_block n1
      have c0 := cell_of_row w1 w.heap.size 0 _ _ _ n0
      have c1 := cell_of_row w1 (w.heap.size + 1) 1 _ _ _ n1
      clear n0 n1
      go_wp2_with (go_at_call 79; refine Calls.mono (HD.out _ HB.out) ?_; rintro e w2 ⟨rfl, HB2⟩)
      all_goals (go_ret; exact ⟨rfl, HB2.out⟩)
    · have hq : (q.toList == p.toList) = true := hs
      rw [Bool.true_or]
      clear hs
      go_enter Try.func78, Try.ntmps78
      go_wp2_with fail
      refine Calls.mono HC.out ?_
      rintro e w1 ⟨rfl, n0, n1, HB⟩
      clear HC
      have z0 := lt_of_block n0
      have z1 := lt_of_block n1
      have c0 := cell_of_row w1 w.heap.size 0 _ _ _ n0
      have c1 := cell_of_row w1 (w.heap.size + 1) 1 _ _ _ n1
      clear n0 n1
      go_wp2
      all_goals (go_ret; exact ⟨rfl, HB.out⟩)

end Go.Proofs.Ytgdbcdddcejehaa
