/- The calls of a nil board and of a plain one; WatchNil's walk. -/
import Derived.Test.YtgdbcdddcejehaaWaO
namespace Go.Proofs.Ytgdbcdddcejehaa
open Go.RowKit Go.Shelf
set_option maxRecDepth 8000
set_option linter.unusedSimpArgs false

/-- A board that New did not make. -/
def Pl (w : World) (b : Nat) : Prop := w.heap[b]? = some (.cells #[.slice none 0 0, .map none] 51 (0, 0))

theorem isNone_nil (w : World) : Calls Try.prog 20 #[.pointer none] w fun e w' => e = .returned (.bool true) ∧ w' = w := by
  go_enter Try.func20, Try.ntmps20
  go_wp2
  all_goals (go_ret; exact ⟨rfl, rfl⟩)

theorem isNone_pl {w : World} {b : Nat} (h : Pl w b) : Calls Try.prog 20 #[.pointer (some ⟨b, 0, none⟩)] w fun e w' => e = .returned (.bool true) ∧ w' = w := by
  have c1 := cell_of_row w b 1 _ _ _ h
  have hz := lt_of_block h
  have hn : (binOp .eql 49 (.map none) (.map none)).run Try.prog w = .ok (.bool true) w := mapNil _ w
  clear h
  go_enter Try.func20, Try.ntmps20
  go_wp2
  all_goals (go_ret; exact ⟨rfl, rfl⟩)

/-- A pointer to no board. -/
def NoB (w : World) (q : Option Addr) : Prop := q = none ∨ ∃ b, q = some ⟨b, 0, none⟩ ∧ Pl w b
theorem NoB.below {w w' : World} {q : Option Addr} (h : NoB w q) (hB : Below w.heap.size w w') : NoB w' q := by
  rcases h with rfl | ⟨b, rfl, hb⟩
  · exact .inl rfl
  · exact .inr ⟨b, rfl, box_later hb hB⟩
theorem isNone_yes {w : World} {q : Option Addr} (h : NoB w q) : Calls Try.prog 20 #[.pointer q] w fun e w' => e = .returned (.bool true) ∧ w' = w := by
  rcases h with rfl | ⟨b, rfl, hb⟩
  · exact isNone_nil w
  · exact isNone_pl hb

theorem add_none {w : World} {q : Option Addr} (x : WaT) (h : NoB w q) : Calls Try.prog 9 #[.pointer q, .agg (waCs x)] w fun e w' => e = .returned (.int .i64 1) ∧ Below w.heap.size w w' := by
  have hB : Below w.heap.size w (w.alloc (.cells (waCs x) 30)) := (Below.refl _ w).alloc (Nat.le_refl _) _
  have HN : Hid _ := isNone_yes (h.below hB)
  have HB : Hid (Below w.heap.size w (w.alloc (.cells (waCs x) 30))) := hB
  clear hB h
  go_enter Try.func9, Try.ntmps9
  go_wp2_with fail
  refine Calls.mono HN.out ?_
  rintro e w1 ⟨rfl, hw1⟩
  rw [hw1]
  clear HN hw1 w1
  go_wp2
  all_goals (go_ret; exact ⟨rfl, HB.out⟩)

theorem fire_none {w : World} {q : Option Addr} (c : ChT) (h : NoB w q) : Calls Try.prog 12 #[.pointer q, .agg (chCs c)] w fun e w' => e = .returned (.slice none 0 0) ∧ Below w.heap.size w w' := by
  have hB : Below w.heap.size w (w.alloc (.cells (chCs c) 32)) := (Below.refl _ w).alloc (Nat.le_refl _) _
  have HN : Hid _ := isNone_yes (h.below hB)
  have HB : Hid (Below w.heap.size w (w.alloc (.cells (chCs c) 32))) := hB
  clear hB h
  go_enter Try.func12, Try.ntmps12
  go_wp2_with fail
  refine Calls.mono HN.out ?_
  rintro e w1 ⟨rfl, hw1⟩
  rw [hw1]
  clear HN hw1 w1
  go_wp2
  all_goals (go_ret; exact ⟨rfl, HB.out⟩)

theorem drop_none {w : World} {q : Option Addr} (c : Int) (h : NoB w q) : Calls Try.prog 19 #[.pointer q, .int .i64 c] w fun e w' => e = .returned (.slice none 0 0) ∧ w' = w := by
  have HN : Hid _ := isNone_yes h
  clear h
  go_enter Try.func19, Try.ntmps19
  go_wp2_with fail
  refine Calls.mono HN.out ?_
  rintro e w1 ⟨rfl, hw1⟩
  rw [hw1]
  clear HN hw1 w1
  go_wp2
  all_goals (go_ret; exact ⟨rfl, rfl⟩)

theorem clear_none {w : World} {q : Option Addr} (h : NoB w q) : Calls Try.prog 18 #[.pointer q] w fun e w' => e = .returned (.slice none 0 0) ∧ w' = w := by
  have HN : Hid _ := isNone_yes h
  clear h
  go_enter Try.func18, Try.ntmps18
  go_wp2_with fail
  refine Calls.mono HN.out ?_
  rintro e w1 ⟨rfl, hw1⟩
  rw [hw1]
  clear HN hw1 w1
  go_wp2
  all_goals (go_ret; exact ⟨rfl, rfl⟩)

theorem all_none {w : World} {q : Option Addr} (h : NoB w q) : Calls Try.prog 16 #[.pointer q] w fun e w' => e = .returned (.slice none 0 0) ∧ w' = w := by
  have HN : Hid _ := isNone_yes h
  clear h
  go_enter Try.func16, Try.ntmps16
  go_wp2_with fail
  refine Calls.mono HN.out ?_
  rintro e w1 ⟨rfl, hw1⟩
  rw [hw1]
  clear HN hw1 w1
  go_wp2
  all_goals (go_ret; exact ⟨rfl, rfl⟩)

theorem watchNil_far {cl kd ck : Int} {p q : ByteArray} (w : World) (h : 2147483647 < p.size ∨ 2147483647 < q.size) : Calls Try.prog 5 #[.agg (waCs (cl, kd, p)), .agg (chCs (ck, q))] w fun e w' => e = .returned (.bool true) ∧ Below w.heap.size w w' := by
  have HB : Hid (Below w.heap.size w ((w.alloc (.cells (waCs (cl, kd, p)) 30)).alloc (.cells (chCs (ck, q)) 32))) := ((Below.refl _ w).alloc (Nat.le_refl _) _).alloc (by simp) _
  by_cases h1 : 2147483647 < p.size
  · have d1 : decide ((2147483647 : Int) < (p.size : Int)) = true := by simp; omega
    clear h h1
    go_enter Try.func5, Try.ntmps5
    go_wp2
    all_goals (go_ret; exact ⟨rfl, HB.out⟩)
  · have d1 : decide ((2147483647 : Int) < (p.size : Int)) = false := by simp; omega
    have d2 : decide ((2147483647 : Int) < (q.size : Int)) = true := by simp; omega
    clear h h1
    go_enter Try.func5, Try.ntmps5
    go_wp2
    all_goals (go_ret; exact ⟨rfl, HB.out⟩)

set_option maxHeartbeats 2000000 in
theorem watchNil_near {cl kd ck : Int} {p q : ByteArray} (w : World) (h1 : p.size ≤ 2147483647) (h2 : q.size ≤ 2147483647) : Calls Try.prog 5 #[.agg (waCs (cl, kd, p)), .agg (chCs (ck, q))] w fun e w' => e = .returned (.bool true) ∧ Below w.heap.size w w' := by
  have hB : Below w.heap.size w ((w.alloc (.cells (waCs (cl, kd, p)) 30)).alloc (.cells (chCs (ck, q)) 32)) := ((Below.refl _ w).alloc (Nat.le_refl _) _).alloc (by simp) _
  have n0 : ((w.alloc (.cells (waCs (cl, kd, p)) 30)).alloc (.cells (chCs (ck, q)) 32)).heap[w.heap.size]? = some (.cells (waCs (cl, kd, p)) 30 (0, 0)) := by
    rw [Below.heap_alloc _ _ _ (by simp)]; exact heap_alloc_new _ _
  have n1 : ((w.alloc (.cells (waCs (cl, kd, p)) 30)).alloc (.cells (chCs (ck, q)) 32)).heap[w.heap.size + 1]? = some (.cells (chCs (ck, q)) 32 (0, 0)) := by
    have := heap_alloc_new (w.alloc (.cells (waCs (cl, kd, p)) 30)) (.cells (chCs (ck, q)) 32); rwa [World.size_alloc] at this
  have d1 : decide ((2147483647 : Int) < (p.size : Int)) = false := by simp; omega
  have d2 : decide ((2147483647 : Int) < (q.size : Int)) = false := by simp; omega
  clear h1 h2
  have HV : Hid (Below w.heap.size w ((w.alloc (.cells (waCs (cl, kd, p)) 30)).alloc (.cells (chCs (ck, q)) 32)) ∧ ((w.alloc (.cells (waCs (cl, kd, p)) 30)).alloc (.cells (chCs (ck, q)) 32)).heap[w.heap.size]? = some (.cells (waCs (cl, kd, p)) 30 (0, 0)) ∧ ((w.alloc (.cells (waCs (cl, kd, p)) 30)).alloc (.cells (chCs (ck, q)) 32)).heap[w.heap.size + 1]? = some (.cells (chCs (ck, q)) 32 (0, 0))) := ⟨hB, n0, n1⟩
  clear hB n0 n1
  go_enter Try.func5, Try.ntmps5
  go_upto_region 4 with fail
  generalize (w.alloc (.cells (waCs (cl, kd, p)) 30)).alloc (.cells (chCs (ck, q)) 32) = V at *
  have c0 := cell_of_row _ w.heap.size 0 _ _ _ HV.out.2.1
  have c1 := cell_of_row _ w.heap.size 1 _ _ _ HV.out.2.1
  have c2 := cell_of_row _ w.heap.size 2 _ _ _ HV.out.2.1
  have z0 := lt_of_block HV.out.2.1
  go_wp2_with fail
  go_at_call 9
  refine (add_none (cl, kd, p) (.inl rfl)).mono ?_
  rintro e V1 ⟨rfl, b1⟩
  clear c0 c1 c2 z0
  have HV1 : Hid (Below w.heap.size w V1 ∧ V1.heap[w.heap.size]? = some (.cells (waCs (cl, kd, p)) 30 (0, 0)) ∧ V1.heap[w.heap.size + 1]? = some (.cells (chCs (ck, q)) 32 (0, 0))) := ⟨HV.out.1.trans (b1.mono HV.out.1.size), box_later HV.out.2.1 b1, box_later HV.out.2.2 b1⟩
  clear HV b1
  have c0 := cell_of_row _ (w.heap.size + 1) 0 _ _ _ HV1.out.2.2
  have c1 := cell_of_row _ (w.heap.size + 1) 1 _ _ _ HV1.out.2.2
  have z0 := lt_of_block HV1.out.2.2
  go_wp2_with fail
  go_at_call 12
  refine (fire_none (ck, q) (.inl rfl)).mono ?_
  rintro e V2 ⟨rfl, b1⟩
  clear c0 c1 z0
  have HV2 : Hid (Below w.heap.size w V2 ∧ V2.heap[w.heap.size]? = some (.cells (waCs (cl, kd, p)) 30 (0, 0))) := ⟨HV1.out.1.trans (b1.mono HV1.out.1.size), box_later HV1.out.2.1 b1⟩
  clear HV1 b1
  have c0 := cell_of_row _ w.heap.size 0 _ _ _ HV2.out.2
  have c1 := cell_of_row _ w.heap.size 1 _ _ _ HV2.out.2
  have c2 := cell_of_row _ w.heap.size 2 _ _ _ HV2.out.2
  have z0 := lt_of_block HV2.out.2
  go_wp2_with fail
  go_at_call 19
  refine (drop_none cl (.inl rfl)).mono ?_
  rintro e V3 ⟨rfl, hV3⟩
  rw [hV3]
  clear hV3 V3
  go_wp2_with fail
  go_at_call 18
  refine (clear_none (.inl rfl)).mono ?_
  rintro e V3 ⟨rfl, hV3⟩
  rw [hV3]
  clear hV3 V3
  go_wp2_with fail
  go_at_call 16
  refine (all_none (.inl rfl)).mono ?_
  rintro e V3 ⟨rfl, hV3⟩
  rw [hV3]
  clear hV3 V3
  have B4 : Below V2.heap.size V2 (V2.alloc (.cells #[.slice none 0 0, .map none] 51)) := (Below.refl _ _).alloc (Nat.le_refl _) _
  have hp : Pl (V2.alloc (.cells #[.slice none 0 0, .map none] 51)) V2.heap.size := heap_alloc_new V2 _
  have HA : Hid _ := add_none (cl, kd, p) (.inr ⟨_, rfl, hp⟩)
  have HP : Hid (∀ V, Below (V2.alloc (.cells #[.slice none 0 0, .map none] 51)).heap.size (V2.alloc (.cells #[.slice none 0 0, .map none] 51)) V → NoB V (some ⟨V2.heap.size, 0, none⟩) ∧ Below w.heap.size w V) := fun V hV => ⟨.inr ⟨_, rfl, box_later hp hV⟩, (HV2.out.1.trans (B4.mono HV2.out.1.size)).trans (hV.mono (Nat.le_trans HV2.out.1.size B4.size))⟩
  clear B4 hp
  go_wp2_with fail
  go_at_call 9
  refine Calls.mono HA.out ?_
  rintro e V5 ⟨rfl, b5⟩
  have H5 : Hid (NoB V5 (some ⟨V2.heap.size, 0, none⟩) ∧ Below w.heap.size w V5) := HP.out V5 b5
  clear HA HP b5 HV2 c0 c1 c2 z0
  go_wp2_with fail
  go_at_call 16
  refine (all_none H5.out.1).mono ?_
  rintro e V6 ⟨rfl, hV6⟩
  rw [hV6]
  clear hV6 V6
  go_wp2_with fail
  go_at_call 7
  refine (lives18 V5).mono ?_
  rintro e V6 ⟨rfl, b6⟩
  have HE : Hid (Below w.heap.size w V6) := H5.out.2.trans (b6.mono H5.out.2.size)
  clear b6 H5
  go_wp2
  all_goals (go_ret; exact ⟨rfl, HE.out⟩)

theorem watchNil_walk (x : WaT) (c : ChT) (w : World) : Calls Try.prog 5 #[.agg (waCs x), .agg (chCs c)] w fun e w' => e = .returned (.bool true) ∧ Below w.heap.size w w' := by
  obtain ⟨cl, kd, p⟩ := x
  obtain ⟨ck, q⟩ := c
  by_cases h1 : 2147483647 < p.size
  · exact watchNil_far w (.inl h1)
  · by_cases h2 : 2147483647 < q.size
    · exact watchNil_far w (.inr h2)
    · exact watchNil_near w (by omega) (by omega)

end Go.Proofs.Ytgdbcdddcejehaa
