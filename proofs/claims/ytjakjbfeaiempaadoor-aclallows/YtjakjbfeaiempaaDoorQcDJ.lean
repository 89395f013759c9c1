/- What acl's Meets answers, for every two ids. -/
import Derived.Test.YtjakjbfeaiempaaDoorQcCJ
namespace Go.Proofs.YtjakjbfeaiempaaDoor
open Go.RowKit Go.Shelf
set_option maxRecDepth 8000

theorem ba_ext {a b : ByteArray} (h : a.data.toList = b.data.toList) : a = b := by
  cases a; cases b; simp at h; rw [h]

/-- An id of an entry, as the program tells it. -/
def enD (sc nm : Bs) : Bool := if sc = sWorld then decide (nm = sAny) else if sc = sIp then (rngD nm).isSome else if sc = sName then nmR nm else decide (sc = sAuth) && decide (nm = [])
/-- An id of a client, as the program tells it. -/
def clD (sc nm : Bs) : Bool := if sc = sIp then (adD nm).isSome else decide (sc = sName) && nmR nm

theorem isOfEntry_gen (sc nm : ByteArray) (hs : nm.size ≤ 4294967296) (w : World) : Calls Tryd.prog 37 #[.agg #[.string sc, .string nm]] w fun e w' => e = .returned (.bool (enD sc.data.toList nm.data.toList)) ∧ Below w.heap.size w w' := by
  by_cases h0 : sc.data.toList = worldB.data.toList
  · have h := isOfEntry_world nm w
    rw [ba_ext h0]
    exact h
  by_cases h1 : sc.data.toList = ipB.data.toList
  · have h := isOfEntry_ip nm hs w
    rw [ba_ext h1]
    exact h
  by_cases h2 : sc.data.toList = nameB.data.toList
  · have h := isOfEntry_name nm w
    rw [ba_ext h2]
    exact h
  by_cases h3 : sc.data.toList = authB.data.toList
  · have h := isOfEntry_auth nm w
    rw [ba_ext h3]
    exact h
  have h := isOfEntry_other sc nm h0 h1 h2 h3 w
  have e : enD sc.data.toList nm.data.toList = false := by
    unfold enD
    rw [if_neg (show ¬ sc.data.toList = sWorld from h0), if_neg (show ¬ sc.data.toList = sIp from h1), if_neg (show ¬ sc.data.toList = sName from h2), decide_eq_false (show ¬ sc.data.toList = sAuth from h3), Bool.false_and]
  rw [e]
  exact h

theorem isOfClient_gen (sc nm : ByteArray) (hs : nm.size ≤ 4294967296) (w : World) : Calls Tryd.prog 25 #[.agg #[.string sc, .string nm]] w fun e w' => e = .returned (.bool (clD sc.data.toList nm.data.toList)) ∧ Below w.heap.size w w' := by
  by_cases h1 : sc.data.toList = ipB.data.toList
  · have h := isOfClient_ip nm hs w
    rw [ba_ext h1]
    exact h
  by_cases h2 : sc.data.toList = nameB.data.toList
  · have h := isOfClient_name nm w
    rw [ba_ext h2]
    exact h
  have e : clD sc.data.toList nm.data.toList = false := by
    unfold clD
    rw [if_neg (show ¬ sc.data.toList = sIp from h1), decide_eq_false (show ¬ sc.data.toList = sName from h2), Bool.false_and]
  rw [e]
  by_cases h0 : sc.data.toList = worldB.data.toList
  · have h := isOfClient_world nm w
    rw [ba_ext h0]
    exact h
  by_cases h3 : sc.data.toList = authB.data.toList
  · have h := isOfClient_auth nm w
    rw [ba_ext h3]
    exact h
  exact isOfClient_other sc nm h0 h1 h2 h3 w

/-- Two ids in memory. -/
def PMg (es en ws wn : ByteArray) (w V : World) : Prop := V.heap[w.heap.size]? = some (.cells #[.string es, .string en] 37 (0, 0)) ∧ V.heap[w.heap.size + 1]? = some (.cells #[.string ws, .string wn] 37 (0, 0)) ∧ Below w.heap.size w V

theorem PMg.below {es en ws wn : ByteArray} {w V V' : World} (h : PMg es en ws wn w V) (hB : Below V.heap.size V V') : PMg es en ws wn w V' :=
  ⟨(hB.block _ (lt_of_block h.1)).trans h.1, (hB.block _ (lt_of_block h.2.1)).trans h.2.1, h.2.2.trans (hB.mono h.2.2.size)⟩

theorem PMg.cells {es en ws wn : ByteArray} {w V : World} (h : PMg es en ws wn w V) : V.cell? ⟨w.heap.size, 0, none⟩ = some (.string es) ∧ V.cell? ⟨w.heap.size, 1, none⟩ = some (.string en) ∧ V.cell? ⟨w.heap.size + 1, 0, none⟩ = some (.string ws) ∧ V.cell? ⟨w.heap.size + 1, 1, none⟩ = some (.string wn) :=
  ⟨cell_of_row V w.heap.size 0 _ _ _ h.1, cell_of_row V w.heap.size 1 _ _ _ h.1, cell_of_row V (w.heap.size + 1) 0 _ _ _ h.2.1, cell_of_row V (w.heap.size + 1) 1 _ _ _ h.2.1⟩

theorem PMg.start (es en ws wn : ByteArray) (w : World) : PMg es en ws wn w ((w.alloc (.cells #[.string es, .string en] 37)).alloc (.cells #[.string ws, .string wn] 37)).drew := by
  have hP : PMg es en ws wn w ((w.alloc (.cells #[.string es, .string en] 37)).alloc (.cells #[.string ws, .string wn] 37)) := ⟨by rw [Below.heap_alloc _ _ _ (by simp only [World.size_alloc]; omega)]; exact heap_alloc_new w _, alloc_newq (by simp only [World.size_alloc]), ((Below.refl _ w).alloc (Nat.le_refl _) _).alloc (by simp only [World.size_alloc]; omega) _⟩
  exact hP.below ⟨rfl, rfl, rfl, Nat.le_refl _, fun _ _ => rfl⟩

/-- What by's function answers of a client of another scheme. -/
theorem by1_no (en ws wn cs : ByteArray) (c : Nat) (w : World) (hc : w.cell? ⟨c, 0, none⟩ = some (.string cs)) (hne : ws.data.toList ≠ cs.data.toList) :
    Calls Tryd.prog 78 #[.string en, .agg #[.string ws, .string wn], .pointer (some ⟨c, 0, none⟩), .pointer (some ⟨c + 1, 0, none⟩)] w fun e w' => e = .returned (.bool false) ∧ Below w.heap.size w w' := by
  have hb : (ws.toList == cs.toList) = false := by rw [listB ws, listB cs, beq_eq_false_iff_ne]; exact hne
  have hcl : c < w.heap.size := World.block_lt_of_cell? w ⟨c, 0, none⟩ hc
  have HB : Hid (Below w.heap.size w (w.alloc (.cells #[.string ws, .string wn] 37))) := (Below.refl _ w).alloc (Nat.le_refl _) _
  clear hne
  go_enter Tryd.func78, Tryd.ntmps78
  go_wp2
  all_goals (go_ret; exact ⟨rfl, HB.out⟩)

set_option maxHeartbeats 1000000 in
/-- What by's function for names answers of a client's name. -/
theorem by1_name (en wn : ByteArray) (c : Nat) (w : World) (hC : Cau c w) (hz : c + 6 ≤ w.heap.size) :
    Calls Tryd.prog 78 #[.string en, .agg #[.string nameB, .string wn], .pointer (some ⟨c + 3, 0, none⟩), .pointer (some ⟨c + 3 + 1, 0, none⟩)] w fun e w' => e = .returned (.bool (decide (en.data.toList = wn.data.toList))) ∧ Below w.heap.size w w' := by
  obtain ⟨b, hb⟩ : ∃ b : Bool, b = decide (en.data.toList = wn.data.toList) := ⟨_, rfl⟩
  have HS : Hid (∀ V, Calls Tryd.prog 69 #[.string en, .string wn] V fun e w' => e = .returned (.bool b) ∧ w' = V) := fun V => by rw [hb]; exact isSame_any en wn V
  rw [← hb]
  clear hb
  have e2 : w.cell? ⟨c + 3, 0, none⟩ = some (.string nameB) := cell_of_row _ (c + 3) 0 _ _ _ hC.2.2.2.1
  have e3 : w.cell? ⟨c + 3 + 1, 0, none⟩ = some (fnV 69) := cell_of_row _ (c + 4) 0 _ _ _ hC.2.2.2.2.1
  have l1 : c + 3 < w.heap.size := by omega
  have l2 : c + 3 + 1 < w.heap.size := by omega
  have HB : Hid (Below w.heap.size w (w.alloc (.cells #[.string nameB, .string wn] 37))) := (Below.refl _ w).alloc (Nat.le_refl _) _
  clear hC
  go_enter Tryd.func78, Tryd.ntmps78
  go_wp2_with (go_at_call 69; refine (HS.out _).mono ?_; rintro e w4 ⟨rfl, rfl⟩)
  all_goals (go_ret; exact ⟨rfl, HB.out⟩)

set_option maxHeartbeats 1600000 in
theorem meets_e_no (es en ws wn : ByteArray) (hs : en.size ≤ 4294967296) (he : enD es.data.toList en.data.toList = false) (w : World) :
    Calls Tryd.prog 48 #[.agg #[.string es, .string en], .agg #[.string ws, .string wn]] w fun e w' => e = .returned (.bool false) ∧ Below w.heap.size w w' := by
  have HE : Hid (∀ V, Hid (PMg es en ws wn w V) → Calls Tryd.prog 37 #[.agg #[.string es, .string en]] V fun e w' => e = .returned (.bool false) ∧ Hid (PMg es en ws wn w w')) := fun V hV => by
    rw [← he]
    exact (isOfEntry_gen es en hs V).mono (fun e w' h => ⟨h.1, hV.out.below h.2⟩)
  have HW : Hid (PMg es en ws wn w ((w.alloc (.cells #[.string es, .string en] 37)).alloc (.cells #[.string ws, .string wn] 37)).drew) := PMg.start es en ws wn w
  clear he hs
  go_enter Tryd.func48, Tryd.ntmps48
  go_wp2_with fail
  refine wp_region_held_drew (S := fun w' => w'.cell? ⟨w.heap.size, 0, none⟩ = some (.string es) ∧ w'.cell? ⟨w.heap.size, 1, none⟩ = some (.string en) ∧ w'.cell? ⟨w.heap.size + 1, 0, none⟩ = some (.string ws) ∧ w'.cell? ⟨w.heap.size + 1, 1, none⟩ = some (.string wn)) (by kernel_rfl) ?_ (fun hHeld => ?_)
  · exact HW.out.cells
  refine wpAnyH_take (i := 0) (oi := { dst := some 5, op := Op.load 37 (Operand.tmp 2), type := 37, pos := "acl.go:49", after := #[], guard := none }) (v := ?_) rfl (by kernel_rfl) (by kernel_rfl) (by kernel_rfl) (fun _ _ _ h => h) (Or.inl ⟨by rfl, ?_⟩) (by assumption) ?_
  rotate_left
  · (intro w hSw; (try dsimp only at hSw); go_simp) <;> with_reducible rfl
  try simp only [Act.put, List.setIfInBounds_toArray, List.set_cons_zero, List.set_cons_succ]
  refine wpAnyH_ready (rs := [1]) (by kernel_rfl) (by simp) ?_
  refine AllReadyH.cons (o := { dst := some 6, op := Op.call { callee := Callee.value (Operand.func 37), args := #[Operand.tmp 5], argTypes := #[37] }, type := 4, pos := "acl.go:49", after := #[{ on := 0, ground := Ground.data }], guard := none }) rfl (fun K hK => ?_) AllReadyH.nil
  go_simp
  refine (HE.out _ HW).mono ?_
  rintro e w1 ⟨rfl, HS1⟩
  clear hHeld
  refine hK.out _ _ HS1.out.cells (fun hHeld => ?_)
  clear hK K
  refine wpAnyH_take (i := 2) (oi := { dst := some 7, op := Op.move (Operand.tmp 6), type := 4, pos := "acl.go:49", after := #[{ on := 1, ground := Ground.data }, { on := 1, ground := Ground.chain }], guard := none }) (v := ?_) rfl (by kernel_rfl) (by kernel_rfl) (by kernel_rfl) (fun _ _ _ h => h) (Or.inl ⟨by rfl, ?_⟩) (by assumption) ?_
  rotate_left
  · (intro w hSw; (try dsimp only at hSw); go_simp) <;> with_reducible rfl
  try simp only [Act.put, List.setIfInBounds_toArray, List.set_cons_zero, List.set_cons_succ]
  refine wpAnyH_take (i := 3) (oi := { dst := some 8, op := Op.load 37 (Operand.tmp 3), type := 37, pos := "acl.go:49", after := #[{ on := 2, ground := Ground.guard }], guard := some (2, true) }) (v := undef) rfl (by kernel_rfl) (by kernel_rfl) (by kernel_rfl) (fun _ _ _ h => h) (Or.inr ⟨by rfl, rfl⟩) (by assumption) ?_
  try simp only [Act.put, List.setIfInBounds_toArray, List.set_cons_zero, List.set_cons_succ]
  refine wpAnyH_ready (rs := [4]) (by kernel_rfl) (by simp) ?_
  refine AllReadyH.cons (o := { dst := some 9, op := Op.call { callee := Callee.value (Operand.func 25), args := #[Operand.tmp 8], argTypes := #[37] }, type := 4, pos := "acl.go:49", after := #[{ on := 3, ground := Ground.data }, { on := 2, ground := Ground.chain }, { on := 2, ground := Ground.guard }], guard := some (2, true) }) rfl (fun K hK => ?_) AllReadyH.nil
  go_simp
  refine hK.out _ _ (by assumption) (fun _ => ?_)
  clear hK K
  refine wpAnyH_take (i := 5) (oi := { dst := some 10, op := Op.pick (Operand.tmp 7) (Operand.tmp 9) (Operand.const (Value.bool false)), type := 4, pos := "acl.go:49", after := #[{ on := 2, ground := Ground.data }, { on := 4, ground := Ground.data }], guard := none }) (v := ?_) rfl (by kernel_rfl) (by kernel_rfl) (by kernel_rfl) (fun _ _ _ h => h) (Or.inl ⟨by rfl, ?_⟩) (by assumption) ?_
  rotate_left
  · (intro w hSw; (try dsimp only at hSw); go_simp) <;> with_reducible rfl
  try simp only [Act.put, List.setIfInBounds_toArray, List.set_cons_zero, List.set_cons_succ]
  refine wpAnyH_take (i := 6) (oi := { dst := some 11, op := Op.move (Operand.tmp 10), type := 4, pos := "acl.go:49", after := #[{ on := 5, ground := Ground.data }, { on := 4, ground := Ground.chain }], guard := none }) (v := ?_) rfl (by kernel_rfl) (by kernel_rfl) (by kernel_rfl) (fun _ _ _ h => h) (Or.inl ⟨by rfl, ?_⟩) (by assumption) ?_
  rotate_left
  · (intro w hSw; (try dsimp only at hSw); go_simp) <;> with_reducible rfl
  try simp only [Act.put, List.setIfInBounds_toArray, List.set_cons_zero, List.set_cons_succ]
  refine wpAnyH_take (i := 7) (oi := { dst := some 12, op := Op.load 37 (Operand.tmp 2), type := 37, pos := "acl.go:49", after := #[{ on := 6, ground := Ground.guard }], guard := some (6, true) }) (v := undef) rfl (by kernel_rfl) (by kernel_rfl) (by kernel_rfl) (fun _ _ _ h => h) (Or.inr ⟨by rfl, rfl⟩) (by assumption) ?_
  try simp only [Act.put, List.setIfInBounds_toArray, List.set_cons_zero, List.set_cons_succ]
  refine wpAnyH_take (i := 10) (oi := { dst := some 15, op := Op.fieldAddr 37 (Operand.tmp 2) 1, type := 0, pos := "acl.go:49", after := #[{ on := 6, ground := Ground.guard }], guard := some (6, true) }) (v := undef) rfl (by kernel_rfl) (by kernel_rfl) (by kernel_rfl) (fun _ _ _ h => h) (Or.inr ⟨by rfl, rfl⟩) (by assumption) ?_
  try simp only [Act.put, List.setIfInBounds_toArray, List.set_cons_zero, List.set_cons_succ]
  refine wpAnyH_take (i := 11) (oi := { dst := some 16, op := Op.load 9 (Operand.tmp 15), type := 9, pos := "acl.go:49", after := #[{ on := 10, ground := Ground.data }, { on := 6, ground := Ground.guard }], guard := some (6, true) }) (v := undef) rfl (by kernel_rfl) (by kernel_rfl) (by kernel_rfl) (fun _ _ _ h => h) (Or.inr ⟨by rfl, rfl⟩) (by assumption) ?_
  try simp only [Act.put, List.setIfInBounds_toArray, List.set_cons_zero, List.set_cons_succ]
  refine wpAnyH_take (i := 12) (oi := { dst := some 17, op := Op.load 37 (Operand.tmp 3), type := 37, pos := "acl.go:49", after := #[{ on := 6, ground := Ground.guard }], guard := some (6, true) }) (v := undef) rfl (by kernel_rfl) (by kernel_rfl) (by kernel_rfl) (fun _ _ _ h => h) (Or.inr ⟨by rfl, rfl⟩) (by assumption) ?_
  try simp only [Act.put, List.setIfInBounds_toArray, List.set_cons_zero, List.set_cons_succ]
  refine wpAnyH_ready (rs := [8]) (by kernel_rfl) (by simp) ?_
  refine AllReadyH.cons (o := { dst := some 13, op := Op.call { callee := Callee.value (Operand.func 39), args := #[Operand.tmp 12], argTypes := #[37] }, type := 61, pos := "acl.go:49", after := #[{ on := 7, ground := Ground.data }, { on := 6, ground := Ground.chain }, { on := 6, ground := Ground.guard }], guard := some (6, true) }) rfl (fun K hK => ?_) AllReadyH.nil
  go_simp
  refine hK.out _ _ (by assumption) (fun _ => ?_)
  clear hK K
  refine wpAnyH_take (i := 9) (oi := { dst := some 14, op := Op.field 61 (Operand.tmp 13) 3, type := 59, pos := "acl.go:49", after := #[{ on := 8, ground := Ground.data }, { on := 6, ground := Ground.guard }], guard := some (6, true) }) (v := undef) rfl (by kernel_rfl) (by kernel_rfl) (by kernel_rfl) (fun _ _ _ h => h) (Or.inr ⟨by rfl, rfl⟩) (by assumption) ?_
  try simp only [Act.put, List.setIfInBounds_toArray, List.set_cons_zero, List.set_cons_succ]
  refine wpAnyH_ready (rs := [13]) (by kernel_rfl) (by simp) ?_
  refine AllReadyH.cons (o := { dst := some 18, op := Op.call { callee := Callee.value (Operand.tmp 14), args := #[Operand.tmp 16, Operand.tmp 17], argTypes := #[9, 37] }, type := 4, pos := "acl.go:49", after := #[{ on := 9, ground := Ground.data }, { on := 11, ground := Ground.data }, { on := 12, ground := Ground.data }, { on := 8, ground := Ground.chain }, { on := 6, ground := Ground.guard }], guard := some (6, true) }) rfl (fun K hK => ?_) AllReadyH.nil
  go_simp
  refine hK.out _ _ (by assumption) (fun _ => ?_)
  clear hK K
  refine wpAnyH_take (i := 14) (oi := { dst := some 19, op := Op.pick (Operand.tmp 11) (Operand.tmp 18) (Operand.const (Value.bool false)), type := 4, pos := "acl.go:49", after := #[{ on := 6, ground := Ground.data }, { on := 13, ground := Ground.data }], guard := none }) (v := ?_) rfl (by kernel_rfl) (by kernel_rfl) (by kernel_rfl) (fun _ _ _ h => h) (Or.inl ⟨by rfl, ?_⟩) (by assumption) ?_
  rotate_left
  · (intro w hSw; (try dsimp only at hSw); go_simp) <;> with_reducible rfl
  try simp only [Act.put, List.setIfInBounds_toArray, List.set_cons_zero, List.set_cons_succ]
  refine wpAnyH_take (i := 15) (oi := { dst := some 4, op := Op.assign (Operand.tmp 19), type := 4, pos := "acl.go:49", after := #[{ on := 14, ground := Ground.data }, { on := 13, ground := Ground.chain }, { on := 0, ground := Ground.phase }, { on := 1, ground := Ground.phase }, { on := 2, ground := Ground.phase }, { on := 3, ground := Ground.phase }, { on := 4, ground := Ground.phase }, { on := 5, ground := Ground.phase }, { on := 6, ground := Ground.phase }, { on := 7, ground := Ground.phase }, { on := 8, ground := Ground.phase }, { on := 9, ground := Ground.phase }, { on := 10, ground := Ground.phase }, { on := 11, ground := Ground.phase }, { on := 12, ground := Ground.phase }, { on := 13, ground := Ground.phase }, { on := 14, ground := Ground.phase }], guard := none }) (v := ?_) rfl (by kernel_rfl) (by kernel_rfl) (by kernel_rfl) (fun _ _ _ h => h) (Or.inl ⟨by rfl, ?_⟩) (by assumption) ?_
  rotate_left
  · (intro w hSw; (try dsimp only at hSw); go_simp) <;> with_reducible rfl
  try simp only [Act.put, List.setIfInBounds_toArray, List.set_cons_zero, List.set_cons_succ]
  refine wpAnyH_done (by kernel_rfl) ?_ _
  all_goals go_wp2
  all_goals (go_ret; exact ⟨rfl, HS1.out.2.2⟩)

set_option maxHeartbeats 1600000 in
theorem meets_c_no (es en ws wn : ByteArray) (hs : en.size ≤ 4294967296) (ht : wn.size ≤ 4294967296) (he : enD es.data.toList en.data.toList = true) (hc : clD ws.data.toList wn.data.toList = false) (w : World) :
    Calls Tryd.prog 48 #[.agg #[.string es, .string en], .agg #[.string ws, .string wn]] w fun e w' => e = .returned (.bool false) ∧ Below w.heap.size w w' := by
  have HE : Hid (∀ V, Hid (PMg es en ws wn w V) → Calls Tryd.prog 37 #[.agg #[.string es, .string en]] V fun e w' => e = .returned (.bool true) ∧ Hid (PMg es en ws wn w w')) := fun V hV => by
    rw [← he]
    exact (isOfEntry_gen es en hs V).mono (fun e w' h => ⟨h.1, hV.out.below h.2⟩)
  have HC : Hid (∀ V, Hid (PMg es en ws wn w V) → Calls Tryd.prog 25 #[.agg #[.string ws, .string wn]] V fun e w' => e = .returned (.bool false) ∧ Hid (PMg es en ws wn w w')) := fun V hV => by
    rw [← hc]
    exact (isOfClient_gen ws wn ht V).mono (fun e w' h => ⟨h.1, hV.out.below h.2⟩)
  have HW : Hid (PMg es en ws wn w ((w.alloc (.cells #[.string es, .string en] 37)).alloc (.cells #[.string ws, .string wn] 37)).drew) := PMg.start es en ws wn w
  clear he hs hc ht
  go_enter Tryd.func48, Tryd.ntmps48
  go_wp2_with fail
  refine wp_region_held_drew (S := fun w' => w'.cell? ⟨w.heap.size, 0, none⟩ = some (.string es) ∧ w'.cell? ⟨w.heap.size, 1, none⟩ = some (.string en) ∧ w'.cell? ⟨w.heap.size + 1, 0, none⟩ = some (.string ws) ∧ w'.cell? ⟨w.heap.size + 1, 1, none⟩ = some (.string wn)) (by kernel_rfl) ?_ (fun hHeld => ?_)
  · exact HW.out.cells
  refine wpAnyH_take (i := 0) (oi := { dst := some 5, op := Op.load 37 (Operand.tmp 2), type := 37, pos := "acl.go:49", after := #[], guard := none }) (v := ?_) rfl (by kernel_rfl) (by kernel_rfl) (by kernel_rfl) (fun _ _ _ h => h) (Or.inl ⟨by rfl, ?_⟩) (by assumption) ?_
  rotate_left
  · (intro w hSw; (try dsimp only at hSw); go_simp) <;> with_reducible rfl
  try simp only [Act.put, List.setIfInBounds_toArray, List.set_cons_zero, List.set_cons_succ]
  refine wpAnyH_ready (rs := [1]) (by kernel_rfl) (by simp) ?_
  refine AllReadyH.cons (o := { dst := some 6, op := Op.call { callee := Callee.value (Operand.func 37), args := #[Operand.tmp 5], argTypes := #[37] }, type := 4, pos := "acl.go:49", after := #[{ on := 0, ground := Ground.data }], guard := none }) rfl (fun K hK => ?_) AllReadyH.nil
  go_simp
  refine (HE.out _ HW).mono ?_
  rintro e w1 ⟨rfl, HS1⟩
  clear hHeld
  refine hK.out _ _ HS1.out.cells (fun hHeld => ?_)
  clear hK K
  refine wpAnyH_take (i := 2) (oi := { dst := some 7, op := Op.move (Operand.tmp 6), type := 4, pos := "acl.go:49", after := #[{ on := 1, ground := Ground.data }, { on := 1, ground := Ground.chain }], guard := none }) (v := ?_) rfl (by kernel_rfl) (by kernel_rfl) (by kernel_rfl) (fun _ _ _ h => h) (Or.inl ⟨by rfl, ?_⟩) (by assumption) ?_
  rotate_left
  · (intro w hSw; (try dsimp only at hSw); go_simp) <;> with_reducible rfl
  try simp only [Act.put, List.setIfInBounds_toArray, List.set_cons_zero, List.set_cons_succ]
  refine wpAnyH_take (i := 3) (oi := { dst := some 8, op := Op.load 37 (Operand.tmp 3), type := 37, pos := "acl.go:49", after := #[{ on := 2, ground := Ground.guard }], guard := some (2, true) }) (v := ?_) rfl (by kernel_rfl) (by kernel_rfl) (by kernel_rfl) (fun _ _ _ h => h) (Or.inl ⟨by rfl, ?_⟩) (by assumption) ?_
  rotate_left
  · (intro w hSw; (try dsimp only at hSw); go_simp) <;> with_reducible rfl
  try simp only [Act.put, List.setIfInBounds_toArray, List.set_cons_zero, List.set_cons_succ]
  refine wpAnyH_ready (rs := [4]) (by kernel_rfl) (by simp) ?_
  refine AllReadyH.cons (o := { dst := some 9, op := Op.call { callee := Callee.value (Operand.func 25), args := #[Operand.tmp 8], argTypes := #[37] }, type := 4, pos := "acl.go:49", after := #[{ on := 3, ground := Ground.data }, { on := 2, ground := Ground.chain }, { on := 2, ground := Ground.guard }], guard := some (2, true) }) rfl (fun K hK => ?_) AllReadyH.nil
  go_simp
  refine (HC.out _ HS1).mono ?_
  rintro e w2 ⟨rfl, HS2⟩
  clear hHeld
  refine hK.out _ _ HS2.out.cells (fun hHeld => ?_)
  clear hK K
  refine wpAnyH_take (i := 5) (oi := { dst := some 10, op := Op.pick (Operand.tmp 7) (Operand.tmp 9) (Operand.const (Value.bool false)), type := 4, pos := "acl.go:49", after := #[{ on := 2, ground := Ground.data }, { on := 4, ground := Ground.data }], guard := none }) (v := ?_) rfl (by kernel_rfl) (by kernel_rfl) (by kernel_rfl) (fun _ _ _ h => h) (Or.inl ⟨by rfl, ?_⟩) (by assumption) ?_
  rotate_left
  · (intro w hSw; (try dsimp only at hSw); go_simp) <;> with_reducible rfl
  try simp only [Act.put, List.setIfInBounds_toArray, List.set_cons_zero, List.set_cons_succ]
  refine wpAnyH_take (i := 6) (oi := { dst := some 11, op := Op.move (Operand.tmp 10), type := 4, pos := "acl.go:49", after := #[{ on := 5, ground := Ground.data }, { on := 4, ground := Ground.chain }], guard := none }) (v := ?_) rfl (by kernel_rfl) (by kernel_rfl) (by kernel_rfl) (fun _ _ _ h => h) (Or.inl ⟨by rfl, ?_⟩) (by assumption) ?_
  rotate_left
  · (intro w hSw; (try dsimp only at hSw); go_simp) <;> with_reducible rfl
  try simp only [Act.put, List.setIfInBounds_toArray, List.set_cons_zero, List.set_cons_succ]
  refine wpAnyH_take (i := 7) (oi := { dst := some 12, op := Op.load 37 (Operand.tmp 2), type := 37, pos := "acl.go:49", after := #[{ on := 6, ground := Ground.guard }], guard := some (6, true) }) (v := undef) rfl (by kernel_rfl) (by kernel_rfl) (by kernel_rfl) (fun _ _ _ h => h) (Or.inr ⟨by rfl, rfl⟩) (by assumption) ?_
  try simp only [Act.put, List.setIfInBounds_toArray, List.set_cons_zero, List.set_cons_succ]
  refine wpAnyH_take (i := 10) (oi := { dst := some 15, op := Op.fieldAddr 37 (Operand.tmp 2) 1, type := 0, pos := "acl.go:49", after := #[{ on := 6, ground := Ground.guard }], guard := some (6, true) }) (v := undef) rfl (by kernel_rfl) (by kernel_rfl) (by kernel_rfl) (fun _ _ _ h => h) (Or.inr ⟨by rfl, rfl⟩) (by assumption) ?_
  try simp only [Act.put, List.setIfInBounds_toArray, List.set_cons_zero, List.set_cons_succ]
  refine wpAnyH_take (i := 11) (oi := { dst := some 16, op := Op.load 9 (Operand.tmp 15), type := 9, pos := "acl.go:49", after := #[{ on := 10, ground := Ground.data }, { on := 6, ground := Ground.guard }], guard := some (6, true) }) (v := undef) rfl (by kernel_rfl) (by kernel_rfl) (by kernel_rfl) (fun _ _ _ h => h) (Or.inr ⟨by rfl, rfl⟩) (by assumption) ?_
  try simp only [Act.put, List.setIfInBounds_toArray, List.set_cons_zero, List.set_cons_succ]
  refine wpAnyH_take (i := 12) (oi := { dst := some 17, op := Op.load 37 (Operand.tmp 3), type := 37, pos := "acl.go:49", after := #[{ on := 6, ground := Ground.guard }], guard := some (6, true) }) (v := undef) rfl (by kernel_rfl) (by kernel_rfl) (by kernel_rfl) (fun _ _ _ h => h) (Or.inr ⟨by rfl, rfl⟩) (by assumption) ?_
  try simp only [Act.put, List.setIfInBounds_toArray, List.set_cons_zero, List.set_cons_succ]
  refine wpAnyH_ready (rs := [8]) (by kernel_rfl) (by simp) ?_
  refine AllReadyH.cons (o := { dst := some 13, op := Op.call { callee := Callee.value (Operand.func 39), args := #[Operand.tmp 12], argTypes := #[37] }, type := 61, pos := "acl.go:49", after := #[{ on := 7, ground := Ground.data }, { on := 6, ground := Ground.chain }, { on := 6, ground := Ground.guard }], guard := some (6, true) }) rfl (fun K hK => ?_) AllReadyH.nil
  go_simp
  refine hK.out _ _ (by assumption) (fun _ => ?_)
  clear hK K
  refine wpAnyH_take (i := 9) (oi := { dst := some 14, op := Op.field 61 (Operand.tmp 13) 3, type := 59, pos := "acl.go:49", after := #[{ on := 8, ground := Ground.data }, { on := 6, ground := Ground.guard }], guard := some (6, true) }) (v := undef) rfl (by kernel_rfl) (by kernel_rfl) (by kernel_rfl) (fun _ _ _ h => h) (Or.inr ⟨by rfl, rfl⟩) (by assumption) ?_
  try simp only [Act.put, List.setIfInBounds_toArray, List.set_cons_zero, List.set_cons_succ]
  refine wpAnyH_ready (rs := [13]) (by kernel_rfl) (by simp) ?_
  refine AllReadyH.cons (o := { dst := some 18, op := Op.call { callee := Callee.value (Operand.tmp 14), args := #[Operand.tmp 16, Operand.tmp 17], argTypes := #[9, 37] }, type := 4, pos := "acl.go:49", after := #[{ on := 9, ground := Ground.data }, { on := 11, ground := Ground.data }, { on := 12, ground := Ground.data }, { on := 8, ground := Ground.chain }, { on := 6, ground := Ground.guard }], guard := some (6, true) }) rfl (fun K hK => ?_) AllReadyH.nil
  go_simp
  refine hK.out _ _ (by assumption) (fun _ => ?_)
  clear hK K
  refine wpAnyH_take (i := 14) (oi := { dst := some 19, op := Op.pick (Operand.tmp 11) (Operand.tmp 18) (Operand.const (Value.bool false)), type := 4, pos := "acl.go:49", after := #[{ on := 6, ground := Ground.data }, { on := 13, ground := Ground.data }], guard := none }) (v := ?_) rfl (by kernel_rfl) (by kernel_rfl) (by kernel_rfl) (fun _ _ _ h => h) (Or.inl ⟨by rfl, ?_⟩) (by assumption) ?_
  rotate_left
  · (intro w hSw; (try dsimp only at hSw); go_simp) <;> with_reducible rfl
  try simp only [Act.put, List.setIfInBounds_toArray, List.set_cons_zero, List.set_cons_succ]
  refine wpAnyH_take (i := 15) (oi := { dst := some 4, op := Op.assign (Operand.tmp 19), type := 4, pos := "acl.go:49", after := #[{ on := 14, ground := Ground.data }, { on := 13, ground := Ground.chain }, { on := 0, ground := Ground.phase }, { on := 1, ground := Ground.phase }, { on := 2, ground := Ground.phase }, { on := 3, ground := Ground.phase }, { on := 4, ground := Ground.phase }, { on := 5, ground := Ground.phase }, { on := 6, ground := Ground.phase }, { on := 7, ground := Ground.phase }, { on := 8, ground := Ground.phase }, { on := 9, ground := Ground.phase }, { on := 10, ground := Ground.phase }, { on := 11, ground := Ground.phase }, { on := 12, ground := Ground.phase }, { on := 13, ground := Ground.phase }, { on := 14, ground := Ground.phase }], guard := none }) (v := ?_) rfl (by kernel_rfl) (by kernel_rfl) (by kernel_rfl) (fun _ _ _ h => h) (Or.inl ⟨by rfl, ?_⟩) (by assumption) ?_
  rotate_left
  · (intro w hSw; (try dsimp only at hSw); go_simp) <;> with_reducible rfl
  try simp only [Act.put, List.setIfInBounds_toArray, List.set_cons_zero, List.set_cons_succ]
  refine wpAnyH_done (by kernel_rfl) ?_ _
  all_goals go_wp2
  all_goals (go_ret; exact ⟨rfl, HS2.out.2.2⟩)

set_option maxHeartbeats 2000000 in
theorem meets_world (en ws wn : ByteArray) (hs : en.size ≤ 4294967296) (ht : wn.size ≤ 4294967296) (he : enD worldB.data.toList en.data.toList = true) (hc : clD ws.data.toList wn.data.toList = true) (w : World) :
    Calls Tryd.prog 48 #[.agg #[.string worldB, .string en], .agg #[.string ws, .string wn]] w fun e w' => e = .returned (.bool (true)) ∧ Below w.heap.size w w' := by
  obtain ⟨bm, hbm⟩ : ∃ b : Bool, b = (true) := ⟨_, rfl⟩
  have HE : Hid (∀ V, Hid (PMg worldB en ws wn w V) → Calls Tryd.prog 37 #[.agg #[.string worldB, .string en]] V fun e w' => e = .returned (.bool true) ∧ Hid (PMg worldB en ws wn w w')) := fun V hV => by
    rw [← he]
    exact (isOfEntry_gen worldB en hs V).mono (fun e w' h => ⟨h.1, hV.out.below h.2⟩)
  have HC : Hid (∀ V, Hid (PMg worldB en ws wn w V) → Calls Tryd.prog 25 #[.agg #[.string ws, .string wn]] V fun e w' => e = .returned (.bool true) ∧ Hid (PMg worldB en ws wn w w')) := fun V hV => by
    rw [← hc]
    exact (isOfClient_gen ws wn ht V).mono (fun e w' h => ⟨h.1, hV.out.below h.2⟩)
  have HSo : Hid (∀ V, Hid (PMg worldB en ws wn w V) → Calls Tryd.prog 39 #[.agg #[.string worldB, .string en]] V fun e w' => ∃ c, e = .returned (.agg #[.string worldB, fnV 54, fn1 75 c, fnV 63]) ∧ Hid (PMg worldB en ws wn w w' ∧ Cau c w' ∧ c + 6 ≤ w'.heap.size)) := fun V hV =>
    (schemeOf_world en V).mono (fun e w' ⟨c, g1, g2, g3, _, g5⟩ => ⟨c, g1, hV.out.below g2, g3, g5⟩)
  have HM : Hid (∀ (c : Nat) (V : World), Hid (PMg worldB en ws wn w V ∧ Cau c V ∧ c + 6 ≤ V.heap.size) → Calls Tryd.prog 63 #[.string en, .agg #[.string ws, .string wn]] V fun e w' => e = .returned (.bool bm) ∧ Hid (PMg worldB en ws wn w w')) := fun c V hV => by
    rw [hbm]
    exact (byEach_any en ws wn V).mono (fun e w' h => ⟨h.1, hV.out.1.below h.2⟩)
  rw [← hbm]
  have HW : Hid (PMg worldB en ws wn w ((w.alloc (.cells #[.string worldB, .string en] 37)).alloc (.cells #[.string ws, .string wn] 37)).drew) := PMg.start worldB en ws wn w
  have hfd : ∀ (c : Nat) (W : World), (Instr.field 61 (.agg #[.string worldB, fnV 54, fn1 75 c, fnV 63]) 3).run Tryd.prog W = .ok (fnV 63) W := fun c W => by kernel_rfl
  clear he hs hc ht hbm
  go_enter Tryd.func48, Tryd.ntmps48
  go_wp2_with fail
  refine wp_region_held_drew (S := fun w' => w'.cell? ⟨w.heap.size, 0, none⟩ = some (.string worldB) ∧ w'.cell? ⟨w.heap.size, 1, none⟩ = some (.string en) ∧ w'.cell? ⟨w.heap.size + 1, 0, none⟩ = some (.string ws) ∧ w'.cell? ⟨w.heap.size + 1, 1, none⟩ = some (.string wn)) (by kernel_rfl) ?_ (fun hHeld => ?_)
  · exact HW.out.cells
  refine wpAnyH_take (i := 0) (oi := { dst := some 5, op := Op.load 37 (Operand.tmp 2), type := 37, pos := "acl.go:49", after := #[], guard := none }) (v := ?_) rfl (by kernel_rfl) (by kernel_rfl) (by kernel_rfl) (fun _ _ _ h => h) (Or.inl ⟨by rfl, ?_⟩) (by assumption) ?_
  rotate_left
  · (intro w hSw; (try dsimp only at hSw); go_simp) <;> with_reducible rfl
  try simp only [Act.put, List.setIfInBounds_toArray, List.set_cons_zero, List.set_cons_succ]
  refine wpAnyH_ready (rs := [1]) (by kernel_rfl) (by simp) ?_
  refine AllReadyH.cons (o := { dst := some 6, op := Op.call { callee := Callee.value (Operand.func 37), args := #[Operand.tmp 5], argTypes := #[37] }, type := 4, pos := "acl.go:49", after := #[{ on := 0, ground := Ground.data }], guard := none }) rfl (fun K hK => ?_) AllReadyH.nil
  go_simp
  refine (HE.out _ HW).mono ?_
  rintro e w1 ⟨rfl, HS1⟩
  clear hHeld
  refine hK.out _ _ HS1.out.cells (fun hHeld => ?_)
  clear hK K
  refine wpAnyH_take (i := 2) (oi := { dst := some 7, op := Op.move (Operand.tmp 6), type := 4, pos := "acl.go:49", after := #[{ on := 1, ground := Ground.data }, { on := 1, ground := Ground.chain }], guard := none }) (v := ?_) rfl (by kernel_rfl) (by kernel_rfl) (by kernel_rfl) (fun _ _ _ h => h) (Or.inl ⟨by rfl, ?_⟩) (by assumption) ?_
  rotate_left
  · (intro w hSw; (try dsimp only at hSw); go_simp) <;> with_reducible rfl
  try simp only [Act.put, List.setIfInBounds_toArray, List.set_cons_zero, List.set_cons_succ]
  refine wpAnyH_take (i := 3) (oi := { dst := some 8, op := Op.load 37 (Operand.tmp 3), type := 37, pos := "acl.go:49", after := #[{ on := 2, ground := Ground.guard }], guard := some (2, true) }) (v := ?_) rfl (by kernel_rfl) (by kernel_rfl) (by kernel_rfl) (fun _ _ _ h => h) (Or.inl ⟨by rfl, ?_⟩) (by assumption) ?_
  rotate_left
  · (intro w hSw; (try dsimp only at hSw); go_simp) <;> with_reducible rfl
  try simp only [Act.put, List.setIfInBounds_toArray, List.set_cons_zero, List.set_cons_succ]
  refine wpAnyH_ready (rs := [4]) (by kernel_rfl) (by simp) ?_
  refine AllReadyH.cons (o := { dst := some 9, op := Op.call { callee := Callee.value (Operand.func 25), args := #[Operand.tmp 8], argTypes := #[37] }, type := 4, pos := "acl.go:49", after := #[{ on := 3, ground := Ground.data }, { on := 2, ground := Ground.chain }, { on := 2, ground := Ground.guard }], guard := some (2, true) }) rfl (fun K hK => ?_) AllReadyH.nil
  go_simp
  refine (HC.out _ HS1).mono ?_
  rintro e w2 ⟨rfl, HS2⟩
  clear hHeld
  refine hK.out _ _ HS2.out.cells (fun hHeld => ?_)
  clear hK K
  refine wpAnyH_take (i := 5) (oi := { dst := some 10, op := Op.pick (Operand.tmp 7) (Operand.tmp 9) (Operand.const (Value.bool false)), type := 4, pos := "acl.go:49", after := #[{ on := 2, ground := Ground.data }, { on := 4, ground := Ground.data }], guard := none }) (v := ?_) rfl (by kernel_rfl) (by kernel_rfl) (by kernel_rfl) (fun _ _ _ h => h) (Or.inl ⟨by rfl, ?_⟩) (by assumption) ?_
  rotate_left
  · (intro w hSw; (try dsimp only at hSw); go_simp) <;> with_reducible rfl
  try simp only [Act.put, List.setIfInBounds_toArray, List.set_cons_zero, List.set_cons_succ]
  refine wpAnyH_take (i := 6) (oi := { dst := some 11, op := Op.move (Operand.tmp 10), type := 4, pos := "acl.go:49", after := #[{ on := 5, ground := Ground.data }, { on := 4, ground := Ground.chain }], guard := none }) (v := ?_) rfl (by kernel_rfl) (by kernel_rfl) (by kernel_rfl) (fun _ _ _ h => h) (Or.inl ⟨by rfl, ?_⟩) (by assumption) ?_
  rotate_left
  · (intro w hSw; (try dsimp only at hSw); go_simp) <;> with_reducible rfl
  try simp only [Act.put, List.setIfInBounds_toArray, List.set_cons_zero, List.set_cons_succ]
  refine wpAnyH_take (i := 7) (oi := { dst := some 12, op := Op.load 37 (Operand.tmp 2), type := 37, pos := "acl.go:49", after := #[{ on := 6, ground := Ground.guard }], guard := some (6, true) }) (v := ?_) rfl (by kernel_rfl) (by kernel_rfl) (by kernel_rfl) (fun _ _ _ h => h) (Or.inl ⟨by rfl, ?_⟩) (by assumption) ?_
  rotate_left
  · (intro w hSw; (try dsimp only at hSw); go_simp) <;> with_reducible rfl
  try simp only [Act.put, List.setIfInBounds_toArray, List.set_cons_zero, List.set_cons_succ]
  refine wpAnyH_take (i := 10) (oi := { dst := some 15, op := Op.fieldAddr 37 (Operand.tmp 2) 1, type := 0, pos := "acl.go:49", after := #[{ on := 6, ground := Ground.guard }], guard := some (6, true) }) (v := ?_) rfl (by kernel_rfl) (by kernel_rfl) (by kernel_rfl) (fun _ _ _ h => h) (Or.inl ⟨by rfl, ?_⟩) (by assumption) ?_
  rotate_left
  · (intro w hSw; (try dsimp only at hSw); go_simp) <;> with_reducible rfl
  try simp only [Act.put, List.setIfInBounds_toArray, List.set_cons_zero, List.set_cons_succ]
  refine wpAnyH_take (i := 11) (oi := { dst := some 16, op := Op.load 9 (Operand.tmp 15), type := 9, pos := "acl.go:49", after := #[{ on := 10, ground := Ground.data }, { on := 6, ground := Ground.guard }], guard := some (6, true) }) (v := ?_) rfl (by kernel_rfl) (by kernel_rfl) (by kernel_rfl) (fun _ _ _ h => h) (Or.inl ⟨by rfl, ?_⟩) (by assumption) ?_
  rotate_left
  · (intro w hSw; (try dsimp only at hSw); go_simp) <;> with_reducible rfl
  try simp only [Act.put, List.setIfInBounds_toArray, List.set_cons_zero, List.set_cons_succ]
  refine wpAnyH_take (i := 12) (oi := { dst := some 17, op := Op.load 37 (Operand.tmp 3), type := 37, pos := "acl.go:49", after := #[{ on := 6, ground := Ground.guard }], guard := some (6, true) }) (v := ?_) rfl (by kernel_rfl) (by kernel_rfl) (by kernel_rfl) (fun _ _ _ h => h) (Or.inl ⟨by rfl, ?_⟩) (by assumption) ?_
  rotate_left
  · (intro w hSw; (try dsimp only at hSw); go_simp) <;> with_reducible rfl
  try simp only [Act.put, List.setIfInBounds_toArray, List.set_cons_zero, List.set_cons_succ]
  refine wpAnyH_ready (rs := [8]) (by kernel_rfl) (by simp) ?_
  refine AllReadyH.cons (o := { dst := some 13, op := Op.call { callee := Callee.value (Operand.func 39), args := #[Operand.tmp 12], argTypes := #[37] }, type := 61, pos := "acl.go:49", after := #[{ on := 7, ground := Ground.data }, { on := 6, ground := Ground.chain }, { on := 6, ground := Ground.guard }], guard := some (6, true) }) rfl (fun K hK => ?_) AllReadyH.nil
  go_simp
  refine (HSo.out _ HS2).mono ?_
  rintro e w3 ⟨c, rfl, HS3⟩
  clear hHeld
  refine hK.out _ _ HS3.out.1.cells (fun hHeld => ?_)
  clear hK K
  refine wpAnyH_take (i := 9) (oi := { dst := some 14, op := Op.field 61 (Operand.tmp 13) 3, type := 59, pos := "acl.go:49", after := #[{ on := 8, ground := Ground.data }, { on := 6, ground := Ground.guard }], guard := some (6, true) }) (v := ?_) rfl (by kernel_rfl) (by kernel_rfl) (by kernel_rfl) (fun _ _ _ h => h) (Or.inl ⟨by rfl, ?_⟩) (by assumption) ?_
  rotate_left
  · (intro w hSw; (try dsimp only at hSw); go_simp) <;> with_reducible rfl
  try simp only [Act.put, List.setIfInBounds_toArray, List.set_cons_zero, List.set_cons_succ]
  refine wpAnyH_ready (rs := [13]) (by kernel_rfl) (by simp) ?_
  refine AllReadyH.cons (o := { dst := some 18, op := Op.call { callee := Callee.value (Operand.tmp 14), args := #[Operand.tmp 16, Operand.tmp 17], argTypes := #[9, 37] }, type := 4, pos := "acl.go:49", after := #[{ on := 9, ground := Ground.data }, { on := 11, ground := Ground.data }, { on := 12, ground := Ground.data }, { on := 8, ground := Ground.chain }, { on := 6, ground := Ground.guard }], guard := some (6, true) }) rfl (fun K hK => ?_) AllReadyH.nil
  go_simp
  refine (HM.out _ _ HS3).mono ?_
  rintro e w4 ⟨rfl, HS4⟩
  clear hHeld
  refine hK.out _ _ HS4.out.cells (fun hHeld => ?_)
  clear hK K
  refine wpAnyH_take (i := 14) (oi := { dst := some 19, op := Op.pick (Operand.tmp 11) (Operand.tmp 18) (Operand.const (Value.bool false)), type := 4, pos := "acl.go:49", after := #[{ on := 6, ground := Ground.data }, { on := 13, ground := Ground.data }], guard := none }) (v := ?_) rfl (by kernel_rfl) (by kernel_rfl) (by kernel_rfl) (fun _ _ _ h => h) (Or.inl ⟨by rfl, ?_⟩) (by assumption) ?_
  rotate_left
  · (intro w hSw; (try dsimp only at hSw); go_simp) <;> with_reducible rfl
  try simp only [Act.put, List.setIfInBounds_toArray, List.set_cons_zero, List.set_cons_succ]
  refine wpAnyH_take (i := 15) (oi := { dst := some 4, op := Op.assign (Operand.tmp 19), type := 4, pos := "acl.go:49", after := #[{ on := 14, ground := Ground.data }, { on := 13, ground := Ground.chain }, { on := 0, ground := Ground.phase }, { on := 1, ground := Ground.phase }, { on := 2, ground := Ground.phase }, { on := 3, ground := Ground.phase }, { on := 4, ground := Ground.phase }, { on := 5, ground := Ground.phase }, { on := 6, ground := Ground.phase }, { on := 7, ground := Ground.phase }, { on := 8, ground := Ground.phase }, { on := 9, ground := Ground.phase }, { on := 10, ground := Ground.phase }, { on := 11, ground := Ground.phase }, { on := 12, ground := Ground.phase }, { on := 13, ground := Ground.phase }, { on := 14, ground := Ground.phase }], guard := none }) (v := ?_) rfl (by kernel_rfl) (by kernel_rfl) (by kernel_rfl) (fun _ _ _ h => h) (Or.inl ⟨by rfl, ?_⟩) (by assumption) ?_
  rotate_left
  · (intro w hSw; (try dsimp only at hSw); go_simp) <;> with_reducible rfl
  try simp only [Act.put, List.setIfInBounds_toArray, List.set_cons_zero, List.set_cons_succ]
  refine wpAnyH_done (by kernel_rfl) ?_ _
  all_goals go_wp2
  all_goals (go_ret; exact ⟨rfl, HS4.out.2.2⟩)

set_option maxHeartbeats 2000000 in
theorem meets_ip (en ws wn : ByteArray) (hs : en.size ≤ 4294967296) (ht : wn.size ≤ 4294967296) (he : enD ipB.data.toList en.data.toList = true) (hc : clD ws.data.toList wn.data.toList = true) (w : World) :
    Calls Tryd.prog 48 #[.agg #[.string ipB, .string en], .agg #[.string ws, .string wn]] w fun e w' => e = .returned (.bool (decide (ws.data.toList = sIp) && witD en.data.toList wn.data.toList)) ∧ Below w.heap.size w w' := by
  obtain ⟨bm, hbm⟩ : ∃ b : Bool, b = (decide (ws.data.toList = sIp) && witD en.data.toList wn.data.toList) := ⟨_, rfl⟩
  have HE : Hid (∀ V, Hid (PMg ipB en ws wn w V) → Calls Tryd.prog 37 #[.agg #[.string ipB, .string en]] V fun e w' => e = .returned (.bool true) ∧ Hid (PMg ipB en ws wn w w')) := fun V hV => by
    rw [← he]
    exact (isOfEntry_gen ipB en hs V).mono (fun e w' h => ⟨h.1, hV.out.below h.2⟩)
  have HC : Hid (∀ V, Hid (PMg ipB en ws wn w V) → Calls Tryd.prog 25 #[.agg #[.string ws, .string wn]] V fun e w' => e = .returned (.bool true) ∧ Hid (PMg ipB en ws wn w w')) := fun V hV => by
    rw [← hc]
    exact (isOfClient_gen ws wn ht V).mono (fun e w' h => ⟨h.1, hV.out.below h.2⟩)
  have HSo : Hid (∀ V, Hid (PMg ipB en ws wn w V) → Calls Tryd.prog 39 #[.agg #[.string ipB, .string en]] V fun e w' => ∃ c, e = .returned (.agg #[.string ipB, fnV 64, fnV 65, fn2 78 (c + 1)]) ∧ Hid (PMg ipB en ws wn w w' ∧ Cau c w' ∧ c + 6 ≤ w'.heap.size)) := fun V hV =>
    (schemeOf_ip en V).mono (fun e w' ⟨c, g1, g2, g3, _, g5⟩ => ⟨c, g1, hV.out.below g2, g3, g5⟩)
  have HM : Hid (∀ (c : Nat) (V : World), Hid (PMg ipB en ws wn w V ∧ Cau c V ∧ c + 6 ≤ V.heap.size) → Calls Tryd.prog 78 #[.string en, .agg #[.string ws, .string wn], .pointer (some ⟨c + 1, 0, none⟩), .pointer (some ⟨c + 1 + 1, 0, none⟩)] V fun e w' => e = .returned (.bool bm) ∧ Hid (PMg ipB en ws wn w w')) := fun c V hV => by
    rw [hbm]
    by_cases hw : ws.data.toList = ipB.data.toList
    · rw [decide_eq_true (show ws.data.toList = sIp from hw), Bool.true_and]
      have h := by1_ip en wn hs ht c V hV.out.2.1 hV.out.2.2
      rw [← ba_ext hw] at h
      exact h.mono (fun e w' h => ⟨h.1, hV.out.1.below h.2⟩)
    · rw [decide_eq_false (show ¬ ws.data.toList = sIp from hw), Bool.false_and]
      exact (by1_no en ws wn ipB (c + 1) V (cell_of_row V (c + 1) 0 _ _ _ hV.out.2.1.2.1) hw).mono (fun e w' h => ⟨h.1, hV.out.1.below h.2⟩)
  rw [← hbm]
  have HW : Hid (PMg ipB en ws wn w ((w.alloc (.cells #[.string ipB, .string en] 37)).alloc (.cells #[.string ws, .string wn] 37)).drew) := PMg.start ipB en ws wn w
  have hfd : ∀ (c : Nat) (W : World), (Instr.field 61 (.agg #[.string ipB, fnV 64, fnV 65, fn2 78 (c + 1)]) 3).run Tryd.prog W = .ok (fn2 78 (c + 1)) W := fun c W => by kernel_rfl
  clear he hs hc ht hbm
  go_enter Tryd.func48, Tryd.ntmps48
  go_wp2_with fail
  refine wp_region_held_drew (S := fun w' => w'.cell? ⟨w.heap.size, 0, none⟩ = some (.string ipB) ∧ w'.cell? ⟨w.heap.size, 1, none⟩ = some (.string en) ∧ w'.cell? ⟨w.heap.size + 1, 0, none⟩ = some (.string ws) ∧ w'.cell? ⟨w.heap.size + 1, 1, none⟩ = some (.string wn)) (by kernel_rfl) ?_ (fun hHeld => ?_)
  · exact HW.out.cells
  refine wpAnyH_take (i := 0) (oi := { dst := some 5, op := Op.load 37 (Operand.tmp 2), type := 37, pos := "acl.go:49", after := #[], guard := none }) (v := ?_) rfl (by kernel_rfl) (by kernel_rfl) (by kernel_rfl) (fun _ _ _ h => h) (Or.inl ⟨by rfl, ?_⟩) (by assumption) ?_
  rotate_left
  · (intro w hSw; (try dsimp only at hSw); go_simp) <;> with_reducible rfl
  try simp only [Act.put, List.setIfInBounds_toArray, List.set_cons_zero, List.set_cons_succ]
  refine wpAnyH_ready (rs := [1]) (by kernel_rfl) (by simp) ?_
  refine AllReadyH.cons (o := { dst := some 6, op := Op.call { callee := Callee.value (Operand.func 37), args := #[Operand.tmp 5], argTypes := #[37] }, type := 4, pos := "acl.go:49", after := #[{ on := 0, ground := Ground.data }], guard := none }) rfl (fun K hK => ?_) AllReadyH.nil
  go_simp
  refine (HE.out _ HW).mono ?_
  rintro e w1 ⟨rfl, HS1⟩
  clear hHeld
  refine hK.out _ _ HS1.out.cells (fun hHeld => ?_)
  clear hK K
  refine wpAnyH_take (i := 2) (oi := { dst := some 7, op := Op.move (Operand.tmp 6), type := 4, pos := "acl.go:49", after := #[{ on := 1, ground := Ground.data }, { on := 1, ground := Ground.chain }], guard := none }) (v := ?_) rfl (by kernel_rfl) (by kernel_rfl) (by kernel_rfl) (fun _ _ _ h => h) (Or.inl ⟨by rfl, ?_⟩) (by assumption) ?_
  rotate_left
  · (intro w hSw; (try dsimp only at hSw); go_simp) <;> with_reducible rfl
  try simp only [Act.put, List.setIfInBounds_toArray, List.set_cons_zero, List.set_cons_succ]
  refine wpAnyH_take (i := 3) (oi := { dst := some 8, op := Op.load 37 (Operand.tmp 3), type := 37, pos := "acl.go:49", after := #[{ on := 2, ground := Ground.guard }], guard := some (2, true) }) (v := ?_) rfl (by kernel_rfl) (by kernel_rfl) (by kernel_rfl) (fun _ _ _ h => h) (Or.inl ⟨by rfl, ?_⟩) (by assumption) ?_
  rotate_left
  · (intro w hSw; (try dsimp only at hSw); go_simp) <;> with_reducible rfl
  try simp only [Act.put, List.setIfInBounds_toArray, List.set_cons_zero, List.set_cons_succ]
  refine wpAnyH_ready (rs := [4]) (by kernel_rfl) (by simp) ?_
  refine AllReadyH.cons (o := { dst := some 9, op := Op.call { callee := Callee.value (Operand.func 25), args := #[Operand.tmp 8], argTypes := #[37] }, type := 4, pos := "acl.go:49", after := #[{ on := 3, ground := Ground.data }, { on := 2, ground := Ground.chain }, { on := 2, ground := Ground.guard }], guard := some (2, true) }) rfl (fun K hK => ?_) AllReadyH.nil
  go_simp
  refine (HC.out _ HS1).mono ?_
  rintro e w2 ⟨rfl, HS2⟩
  clear hHeld
  refine hK.out _ _ HS2.out.cells (fun hHeld => ?_)
  clear hK K
  refine wpAnyH_take (i := 5) (oi := { dst := some 10, op := Op.pick (Operand.tmp 7) (Operand.tmp 9) (Operand.const (Value.bool false)), type := 4, pos := "acl.go:49", after := #[{ on := 2, ground := Ground.data }, { on := 4, ground := Ground.data }], guard := none }) (v := ?_) rfl (by kernel_rfl) (by kernel_rfl) (by kernel_rfl) (fun _ _ _ h => h) (Or.inl ⟨by rfl, ?_⟩) (by assumption) ?_
  rotate_left
  · (intro w hSw; (try dsimp only at hSw); go_simp) <;> with_reducible rfl
  try simp only [Act.put, List.setIfInBounds_toArray, List.set_cons_zero, List.set_cons_succ]
  refine wpAnyH_take (i := 6) (oi := { dst := some 11, op := Op.move (Operand.tmp 10), type := 4, pos := "acl.go:49", after := #[{ on := 5, ground := Ground.data }, { on := 4, ground := Ground.chain }], guard := none }) (v := ?_) rfl (by kernel_rfl) (by kernel_rfl) (by kernel_rfl) (fun _ _ _ h => h) (Or.inl ⟨by rfl, ?_⟩) (by assumption) ?_
  rotate_left
  · (intro w hSw; (try dsimp only at hSw); go_simp) <;> with_reducible rfl
  try simp only [Act.put, List.setIfInBounds_toArray, List.set_cons_zero, List.set_cons_succ]
  refine wpAnyH_take (i := 7) (oi := { dst := some 12, op := Op.load 37 (Operand.tmp 2), type := 37, pos := "acl.go:49", after := #[{ on := 6, ground := Ground.guard }], guard := some (6, true) }) (v := ?_) rfl (by kernel_rfl) (by kernel_rfl) (by kernel_rfl) (fun _ _ _ h => h) (Or.inl ⟨by rfl, ?_⟩) (by assumption) ?_
  rotate_left
  · (intro w hSw; (try dsimp only at hSw); go_simp) <;> with_reducible rfl
  try simp only [Act.put, List.setIfInBounds_toArray, List.set_cons_zero, List.set_cons_succ]
  refine wpAnyH_take (i := 10) (oi := { dst := some 15, op := Op.fieldAddr 37 (Operand.tmp 2) 1, type := 0, pos := "acl.go:49", after := #[{ on := 6, ground := Ground.guard }], guard := some (6, true) }) (v := ?_) rfl (by kernel_rfl) (by kernel_rfl) (by kernel_rfl) (fun _ _ _ h => h) (Or.inl ⟨by rfl, ?_⟩) (by assumption) ?_
  rotate_left
  · (intro w hSw; (try dsimp only at hSw); go_simp) <;> with_reducible rfl
  try simp only [Act.put, List.setIfInBounds_toArray, List.set_cons_zero, List.set_cons_succ]
  refine wpAnyH_take (i := 11) (oi := { dst := some 16, op := Op.load 9 (Operand.tmp 15), type := 9, pos := "acl.go:49", after := #[{ on := 10, ground := Ground.data }, { on := 6, ground := Ground.guard }], guard := some (6, true) }) (v := ?_) rfl (by kernel_rfl) (by kernel_rfl) (by kernel_rfl) (fun _ _ _ h => h) (Or.inl ⟨by rfl, ?_⟩) (by assumption) ?_
  rotate_left
  · (intro w hSw; (try dsimp only at hSw); go_simp) <;> with_reducible rfl
  try simp only [Act.put, List.setIfInBounds_toArray, List.set_cons_zero, List.set_cons_succ]
  refine wpAnyH_take (i := 12) (oi := { dst := some 17, op := Op.load 37 (Operand.tmp 3), type := 37, pos := "acl.go:49", after := #[{ on := 6, ground := Ground.guard }], guard := some (6, true) }) (v := ?_) rfl (by kernel_rfl) (by kernel_rfl) (by kernel_rfl) (fun _ _ _ h => h) (Or.inl ⟨by rfl, ?_⟩) (by assumption) ?_
  rotate_left
  · (intro w hSw; (try dsimp only at hSw); go_simp) <;> with_reducible rfl
  try simp only [Act.put, List.setIfInBounds_toArray, List.set_cons_zero, List.set_cons_succ]
  refine wpAnyH_ready (rs := [8]) (by kernel_rfl) (by simp) ?_
  refine AllReadyH.cons (o := { dst := some 13, op := Op.call { callee := Callee.value (Operand.func 39), args := #[Operand.tmp 12], argTypes := #[37] }, type := 61, pos := "acl.go:49", after := #[{ on := 7, ground := Ground.data }, { on := 6, ground := Ground.chain }, { on := 6, ground := Ground.guard }], guard := some (6, true) }) rfl (fun K hK => ?_) AllReadyH.nil
  go_simp
  refine (HSo.out _ HS2).mono ?_
  rintro e w3 ⟨c, rfl, HS3⟩
  clear hHeld
  refine hK.out _ _ HS3.out.1.cells (fun hHeld => ?_)
  clear hK K
  refine wpAnyH_take (i := 9) (oi := { dst := some 14, op := Op.field 61 (Operand.tmp 13) 3, type := 59, pos := "acl.go:49", after := #[{ on := 8, ground := Ground.data }, { on := 6, ground := Ground.guard }], guard := some (6, true) }) (v := ?_) rfl (by kernel_rfl) (by kernel_rfl) (by kernel_rfl) (fun _ _ _ h => h) (Or.inl ⟨by rfl, ?_⟩) (by assumption) ?_
  rotate_left
  · (intro w hSw; (try dsimp only at hSw); go_simp) <;> with_reducible rfl
  try simp only [Act.put, List.setIfInBounds_toArray, List.set_cons_zero, List.set_cons_succ]
  refine wpAnyH_ready (rs := [13]) (by kernel_rfl) (by simp) ?_
  refine AllReadyH.cons (o := { dst := some 18, op := Op.call { callee := Callee.value (Operand.tmp 14), args := #[Operand.tmp 16, Operand.tmp 17], argTypes := #[9, 37] }, type := 4, pos := "acl.go:49", after := #[{ on := 9, ground := Ground.data }, { on := 11, ground := Ground.data }, { on := 12, ground := Ground.data }, { on := 8, ground := Ground.chain }, { on := 6, ground := Ground.guard }], guard := some (6, true) }) rfl (fun K hK => ?_) AllReadyH.nil
  go_simp
  refine (HM.out _ _ HS3).mono ?_
  rintro e w4 ⟨rfl, HS4⟩
  clear hHeld
  refine hK.out _ _ HS4.out.cells (fun hHeld => ?_)
  clear hK K
  refine wpAnyH_take (i := 14) (oi := { dst := some 19, op := Op.pick (Operand.tmp 11) (Operand.tmp 18) (Operand.const (Value.bool false)), type := 4, pos := "acl.go:49", after := #[{ on := 6, ground := Ground.data }, { on := 13, ground := Ground.data }], guard := none }) (v := ?_) rfl (by kernel_rfl) (by kernel_rfl) (by kernel_rfl) (fun _ _ _ h => h) (Or.inl ⟨by rfl, ?_⟩) (by assumption) ?_
  rotate_left
  · (intro w hSw; (try dsimp only at hSw); go_simp) <;> with_reducible rfl
  try simp only [Act.put, List.setIfInBounds_toArray, List.set_cons_zero, List.set_cons_succ]
  refine wpAnyH_take (i := 15) (oi := { dst := some 4, op := Op.assign (Operand.tmp 19), type := 4, pos := "acl.go:49", after := #[{ on := 14, ground := Ground.data }, { on := 13, ground := Ground.chain }, { on := 0, ground := Ground.phase }, { on := 1, ground := Ground.phase }, { on := 2, ground := Ground.phase }, { on := 3, ground := Ground.phase }, { on := 4, ground := Ground.phase }, { on := 5, ground := Ground.phase }, { on := 6, ground := Ground.phase }, { on := 7, ground := Ground.phase }, { on := 8, ground := Ground.phase }, { on := 9, ground := Ground.phase }, { on := 10, ground := Ground.phase }, { on := 11, ground := Ground.phase }, { on := 12, ground := Ground.phase }, { on := 13, ground := Ground.phase }, { on := 14, ground := Ground.phase }], guard := none }) (v := ?_) rfl (by kernel_rfl) (by kernel_rfl) (by kernel_rfl) (fun _ _ _ h => h) (Or.inl ⟨by rfl, ?_⟩) (by assumption) ?_
  rotate_left
  · (intro w hSw; (try dsimp only at hSw); go_simp) <;> with_reducible rfl
  try simp only [Act.put, List.setIfInBounds_toArray, List.set_cons_zero, List.set_cons_succ]
  refine wpAnyH_done (by kernel_rfl) ?_ _
  all_goals go_wp2
  all_goals (go_ret; exact ⟨rfl, HS4.out.2.2⟩)

set_option maxHeartbeats 2000000 in
theorem meets_name (en ws wn : ByteArray) (hs : en.size ≤ 4294967296) (ht : wn.size ≤ 4294967296) (he : enD nameB.data.toList en.data.toList = true) (hc : clD ws.data.toList wn.data.toList = true) (w : World) :
    Calls Tryd.prog 48 #[.agg #[.string nameB, .string en], .agg #[.string ws, .string wn]] w fun e w' => e = .returned (.bool (decide (ws.data.toList = sName) && decide (en.data.toList = wn.data.toList))) ∧ Below w.heap.size w w' := by
  obtain ⟨bm, hbm⟩ : ∃ b : Bool, b = (decide (ws.data.toList = sName) && decide (en.data.toList = wn.data.toList)) := ⟨_, rfl⟩
  have HE : Hid (∀ V, Hid (PMg nameB en ws wn w V) → Calls Tryd.prog 37 #[.agg #[.string nameB, .string en]] V fun e w' => e = .returned (.bool true) ∧ Hid (PMg nameB en ws wn w w')) := fun V hV => by
    rw [← he]
    exact (isOfEntry_gen nameB en hs V).mono (fun e w' h => ⟨h.1, hV.out.below h.2⟩)
  have HC : Hid (∀ V, Hid (PMg nameB en ws wn w V) → Calls Tryd.prog 25 #[.agg #[.string ws, .string wn]] V fun e w' => e = .returned (.bool true) ∧ Hid (PMg nameB en ws wn w w')) := fun V hV => by
    rw [← hc]
    exact (isOfClient_gen ws wn ht V).mono (fun e w' h => ⟨h.1, hV.out.below h.2⟩)
  have HSo : Hid (∀ V, Hid (PMg nameB en ws wn w V) → Calls Tryd.prog 39 #[.agg #[.string nameB, .string en]] V fun e w' => ∃ c, e = .returned (.agg #[.string nameB, fnV 68, fnV 68, fn2 78 (c + 3)]) ∧ Hid (PMg nameB en ws wn w w' ∧ Cau c w' ∧ c + 6 ≤ w'.heap.size)) := fun V hV =>
    (schemeOf_name en V).mono (fun e w' ⟨c, g1, g2, g3, _, g5⟩ => ⟨c, g1, hV.out.below g2, g3, g5⟩)
  have HM : Hid (∀ (c : Nat) (V : World), Hid (PMg nameB en ws wn w V ∧ Cau c V ∧ c + 6 ≤ V.heap.size) → Calls Tryd.prog 78 #[.string en, .agg #[.string ws, .string wn], .pointer (some ⟨c + 3, 0, none⟩), .pointer (some ⟨c + 3 + 1, 0, none⟩)] V fun e w' => e = .returned (.bool bm) ∧ Hid (PMg nameB en ws wn w w')) := fun c V hV => by
    rw [hbm]
    by_cases hw : ws.data.toList = nameB.data.toList
    · rw [decide_eq_true (show ws.data.toList = sName from hw), Bool.true_and]
      have h := by1_name en wn c V hV.out.2.1 hV.out.2.2
      rw [← ba_ext hw] at h
      exact h.mono (fun e w' h => ⟨h.1, hV.out.1.below h.2⟩)
    · rw [decide_eq_false (show ¬ ws.data.toList = sName from hw), Bool.false_and]
      exact (by1_no en ws wn nameB (c + 3) V (cell_of_row V (c + 3) 0 _ _ _ hV.out.2.1.2.2.2.1) hw).mono (fun e w' h => ⟨h.1, hV.out.1.below h.2⟩)
  rw [← hbm]
  have HW : Hid (PMg nameB en ws wn w ((w.alloc (.cells #[.string nameB, .string en] 37)).alloc (.cells #[.string ws, .string wn] 37)).drew) := PMg.start nameB en ws wn w
  have hfd : ∀ (c : Nat) (W : World), (Instr.field 61 (.agg #[.string nameB, fnV 68, fnV 68, fn2 78 (c + 3)]) 3).run Tryd.prog W = .ok (fn2 78 (c + 3)) W := fun c W => by kernel_rfl
  clear he hs hc ht hbm
  go_enter Tryd.func48, Tryd.ntmps48
  go_wp2_with fail
  refine wp_region_held_drew (S := fun w' => w'.cell? ⟨w.heap.size, 0, none⟩ = some (.string nameB) ∧ w'.cell? ⟨w.heap.size, 1, none⟩ = some (.string en) ∧ w'.cell? ⟨w.heap.size + 1, 0, none⟩ = some (.string ws) ∧ w'.cell? ⟨w.heap.size + 1, 1, none⟩ = some (.string wn)) (by kernel_rfl) ?_ (fun hHeld => ?_)
  · exact HW.out.cells
  refine wpAnyH_take (i := 0) (oi := { dst := some 5, op := Op.load 37 (Operand.tmp 2), type := 37, pos := "acl.go:49", after := #[], guard := none }) (v := ?_) rfl (by kernel_rfl) (by kernel_rfl) (by kernel_rfl) (fun _ _ _ h => h) (Or.inl ⟨by rfl, ?_⟩) (by assumption) ?_
  rotate_left
  · (intro w hSw; (try dsimp only at hSw); go_simp) <;> with_reducible rfl
  try simp only [Act.put, List.setIfInBounds_toArray, List.set_cons_zero, List.set_cons_succ]
  refine wpAnyH_ready (rs := [1]) (by kernel_rfl) (by simp) ?_
  refine AllReadyH.cons (o := { dst := some 6, op := Op.call { callee := Callee.value (Operand.func 37), args := #[Operand.tmp 5], argTypes := #[37] }, type := 4, pos := "acl.go:49", after := #[{ on := 0, ground := Ground.data }], guard := none }) rfl (fun K hK => ?_) AllReadyH.nil
  go_simp
  refine (HE.out _ HW).mono ?_
  rintro e w1 ⟨rfl, HS1⟩
  clear hHeld
  refine hK.out _ _ HS1.out.cells (fun hHeld => ?_)
  clear hK K
  refine wpAnyH_take (i := 2) (oi := { dst := some 7, op := Op.move (Operand.tmp 6), type := 4, pos := "acl.go:49", after := #[{ on := 1, ground := Ground.data }, { on := 1, ground := Ground.chain }], guard := none }) (v := ?_) rfl (by kernel_rfl) (by kernel_rfl) (by kernel_rfl) (fun _ _ _ h => h) (Or.inl ⟨by rfl, ?_⟩) (by assumption) ?_
  rotate_left
  · (intro w hSw; (try dsimp only at hSw); go_simp) <;> with_reducible rfl
  try simp only [Act.put, List.setIfInBounds_toArray, List.set_cons_zero, List.set_cons_succ]
  refine wpAnyH_take (i := 3) (oi := { dst := some 8, op := Op.load 37 (Operand.tmp 3), type := 37, pos := "acl.go:49", after := #[{ on := 2, ground := Ground.guard }], guard := some (2, true) }) (v := ?_) rfl (by kernel_rfl) (by kernel_rfl) (by kernel_rfl) (fun _ _ _ h => h) (Or.inl ⟨by rfl, ?_⟩) (by assumption) ?_
  rotate_left
  · (intro w hSw; (try dsimp only at hSw); go_simp) <;> with_reducible rfl
  try simp only [Act.put, List.setIfInBounds_toArray, List.set_cons_zero, List.set_cons_succ]
  refine wpAnyH_ready (rs := [4]) (by kernel_rfl) (by simp) ?_
  refine AllReadyH.cons (o := { dst := some 9, op := Op.call { callee := Callee.value (Operand.func 25), args := #[Operand.tmp 8], argTypes := #[37] }, type := 4, pos := "acl.go:49", after := #[{ on := 3, ground := Ground.data }, { on := 2, ground := Ground.chain }, { on := 2, ground := Ground.guard }], guard := some (2, true) }) rfl (fun K hK => ?_) AllReadyH.nil
  go_simp
  refine (HC.out _ HS1).mono ?_
  rintro e w2 ⟨rfl, HS2⟩
  clear hHeld
  refine hK.out _ _ HS2.out.cells (fun hHeld => ?_)
  clear hK K
  refine wpAnyH_take (i := 5) (oi := { dst := some 10, op := Op.pick (Operand.tmp 7) (Operand.tmp 9) (Operand.const (Value.bool false)), type := 4, pos := "acl.go:49", after := #[{ on := 2, ground := Ground.data }, { on := 4, ground := Ground.data }], guard := none }) (v := ?_) rfl (by kernel_rfl) (by kernel_rfl) (by kernel_rfl) (fun _ _ _ h => h) (Or.inl ⟨by rfl, ?_⟩) (by assumption) ?_
  rotate_left
  · (intro w hSw; (try dsimp only at hSw); go_simp) <;> with_reducible rfl
  try simp only [Act.put, List.setIfInBounds_toArray, List.set_cons_zero, List.set_cons_succ]
  refine wpAnyH_take (i := 6) (oi := { dst := some 11, op := Op.move (Operand.tmp 10), type := 4, pos := "acl.go:49", after := #[{ on := 5, ground := Ground.data }, { on := 4, ground := Ground.chain }], guard := none }) (v := ?_) rfl (by kernel_rfl) (by kernel_rfl) (by kernel_rfl) (fun _ _ _ h => h) (Or.inl ⟨by rfl, ?_⟩) (by assumption) ?_
  rotate_left
  · (intro w hSw; (try dsimp only at hSw); go_simp) <;> with_reducible rfl
  try simp only [Act.put, List.setIfInBounds_toArray, List.set_cons_zero, List.set_cons_succ]
  refine wpAnyH_take (i := 7) (oi := { dst := some 12, op := Op.load 37 (Operand.tmp 2), type := 37, pos := "acl.go:49", after := #[{ on := 6, ground := Ground.guard }], guard := some (6, true) }) (v := ?_) rfl (by kernel_rfl) (by kernel_rfl) (by kernel_rfl) (fun _ _ _ h => h) (Or.inl ⟨by rfl, ?_⟩) (by assumption) ?_
  rotate_left
  · (intro w hSw; (try dsimp only at hSw); go_simp) <;> with_reducible rfl
  try simp only [Act.put, List.setIfInBounds_toArray, List.set_cons_zero, List.set_cons_succ]
  refine wpAnyH_take (i := 10) (oi := { dst := some 15, op := Op.fieldAddr 37 (Operand.tmp 2) 1, type := 0, pos := "acl.go:49", after := #[{ on := 6, ground := Ground.guard }], guard := some (6, true) }) (v := ?_) rfl (by kernel_rfl) (by kernel_rfl) (by kernel_rfl) (fun _ _ _ h => h) (Or.inl ⟨by rfl, ?_⟩) (by assumption) ?_
  rotate_left
  · (intro w hSw; (try dsimp only at hSw); go_simp) <;> with_reducible rfl
  try simp only [Act.put, List.setIfInBounds_toArray, List.set_cons_zero, List.set_cons_succ]
  refine wpAnyH_take (i := 11) (oi := { dst := some 16, op := Op.load 9 (Operand.tmp 15), type := 9, pos := "acl.go:49", after := #[{ on := 10, ground := Ground.data }, { on := 6, ground := Ground.guard }], guard := some (6, true) }) (v := ?_) rfl (by kernel_rfl) (by kernel_rfl) (by kernel_rfl) (fun _ _ _ h => h) (Or.inl ⟨by rfl, ?_⟩) (by assumption) ?_
  rotate_left
  · (intro w hSw; (try dsimp only at hSw); go_simp) <;> with_reducible rfl
  try simp only [Act.put, List.setIfInBounds_toArray, List.set_cons_zero, List.set_cons_succ]
  refine wpAnyH_take (i := 12) (oi := { dst := some 17, op := Op.load 37 (Operand.tmp 3), type := 37, pos := "acl.go:49", after := #[{ on := 6, ground := Ground.guard }], guard := some (6, true) }) (v := ?_) rfl (by kernel_rfl) (by kernel_rfl) (by kernel_rfl) (fun _ _ _ h => h) (Or.inl ⟨by rfl, ?_⟩) (by assumption) ?_
  rotate_left
  · (intro w hSw; (try dsimp only at hSw); go_simp) <;> with_reducible rfl
  try simp only [Act.put, List.setIfInBounds_toArray, List.set_cons_zero, List.set_cons_succ]
  refine wpAnyH_ready (rs := [8]) (by kernel_rfl) (by simp) ?_
  refine AllReadyH.cons (o := { dst := some 13, op := Op.call { callee := Callee.value (Operand.func 39), args := #[Operand.tmp 12], argTypes := #[37] }, type := 61, pos := "acl.go:49", after := #[{ on := 7, ground := Ground.data }, { on := 6, ground := Ground.chain }, { on := 6, ground := Ground.guard }], guard := some (6, true) }) rfl (fun K hK => ?_) AllReadyH.nil
  go_simp
  refine (HSo.out _ HS2).mono ?_
  rintro e w3 ⟨c, rfl, HS3⟩
  clear hHeld
  refine hK.out _ _ HS3.out.1.cells (fun hHeld => ?_)
  clear hK K
  refine wpAnyH_take (i := 9) (oi := { dst := some 14, op := Op.field 61 (Operand.tmp 13) 3, type := 59, pos := "acl.go:49", after := #[{ on := 8, ground := Ground.data }, { on := 6, ground := Ground.guard }], guard := some (6, true) }) (v := ?_) rfl (by kernel_rfl) (by kernel_rfl) (by kernel_rfl) (fun _ _ _ h => h) (Or.inl ⟨by rfl, ?_⟩) (by assumption) ?_
  rotate_left
  · (intro w hSw; (try dsimp only at hSw); go_simp) <;> with_reducible rfl
  try simp only [Act.put, List.setIfInBounds_toArray, List.set_cons_zero, List.set_cons_succ]
  refine wpAnyH_ready (rs := [13]) (by kernel_rfl) (by simp) ?_
  refine AllReadyH.cons (o := { dst := some 18, op := Op.call { callee := Callee.value (Operand.tmp 14), args := #[Operand.tmp 16, Operand.tmp 17], argTypes := #[9, 37] }, type := 4, pos := "acl.go:49", after := #[{ on := 9, ground := Ground.data }, { on := 11, ground := Ground.data }, { on := 12, ground := Ground.data }, { on := 8, ground := Ground.chain }, { on := 6, ground := Ground.guard }], guard := some (6, true) }) rfl (fun K hK => ?_) AllReadyH.nil
  go_simp
  refine (HM.out _ _ HS3).mono ?_
  rintro e w4 ⟨rfl, HS4⟩
  clear hHeld
  refine hK.out _ _ HS4.out.cells (fun hHeld => ?_)
  clear hK K
  refine wpAnyH_take (i := 14) (oi := { dst := some 19, op := Op.pick (Operand.tmp 11) (Operand.tmp 18) (Operand.const (Value.bool false)), type := 4, pos := "acl.go:49", after := #[{ on := 6, ground := Ground.data }, { on := 13, ground := Ground.data }], guard := none }) (v := ?_) rfl (by kernel_rfl) (by kernel_rfl) (by kernel_rfl) (fun _ _ _ h => h) (Or.inl ⟨by rfl, ?_⟩) (by assumption) ?_
  rotate_left
  · (intro w hSw; (try dsimp only at hSw); go_simp) <;> with_reducible rfl
  try simp only [Act.put, List.setIfInBounds_toArray, List.set_cons_zero, List.set_cons_succ]
  refine wpAnyH_take (i := 15) (oi := { dst := some 4, op := Op.assign (Operand.tmp 19), type := 4, pos := "acl.go:49", after := #[{ on := 14, ground := Ground.data }, { on := 13, ground := Ground.chain }, { on := 0, ground := Ground.phase }, { on := 1, ground := Ground.phase }, { on := 2, ground := Ground.phase }, { on := 3, ground := Ground.phase }, { on := 4, ground := Ground.phase }, { on := 5, ground := Ground.phase }, { on := 6, ground := Ground.phase }, { on := 7, ground := Ground.phase }, { on := 8, ground := Ground.phase }, { on := 9, ground := Ground.phase }, { on := 10, ground := Ground.phase }, { on := 11, ground := Ground.phase }, { on := 12, ground := Ground.phase }, { on := 13, ground := Ground.phase }, { on := 14, ground := Ground.phase }], guard := none }) (v := ?_) rfl (by kernel_rfl) (by kernel_rfl) (by kernel_rfl) (fun _ _ _ h => h) (Or.inl ⟨by rfl, ?_⟩) (by assumption) ?_
  rotate_left
  · (intro w hSw; (try dsimp only at hSw); go_simp) <;> with_reducible rfl
  try simp only [Act.put, List.setIfInBounds_toArray, List.set_cons_zero, List.set_cons_succ]
  refine wpAnyH_done (by kernel_rfl) ?_ _
  all_goals go_wp2
  all_goals (go_ret; exact ⟨rfl, HS4.out.2.2⟩)

set_option maxHeartbeats 2000000 in
theorem meets_auth (en ws wn : ByteArray) (hs : en.size ≤ 4294967296) (ht : wn.size ≤ 4294967296) (he : enD authB.data.toList en.data.toList = true) (hc : clD ws.data.toList wn.data.toList = true) (w : World) :
    Calls Tryd.prog 48 #[.agg #[.string authB, .string en], .agg #[.string ws, .string wn]] w fun e w' => e = .returned (.bool (false)) ∧ Below w.heap.size w w' := by
  obtain ⟨bm, hbm⟩ : ∃ b : Bool, b = (false) := ⟨_, rfl⟩
  have HE : Hid (∀ V, Hid (PMg authB en ws wn w V) → Calls Tryd.prog 37 #[.agg #[.string authB, .string en]] V fun e w' => e = .returned (.bool true) ∧ Hid (PMg authB en ws wn w w')) := fun V hV => by
    rw [← he]
    exact (isOfEntry_gen authB en hs V).mono (fun e w' h => ⟨h.1, hV.out.below h.2⟩)
  have HC : Hid (∀ V, Hid (PMg authB en ws wn w V) → Calls Tryd.prog 25 #[.agg #[.string ws, .string wn]] V fun e w' => e = .returned (.bool true) ∧ Hid (PMg authB en ws wn w w')) := fun V hV => by
    rw [← hc]
    exact (isOfClient_gen ws wn ht V).mono (fun e w' h => ⟨h.1, hV.out.below h.2⟩)
  have HSo : Hid (∀ V, Hid (PMg authB en ws wn w V) → Calls Tryd.prog 39 #[.agg #[.string authB, .string en]] V fun e w' => ∃ c, e = .returned (.agg #[.string authB, fnV 54, fn1 75 (c + 5), fnV 55]) ∧ Hid (PMg authB en ws wn w w' ∧ Cau c w' ∧ c + 6 ≤ w'.heap.size)) := fun V hV =>
    (schemeOf_auth en V).mono (fun e w' ⟨c, g1, g2, g3, _, g5⟩ => ⟨c, g1, hV.out.below g2, g3, g5⟩)
  have HM : Hid (∀ (c : Nat) (V : World), Hid (PMg authB en ws wn w V ∧ Cau c V ∧ c + 6 ≤ V.heap.size) → Calls Tryd.prog 55 #[.string en, .agg #[.string ws, .string wn]] V fun e w' => e = .returned (.bool bm) ∧ Hid (PMg authB en ws wn w w')) := fun c V hV => by
    rw [hbm]
    exact (byNobody_any en ws wn V).mono (fun e w' h => ⟨h.1, hV.out.1.below h.2⟩)
  rw [← hbm]
  have HW : Hid (PMg authB en ws wn w ((w.alloc (.cells #[.string authB, .string en] 37)).alloc (.cells #[.string ws, .string wn] 37)).drew) := PMg.start authB en ws wn w
  have hfd : ∀ (c : Nat) (W : World), (Instr.field 61 (.agg #[.string authB, fnV 54, fn1 75 (c + 5), fnV 55]) 3).run Tryd.prog W = .ok (fnV 55) W := fun c W => by kernel_rfl
  clear he hs hc ht hbm
  go_enter Tryd.func48, Tryd.ntmps48
  go_wp2_with fail
  refine wp_region_held_drew (S := fun w' => w'.cell? ⟨w.heap.size, 0, none⟩ = some (.string authB) ∧ w'.cell? ⟨w.heap.size, 1, none⟩ = some (.string en) ∧ w'.cell? ⟨w.heap.size + 1, 0, none⟩ = some (.string ws) ∧ w'.cell? ⟨w.heap.size + 1, 1, none⟩ = some (.string wn)) (by kernel_rfl) ?_ (fun hHeld => ?_)
  · exact HW.out.cells
  refine wpAnyH_take (i := 0) (oi := { dst := some 5, op := Op.load 37 (Operand.tmp 2), type := 37, pos := "acl.go:49", after := #[], guard := none }) (v := ?_) rfl (by kernel_rfl) (by kernel_rfl) (by kernel_rfl) (fun _ _ _ h => h) (Or.inl ⟨by rfl, ?_⟩) (by assumption) ?_
  rotate_left
  · (intro w hSw; (try dsimp only at hSw); go_simp) <;> with_reducible rfl
  try simp only [Act.put, List.setIfInBounds_toArray, List.set_cons_zero, List.set_cons_succ]
  refine wpAnyH_ready (rs := [1]) (by kernel_rfl) (by simp) ?_
  refine AllReadyH.cons (o := { dst := some 6, op := Op.call { callee := Callee.value (Operand.func 37), args := #[Operand.tmp 5], argTypes := #[37] }, type := 4, pos := "acl.go:49", after := #[{ on := 0, ground := Ground.data }], guard := none }) rfl (fun K hK => ?_) AllReadyH.nil
  go_simp
  refine (HE.out _ HW).mono ?_
  rintro e w1 ⟨rfl, HS1⟩
  clear hHeld
  refine hK.out _ _ HS1.out.cells (fun hHeld => ?_)
  clear hK K
  refine wpAnyH_take (i := 2) (oi := { dst := some 7, op := Op.move (Operand.tmp 6), type := 4, pos := "acl.go:49", after := #[{ on := 1, ground := Ground.data }, { on := 1, ground := Ground.chain }], guard := none }) (v := ?_) rfl (by kernel_rfl) (by kernel_rfl) (by kernel_rfl) (fun _ _ _ h => h) (Or.inl ⟨by rfl, ?_⟩) (by assumption) ?_
  rotate_left
  · (intro w hSw; (try dsimp only at hSw); go_simp) <;> with_reducible rfl
  try simp only [Act.put, List.setIfInBounds_toArray, List.set_cons_zero, List.set_cons_succ]
  refine wpAnyH_take (i := 3) (oi := { dst := some 8, op := Op.load 37 (Operand.tmp 3), type := 37, pos := "acl.go:49", after := #[{ on := 2, ground := Ground.guard }], guard := some (2, true) }) (v := ?_) rfl (by kernel_rfl) (by kernel_rfl) (by kernel_rfl) (fun _ _ _ h => h) (Or.inl ⟨by rfl, ?_⟩) (by assumption) ?_
  rotate_left
  · (intro w hSw; (try dsimp only at hSw); go_simp) <;> with_reducible rfl
  try simp only [Act.put, List.setIfInBounds_toArray, List.set_cons_zero, List.set_cons_succ]
  refine wpAnyH_ready (rs := [4]) (by kernel_rfl) (by simp) ?_
  refine AllReadyH.cons (o := { dst := some 9, op := Op.call { callee := Callee.value (Operand.func 25), args := #[Operand.tmp 8], argTypes := #[37] }, type := 4, pos := "acl.go:49", after := #[{ on := 3, ground := Ground.data }, { on := 2, ground := Ground.chain }, { on := 2, ground := Ground.guard }], guard := some (2, true) }) rfl (fun K hK => ?_) AllReadyH.nil
  go_simp
  refine (HC.out _ HS1).mono ?_
  rintro e w2 ⟨rfl, HS2⟩
  clear hHeld
  refine hK.out _ _ HS2.out.cells (fun hHeld => ?_)
  clear hK K
  refine wpAnyH_take (i := 5) (oi := { dst := some 10, op := Op.pick (Operand.tmp 7) (Operand.tmp 9) (Operand.const (Value.bool false)), type := 4, pos := "acl.go:49", after := #[{ on := 2, ground := Ground.data }, { on := 4, ground := Ground.data }], guard := none }) (v := ?_) rfl (by kernel_rfl) (by kernel_rfl) (by kernel_rfl) (fun _ _ _ h => h) (Or.inl ⟨by rfl, ?_⟩) (by assumption) ?_
  rotate_left
  · (intro w hSw; (try dsimp only at hSw); go_simp) <;> with_reducible rfl
  try simp only [Act.put, List.setIfInBounds_toArray, List.set_cons_zero, List.set_cons_succ]
  refine wpAnyH_take (i := 6) (oi := { dst := some 11, op := Op.move (Operand.tmp 10), type := 4, pos := "acl.go:49", after := #[{ on := 5, ground := Ground.data }, { on := 4, ground := Ground.chain }], guard := none }) (v := ?_) rfl (by kernel_rfl) (by kernel_rfl) (by kernel_rfl) (fun _ _ _ h => h) (Or.inl ⟨by rfl, ?_⟩) (by assumption) ?_
  rotate_left
  · (intro w hSw; (try dsimp only at hSw); go_simp) <;> with_reducible rfl
  try simp only [Act.put, List.setIfInBounds_toArray, List.set_cons_zero, List.set_cons_succ]
  refine wpAnyH_take (i := 7) (oi := { dst := some 12, op := Op.load 37 (Operand.tmp 2), type := 37, pos := "acl.go:49", after := #[{ on := 6, ground := Ground.guard }], guard := some (6, true) }) (v := ?_) rfl (by kernel_rfl) (by kernel_rfl) (by kernel_rfl) (fun _ _ _ h => h) (Or.inl ⟨by rfl, ?_⟩) (by assumption) ?_
  rotate_left
  · (intro w hSw; (try dsimp only at hSw); go_simp) <;> with_reducible rfl
  try simp only [Act.put, List.setIfInBounds_toArray, List.set_cons_zero, List.set_cons_succ]
  refine wpAnyH_take (i := 10) (oi := { dst := some 15, op := Op.fieldAddr 37 (Operand.tmp 2) 1, type := 0, pos := "acl.go:49", after := #[{ on := 6, ground := Ground.guard }], guard := some (6, true) }) (v := ?_) rfl (by kernel_rfl) (by kernel_rfl) (by kernel_rfl) (fun _ _ _ h => h) (Or.inl ⟨by rfl, ?_⟩) (by assumption) ?_
  rotate_left
  · (intro w hSw; (try dsimp only at hSw); go_simp) <;> with_reducible rfl
  try simp only [Act.put, List.setIfInBounds_toArray, List.set_cons_zero, List.set_cons_succ]
  refine wpAnyH_take (i := 11) (oi := { dst := some 16, op := Op.load 9 (Operand.tmp 15), type := 9, pos := "acl.go:49", after := #[{ on := 10, ground := Ground.data }, { on := 6, ground := Ground.guard }], guard := some (6, true) }) (v := ?_) rfl (by kernel_rfl) (by kernel_rfl) (by kernel_rfl) (fun _ _ _ h => h) (Or.inl ⟨by rfl, ?_⟩) (by assumption) ?_
  rotate_left
  · (intro w hSw; (try dsimp only at hSw); go_simp) <;> with_reducible rfl
  try simp only [Act.put, List.setIfInBounds_toArray, List.set_cons_zero, List.set_cons_succ]
  refine wpAnyH_take (i := 12) (oi := { dst := some 17, op := Op.load 37 (Operand.tmp 3), type := 37, pos := "acl.go:49", after := #[{ on := 6, ground := Ground.guard }], guard := some (6, true) }) (v := ?_) rfl (by kernel_rfl) (by kernel_rfl) (by kernel_rfl) (fun _ _ _ h => h) (Or.inl ⟨by rfl, ?_⟩) (by assumption) ?_
  rotate_left
  · (intro w hSw; (try dsimp only at hSw); go_simp) <;> with_reducible rfl
  try simp only [Act.put, List.setIfInBounds_toArray, List.set_cons_zero, List.set_cons_succ]
  refine wpAnyH_ready (rs := [8]) (by kernel_rfl) (by simp) ?_
  refine AllReadyH.cons (o := { dst := some 13, op := Op.call { callee := Callee.value (Operand.func 39), args := #[Operand.tmp 12], argTypes := #[37] }, type := 61, pos := "acl.go:49", after := #[{ on := 7, ground := Ground.data }, { on := 6, ground := Ground.chain }, { on := 6, ground := Ground.guard }], guard := some (6, true) }) rfl (fun K hK => ?_) AllReadyH.nil
  go_simp
  refine (HSo.out _ HS2).mono ?_
  rintro e w3 ⟨c, rfl, HS3⟩
  clear hHeld
  refine hK.out _ _ HS3.out.1.cells (fun hHeld => ?_)
  clear hK K
  refine wpAnyH_take (i := 9) (oi := { dst := some 14, op := Op.field 61 (Operand.tmp 13) 3, type := 59, pos := "acl.go:49", after := #[{ on := 8, ground := Ground.data }, { on := 6, ground := Ground.guard }], guard := some (6, true) }) (v := ?_) rfl (by kernel_rfl) (by kernel_rfl) (by kernel_rfl) (fun _ _ _ h => h) (Or.inl ⟨by rfl, ?_⟩) (by assumption) ?_
  rotate_left
  · (intro w hSw; (try dsimp only at hSw); go_simp) <;> with_reducible rfl
  try simp only [Act.put, List.setIfInBounds_toArray, List.set_cons_zero, List.set_cons_succ]
  refine wpAnyH_ready (rs := [13]) (by kernel_rfl) (by simp) ?_
  refine AllReadyH.cons (o := { dst := some 18, op := Op.call { callee := Callee.value (Operand.tmp 14), args := #[Operand.tmp 16, Operand.tmp 17], argTypes := #[9, 37] }, type := 4, pos := "acl.go:49", after := #[{ on := 9, ground := Ground.data }, { on := 11, ground := Ground.data }, { on := 12, ground := Ground.data }, { on := 8, ground := Ground.chain }, { on := 6, ground := Ground.guard }], guard := some (6, true) }) rfl (fun K hK => ?_) AllReadyH.nil
  go_simp
  refine (HM.out _ _ HS3).mono ?_
  rintro e w4 ⟨rfl, HS4⟩
  clear hHeld
  refine hK.out _ _ HS4.out.cells (fun hHeld => ?_)
  clear hK K
  refine wpAnyH_take (i := 14) (oi := { dst := some 19, op := Op.pick (Operand.tmp 11) (Operand.tmp 18) (Operand.const (Value.bool false)), type := 4, pos := "acl.go:49", after := #[{ on := 6, ground := Ground.data }, { on := 13, ground := Ground.data }], guard := none }) (v := ?_) rfl (by kernel_rfl) (by kernel_rfl) (by kernel_rfl) (fun _ _ _ h => h) (Or.inl ⟨by rfl, ?_⟩) (by assumption) ?_
  rotate_left
  · (intro w hSw; (try dsimp only at hSw); go_simp) <;> with_reducible rfl
  try simp only [Act.put, List.setIfInBounds_toArray, List.set_cons_zero, List.set_cons_succ]
  refine wpAnyH_take (i := 15) (oi := { dst := some 4, op := Op.assign (Operand.tmp 19), type := 4, pos := "acl.go:49", after := #[{ on := 14, ground := Ground.data }, { on := 13, ground := Ground.chain }, { on := 0, ground := Ground.phase }, { on := 1, ground := Ground.phase }, { on := 2, ground := Ground.phase }, { on := 3, ground := Ground.phase }, { on := 4, ground := Ground.phase }, { on := 5, ground := Ground.phase }, { on := 6, ground := Ground.phase }, { on := 7, ground := Ground.phase }, { on := 8, ground := Ground.phase }, { on := 9, ground := Ground.phase }, { on := 10, ground := Ground.phase }, { on := 11, ground := Ground.phase }, { on := 12, ground := Ground.phase }, { on := 13, ground := Ground.phase }, { on := 14, ground := Ground.phase }], guard := none }) (v := ?_) rfl (by kernel_rfl) (by kernel_rfl) (by kernel_rfl) (fun _ _ _ h => h) (Or.inl ⟨by rfl, ?_⟩) (by assumption) ?_
  rotate_left
  · (intro w hSw; (try dsimp only at hSw); go_simp) <;> with_reducible rfl
  try simp only [Act.put, List.setIfInBounds_toArray, List.set_cons_zero, List.set_cons_succ]
  refine wpAnyH_done (by kernel_rfl) ?_ _
  all_goals go_wp2
  all_goals (go_ret; exact ⟨rfl, HS4.out.2.2⟩)

/-- Two ids that meet, as the program tells it. -/
def metD (es en ws wn : Bs) : Bool := enD es en && clD ws wn && (if es = sWorld then true else if es = sIp then decide (ws = sIp) && witD en wn else if es = sName then decide (ws = sName) && decide (en = wn) else false)

theorem meets_gen (es en ws wn : ByteArray) (hs : en.size ≤ 4294967296) (ht : wn.size ≤ 4294967296) (w : World) :
    Calls Tryd.prog 48 #[.agg #[.string es, .string en], .agg #[.string ws, .string wn]] w fun e w' => e = .returned (.bool (metD es.data.toList en.data.toList ws.data.toList wn.data.toList)) ∧ Below w.heap.size w w' := by
  unfold metD
  cases he : enD es.data.toList en.data.toList
  · exact meets_e_no es en ws wn hs he w
  cases hc : clD ws.data.toList wn.data.toList
  · exact meets_c_no es en ws wn hs ht he hc w
  rw [Bool.true_and, Bool.true_and]
  by_cases h0 : es.data.toList = worldB.data.toList
  · obtain rfl := ba_ext h0
    exact meets_world en ws wn hs ht he hc w
  by_cases h1 : es.data.toList = ipB.data.toList
  · obtain rfl := ba_ext h1
    exact meets_ip en ws wn hs ht he hc w
  by_cases h2 : es.data.toList = nameB.data.toList
  · obtain rfl := ba_ext h2
    exact meets_name en ws wn hs ht he hc w
  rw [if_neg (show ¬ es.data.toList = sWorld from h0), if_neg (show ¬ es.data.toList = sIp from h1), if_neg (show ¬ es.data.toList = sName from h2)]
  by_cases h3 : es.data.toList = authB.data.toList
  · obtain rfl := ba_ext h3
    exact meets_auth en ws wn hs ht he hc w
  · unfold enD at he
    rw [if_neg (show ¬ es.data.toList = sWorld from h0), if_neg (show ¬ es.data.toList = sIp from h1), if_neg (show ¬ es.data.toList = sName from h2), decide_eq_false (show ¬ es.data.toList = sAuth from h3)] at he
    cases he

end Go.Proofs.YtjakjbfeaiempaaDoor
