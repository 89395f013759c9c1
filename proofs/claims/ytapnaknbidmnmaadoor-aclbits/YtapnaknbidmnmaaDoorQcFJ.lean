/- What acl's Check and CheckIds answer, for every list. -/
import Derived.Test.YtapnaknbidmnmaaDoorQcDJ
import Derived.Test.YtapnaknbidmnmaaDoorQcEJ
namespace Go.Proofs.YtapnaknbidmnmaaDoor
open Go.RowKit Go.Shelf
set_option maxRecDepth 8000

theorem isPerms_any (p : Int) (w : World) : Calls Tryd.prog 23 #[.int .i8 p] w fun e w' => e = .returned (.bool (decide (0 ≤ p ∧ p ≤ 31))) ∧ w' = w := by
  by_cases h0 : 0 ≤ p
  · have d0 : decide (0 ≤ p) = true := by simp; omega
    by_cases h1 : p ≤ 31
    · have d1 : decide (p ≤ 31) = true := by simp; omega
      rw [decide_eq_true ⟨h0, h1⟩]
      go_enter Tryd.func23, Tryd.ntmps23
      go_wp2
      all_goals (go_ret; exact ⟨rfl, rfl⟩)
    · have d1 : decide (p ≤ 31) = false := by simp; omega
      rw [decide_eq_false (fun h => h1 h.2)]
      go_enter Tryd.func23, Tryd.ntmps23
      go_wp2
      all_goals (go_ret; exact ⟨rfl, rfl⟩)
  · have d0 : decide (0 ≤ p) = false := by simp; omega
    rw [decide_eq_false (fun h => h0 h.1)]
    go_enter Tryd.func23, Tryd.ntmps23
    go_wp2
    all_goals (go_ret; exact ⟨rfl, rfl⟩)

/-- An entry that may be; a client's id that may be. -/
def enOk (x : EnT) : Bool := decide (¬ x.1 = 0 ∧ 0 ≤ x.1 ∧ x.1 ≤ 31) && enD x.2.1.data.toList x.2.2.data.toList
def idOk (x : IdT) : Bool := clD x.1.data.toList x.2.data.toList

set_option maxHeartbeats 1000000 in
theorem isEntry_any (x : EnT) (hs : x.2.2.size ≤ 4294967296) (w : World) : Calls Tryd.prog 19 #[.agg (enCs x)] w fun e w' => e = .returned (.bool (enOk x)) ∧ Below w.heap.size w w' := by
  obtain ⟨p, sc, nm⟩ := x
  have hB : Below w.heap.size w (w.alloc (.cells (enCs (p, sc, nm)) 28)) := (Below.refl _ w).alloc (Nat.le_refl _) _
  have HB : Hid (Below w.heap.size w (w.alloc (.cells (enCs (p, sc, nm)) 28))) := hB
  by_cases h0 : p = 0
  · subst h0
    have HE : Hid (enOk (0, sc, nm) = false) := rfl
    go_enter Tryd.func19, Tryd.ntmps19
    go_wp2
    all_goals (go_ret; exact ⟨by rw [HE.out]; rfl, HB.out⟩)
  · have n0 : (p != 0) = true := by simpa using h0
    by_cases h1 : 0 ≤ p ∧ p ≤ 31
    · have HP : Hid (∀ V : World, Calls Tryd.prog 23 #[.int .i8 p] V fun e w' => e = .returned (.bool true) ∧ w' = V) := fun V => by
        have := isPerms_any p V
        rw [decide_eq_true h1] at this
        exact this
      obtain ⟨b, hb⟩ : ∃ b, b = enD sc.data.toList nm.data.toList := ⟨_, rfl⟩
      have HO : Hid (Calls Tryd.prog 29 #[.agg #[.string sc, .string nm]] (w.alloc (.cells (enCs (p, sc, nm)) 28)) fun e w' => e = .returned (.bool b) ∧ Hid (Below w.heap.size w w')) := by
        rw [hb]
        exact (isOfEntry_gen sc nm hs _).mono (fun e w' h => ⟨h.1, hB.trans (h.2.mono hB.size)⟩)
      have HE : Hid (enOk (p, sc, nm) = b) := by
        show _ = _
        rw [hb]
        unfold enOk
        rw [decide_eq_true (show ¬ p = 0 ∧ 0 ≤ p ∧ p ≤ 31 from ⟨h0, h1⟩)]
        rfl
      rw [HE.out]
      clear hb hB h1
      go_enter Tryd.func19, Tryd.ntmps19
      go_wp2_with fail
      go_at_call 23
      refine (HP.out _).mono ?_
      rintro e w1 ⟨rfl, rfl⟩
      go_wp2_with fail
      go_at_call 29
      refine (HO.out).mono ?_
      rintro e w2 ⟨rfl, HB2⟩
      go_wp2
      all_goals (go_ret; exact ⟨rfl, HB2.out⟩)
    · have HP : Hid (∀ V : World, Calls Tryd.prog 23 #[.int .i8 p] V fun e w' => e = .returned (.bool false) ∧ w' = V) := fun V => by
        have := isPerms_any p V
        rw [decide_eq_false h1] at this
        exact this
      have HE : Hid (enOk (p, sc, nm) = false) := by
        show _ = _
        unfold enOk
        rw [decide_eq_false (show ¬ (¬ p = 0 ∧ 0 ≤ p ∧ p ≤ 31) from fun h => h1 h.2)]
        rfl
      rw [HE.out]
      clear hB h1
      go_enter Tryd.func19, Tryd.ntmps19
      go_wp2_with (go_at_call 23; refine (HP.out _).mono ?_; rintro e w1 ⟨rfl, rfl⟩)
      all_goals (go_ret; exact ⟨rfl, HB.out⟩)

/-- The first i of a list may be, and no two of them are the same. -/
def lok {α : Type} (ok : α → Bool) (eq : α → α → Bool) (l : List α) (i : Nat) : Bool := (List.range i).all fun j => match l[j]? with
  | some x => ok x && !((l.take j).any fun z => eq x z)
  | none => true

theorem lok_step {α : Type} {ok : α → Bool} {eq : α → α → Bool} {l : List α} {i : Nat} {x : α} (h : l[i]? = some x) : lok ok eq l (i + 1) = (lok ok eq l i && (ok x && !((l.take i).any fun z => eq x z))) := by
  unfold lok
  rw [List.range_succ, List.all_append]
  simp [h]

theorem lok_bad {α : Type} {ok : α → Bool} {eq : α → α → Bool} {l : List α} {i : Nat} {x : α} (h : l[i]? = some x) (hb : (ok x && !((l.take i).any fun z => eq x z)) = false) : lok ok eq l l.length = false := by
  have hi : i < l.length := by
    rcases Nat.lt_or_ge i l.length with h' | h'
    · exact h'
    · rw [List.getElem?_eq_none h'] at h; cases h
  unfold lok
  rw [List.all_eq_false]
  exact ⟨i, List.mem_range.2 hi, by simp only [h]; simpa using hb⟩

set_option maxHeartbeats 2000000 in
theorem isListE (v : Value) (l : List EnT) (w : World) (h : SE w v l) (hsz : ∀ x ∈ l, x.2.2.size ≤ 4294967296) : Calls Tryd.prog 18 #[v, .int .i64 4, .func (.func 19) #[] #[]] w fun e w' => e = .returned (.bool (decide (l.length ≤ 4) && lok enOk enEq l l.length)) ∧ Below w.heap.size w w' := by
  obtain ⟨ao, cap, rfl, hcap, hc⟩ := h
  have HB0 : Hid (Below w.heap.size w w) := Below.refl _ _
  by_cases h4 : l.length ≤ 4
  · have d4 : decide (4 < (l.length : Int)) = false := by simp; omega
    rw [decide_eq_true h4, Bool.true_and]
    have HC0 : Hid (l ≠ [] → ∃ b off, ao = some ⟨b, off, none⟩ ∧ ∀ i x, l[i]? = some x → w.cell? ⟨b, off + i * 3, none⟩ = some (.int .i8 x.1) ∧ w.cell? ⟨b, off + i * 3 + 1, none⟩ = some (.string x.2.1) ∧ w.cell? ⟨b, off + i * 3 + 2, none⟩ = some (.string x.2.2)) := hc
    have HZ : Hid (∀ x ∈ l, x.2.2.size ≤ 4294967296) := hsz
    clear hc hsz
    go_enter Tryd.func18, Tryd.ntmps18
    go_wp2
    go_loopw [15] (fun vi wr => ∃ i : Nat, i ≤ l.length ∧ vi = .int .i64 (i : Int) ∧ Hid (lok enOk enEq l i = true) ∧ Hid (Below w.heap.size w wr)) (fun vi _ => l.length - (intOf vi).toNat)
    case atStart => exact ⟨0, by omega, rfl, rfl, Below.refl _ _⟩
    case round =>
      obtain ⟨i, hi, rfl, HA, HW⟩ := hrel
      by_cases hlt : i < l.length
      · have hd : decide ((i : Int) < (l.length : Int)) = true := by simp; omega
        obtain ⟨b, off, hao, hcx⟩ := HC0.out (fun e => by rw [e] at hlt; simp at hlt)
        obtain ⟨x, hx⟩ : ∃ x, l[i]? = some x := ⟨_, List.getElem?_eq_getElem hlt⟩
        have hBa : Below wr.heap.size wr (wr.alloc (.cells (enCs x) 28)) := (Below.refl _ _).alloc (Nat.le_refl _) _
        have hrow : (wr.alloc (.cells (enCs x) 28)).heap[wr.heap.size]? = some (.cells (enCs x) 28 (0, 0)) := heap_alloc_new _ _
        have hBd : Below w.heap.size w (wr.alloc (.cells (enCs x) 28)).drew := by
          have := HW.out.trans (hBa.mono HW.out.size)
          exact ⟨this.os, this.tape, this.output, this.size, this.block⟩
        have hzl : wr.heap.size < (wr.alloc (.cells (enCs x) 28)).drew.heap.size := by show wr.heap.size < (wr.alloc _).heap.size; simp
        obtain ⟨k0, k1, k2⟩ := hcx i x hx
        have l0 := cell_below HW.out k0
        have l1 := cell_below HW.out k1
        have l2 := cell_below HW.out k2
        have HP : Hid (∀ V : World, V.heap[wr.heap.size]? = some (.cells (enCs x) 28 (0, 0)) → V.cell? ⟨wr.heap.size, 0, none⟩ = some (.int .i8 x.1) ∧ V.cell? ⟨wr.heap.size, 1, none⟩ = some (.string x.2.1) ∧ V.cell? ⟨wr.heap.size, 2, none⟩ = some (.string x.2.2)) := fun V hV => ⟨cell_of_row V wr.heap.size 0 _ _ _ hV, cell_of_row V wr.heap.size 1 _ _ _ hV, cell_of_row V wr.heap.size 2 _ _ _ hV⟩
        have HI : Hid (∀ V : World, V.heap[wr.heap.size]? = some (.cells (enCs x) 28 (0, 0)) ∧ Below w.heap.size w V → Calls Tryd.prog 19 #[.agg (enCs x)] V fun e w' => e = .returned (.bool (enOk x)) ∧ Hid (w'.heap[wr.heap.size]? = some (.cells (enCs x) 28 (0, 0)) ∧ Below w.heap.size w w')) := fun V hV =>
          (isEntry_any x (HZ.out x (List.mem_of_getElem? hx)) V).mono (fun e w' hh => ⟨hh.1, (hh.2.block _ (lt_of_block hV.1)).trans hV.1, hV.2.trans (hh.2.mono hV.2.size)⟩)
        have HCo : Hid (∀ V : World, V.heap[wr.heap.size]? = some (.cells (enCs x) 28 (0, 0)) ∧ Below w.heap.size w V → Calls Tryd.prog 28 #[.slice (some ⟨b, off, none⟩) i cap, .agg (enCs x)] V fun e w' => e = .returned (.bool ((l.take i).any fun z => enEq x z)) ∧ Hid (w'.heap[wr.heap.size]? = some (.cells (enCs x) 28 (0, 0)) ∧ Below w.heap.size w w')) := fun V hV => by
          have hse : SE V (.slice (some ⟨b, off, none⟩) i cap) (l.take i) := by
            refine ⟨_, cap, by rw [List.length_take, Nat.min_eq_left (by omega)], by rw [List.length_take]; omega, fun _ => ⟨b, off, rfl, fun j y hy => ?_⟩⟩
            have hy' : l[j]? = some y := by
              rw [List.getElem?_take] at hy
              split at hy
              · exact hy
              · cases hy
            exact ⟨cell_below hV.2 (hcx j y hy').1, cell_below hV.2 (hcx j y hy').2.1, cell_below hV.2 (hcx j y hy').2.2⟩
          exact (containsE _ (l.take i) x V hse (by rw [List.length_take]; omega)).mono (fun e w' hh => ⟨hh.1, (hh.2.block _ (lt_of_block hV.1)).trans hV.1, hV.2.trans (hh.2.mono hV.2.size)⟩)
        have HS0 : Hid ((wr.alloc (.cells (enCs x) 28)).drew.heap[wr.heap.size]? = some (.cells (enCs x) 28 (0, 0)) ∧ Below w.heap.size w (wr.alloc (.cells (enCs x) 28)).drew) := ⟨hrow, hBd⟩
        have HX : Hid (l[i]? = some x) := hx
        have hicap : (i : Int) ≤ (cap : Int) := by omega
        subst hao
        clear hcx hx hBa hrow hBd k0 k1 k2
        generalize hfit : enOk x = bf at HI
        generalize hcon : ((l.take i).any fun z => enEq x z) = bc at HCo
        have HV : Hid ((enOk x && !((l.take i).any fun z => enEq x z)) = (bf && !bc)) := by show _ = _; rw [hfit, hcon]
        clear hfit hcon
        cases bf
        · have HE : Hid (lok enOk enEq l l.length = false) := lok_bad HX.out (HV.out.trans rfl)
          go_wp2_with fail
          refine wp_region_held_drew (S := fun w' => w'.cell? ⟨wr.heap.size, 0, none⟩ = some (.int .i8 x.1) ∧ w'.cell? ⟨wr.heap.size, 1, none⟩ = some (.string x.2.1) ∧ w'.cell? ⟨wr.heap.size, 2, none⟩ = some (.string x.2.2)) (by kernel_rfl) ?_ (fun hHeld => ?_)
          · exact HP.out _ HS0.out.1
          refine wpAnyH_take (i := 0) (oi := { dst := some 20, op := Op.move (Operand.tmp 2), type := 48, pos := "acl.go:65", after := #[], guard := none }) (v := ?_) rfl (by kernel_rfl) (by kernel_rfl) (by kernel_rfl) (fun _ _ _ h => h) (Or.inl ⟨by rfl, ?_⟩) (by assumption) ?_
          rotate_left
          · (intro w hSw; (try dsimp only at hSw); go_simp) <;> with_reducible rfl
          try simp only [Act.put, List.setIfInBounds_toArray, List.set_cons_zero, List.set_cons_succ]
          refine wpAnyH_take (i := 1) (oi := { dst := some 21, op := Op.load 28 (Operand.tmp 8), type := 28, pos := "acl.go:65", after := #[], guard := none }) (v := ?_) rfl (by kernel_rfl) (by kernel_rfl) (by kernel_rfl) (fun _ _ _ h => h) (Or.inl ⟨by rfl, ?_⟩) (by assumption) ?_
          rotate_left
          · (intro w hSw; (try dsimp only at hSw); go_simp) <;> with_reducible rfl
          try simp only [Act.put, List.setIfInBounds_toArray, List.set_cons_zero, List.set_cons_succ]
          refine wpAnyH_ready (rs := [2]) (by kernel_rfl) (by simp) ?_
          refine AllReadyH.cons (o := { dst := some 22, op := Op.call { callee := Callee.value (Operand.tmp 20), args := #[Operand.tmp 21], argTypes := #[28] }, type := 4, pos := "acl.go:65", after := #[{ on := 0, ground := Ground.data }, { on := 1, ground := Ground.data }], guard := none }) rfl (fun K hK => ?_) AllReadyH.nil
          go_simp
          refine (HI.out _ HS0.out).mono ?_
          rintro e wx ⟨rfl, HS1⟩
          clear hHeld
          refine hK.out _ _ (HP.out _ HS1.out.1) (fun hHeld => ?_)
          clear hK K
          refine wpAnyH_take (i := 3) (oi := { dst := some 23, op := Op.unOp UnOp.not 4 (Operand.tmp 22), type := 4, pos := "acl.go:65", after := #[{ on := 2, ground := Ground.data }], guard := none }) (v := ?_) rfl (by kernel_rfl) (by kernel_rfl) (by kernel_rfl) (fun _ _ _ h => h) (Or.inl ⟨by rfl, ?_⟩) (by assumption) ?_
          rotate_left
          · (intro w hSw; (try dsimp only at hSw); go_simp) <;> with_reducible rfl
          try simp only [Act.put, List.setIfInBounds_toArray, List.set_cons_zero, List.set_cons_succ]
          refine wpAnyH_take (i := 4) (oi := { dst := some 24, op := Op.move (Operand.tmp 23), type := 4, pos := "acl.go:65", after := #[{ on := 3, ground := Ground.data }, { on := 2, ground := Ground.chain }], guard := none }) (v := ?_) rfl (by kernel_rfl) (by kernel_rfl) (by kernel_rfl) (fun _ _ _ h => h) (Or.inl ⟨by rfl, ?_⟩) (by assumption) ?_
          rotate_left
          · (intro w hSw; (try dsimp only at hSw); go_simp) <;> with_reducible rfl
          try simp only [Act.put, List.setIfInBounds_toArray, List.set_cons_zero, List.set_cons_succ]
          refine wpAnyH_take (i := 5) (oi := { dst := some 25, op := Op.move (Operand.tmp 0), type := 22, pos := "acl.go:65", after := #[{ on := 4, ground := Ground.guard }], guard := some (4, false) }) (v := undef) rfl (by kernel_rfl) (by kernel_rfl) (by kernel_rfl) (fun _ _ _ h => h) (Or.inr ⟨by rfl, rfl⟩) (by assumption) ?_
          try simp only [Act.put, List.setIfInBounds_toArray, List.set_cons_zero, List.set_cons_succ]
          refine wpAnyH_take (i := 6) (oi := { dst := some 26, op := Op.move (Operand.tmp 7), type := 3, pos := "acl.go:65", after := #[{ on := 4, ground := Ground.guard }], guard := some (4, false) }) (v := undef) rfl (by kernel_rfl) (by kernel_rfl) (by kernel_rfl) (fun _ _ _ h => h) (Or.inr ⟨by rfl, rfl⟩) (by assumption) ?_
          try simp only [Act.put, List.setIfInBounds_toArray, List.set_cons_zero, List.set_cons_succ]
          refine wpAnyH_take (i := 7) (oi := { dst := some 27, op := Op.slice 22 (Operand.tmp 25) none (some (Operand.tmp 26)) none, type := 22, pos := "acl.go:65", after := #[{ on := 5, ground := Ground.data }, { on := 6, ground := Ground.data }, { on := 4, ground := Ground.guard }], guard := some (4, false) }) (v := undef) rfl (by kernel_rfl) (by kernel_rfl) (by kernel_rfl) (fun _ _ _ h => h) (Or.inr ⟨by rfl, rfl⟩) (by assumption) ?_
          try simp only [Act.put, List.setIfInBounds_toArray, List.set_cons_zero, List.set_cons_succ]
          refine wpAnyH_take (i := 8) (oi := { dst := some 28, op := Op.load 28 (Operand.tmp 8), type := 28, pos := "acl.go:65", after := #[{ on := 4, ground := Ground.guard }], guard := some (4, false) }) (v := undef) rfl (by kernel_rfl) (by kernel_rfl) (by kernel_rfl) (fun _ _ _ h => h) (Or.inr ⟨by rfl, rfl⟩) (by assumption) ?_
          try simp only [Act.put, List.setIfInBounds_toArray, List.set_cons_zero, List.set_cons_succ]
          refine wpAnyH_ready (rs := [9]) (by kernel_rfl) (by simp) ?_
          refine AllReadyH.cons (o := { dst := some 29, op := Op.call { callee := Callee.value (Operand.func 28), args := #[Operand.tmp 27, Operand.tmp 28], argTypes := #[22, 28] }, type := 4, pos := "acl.go:65", after := #[{ on := 7, ground := Ground.data }, { on := 8, ground := Ground.data }, { on := 4, ground := Ground.chain }, { on := 4, ground := Ground.guard }], guard := some (4, false) }) rfl (fun K hK => ?_) AllReadyH.nil
          go_simp
          refine hK.out _ _ (by assumption) (fun _ => ?_)
          clear hK K
          refine wpAnyH_take (i := 10) (oi := { dst := some 30, op := Op.pick (Operand.tmp 24) (Operand.const (Value.bool true)) (Operand.tmp 29), type := 4, pos := "acl.go:65", after := #[{ on := 4, ground := Ground.data }, { on := 9, ground := Ground.data }], guard := none }) (v := ?_) rfl (by kernel_rfl) (by kernel_rfl) (by kernel_rfl) (fun _ _ _ h => h) (Or.inl ⟨by rfl, ?_⟩) (by assumption) ?_
          rotate_left
          · (intro w hSw; (try dsimp only at hSw); go_simp) <;> with_reducible rfl
          try simp only [Act.put, List.setIfInBounds_toArray, List.set_cons_zero, List.set_cons_succ]
          refine wpAnyH_done (by kernel_rfl) ?_ _
          go_wp2
          all_goals (go_ret; exact ⟨by rw [HE.out]; rfl, HS1.out.2⟩)
        · go_wp2_with fail
          refine wp_region_held_drew (S := fun w' => w'.cell? ⟨wr.heap.size, 0, none⟩ = some (.int .i8 x.1) ∧ w'.cell? ⟨wr.heap.size, 1, none⟩ = some (.string x.2.1) ∧ w'.cell? ⟨wr.heap.size, 2, none⟩ = some (.string x.2.2)) (by kernel_rfl) ?_ (fun hHeld => ?_)
          · exact HP.out _ HS0.out.1
          refine wpAnyH_take (i := 0) (oi := { dst := some 20, op := Op.move (Operand.tmp 2), type := 48, pos := "acl.go:65", after := #[], guard := none }) (v := ?_) rfl (by kernel_rfl) (by kernel_rfl) (by kernel_rfl) (fun _ _ _ h => h) (Or.inl ⟨by rfl, ?_⟩) (by assumption) ?_
          rotate_left
          · (intro w hSw; (try dsimp only at hSw); go_simp) <;> with_reducible rfl
          try simp only [Act.put, List.setIfInBounds_toArray, List.set_cons_zero, List.set_cons_succ]
          refine wpAnyH_take (i := 1) (oi := { dst := some 21, op := Op.load 28 (Operand.tmp 8), type := 28, pos := "acl.go:65", after := #[], guard := none }) (v := ?_) rfl (by kernel_rfl) (by kernel_rfl) (by kernel_rfl) (fun _ _ _ h => h) (Or.inl ⟨by rfl, ?_⟩) (by assumption) ?_
          rotate_left
          · (intro w hSw; (try dsimp only at hSw); go_simp) <;> with_reducible rfl
          try simp only [Act.put, List.setIfInBounds_toArray, List.set_cons_zero, List.set_cons_succ]
          refine wpAnyH_ready (rs := [2]) (by kernel_rfl) (by simp) ?_
          refine AllReadyH.cons (o := { dst := some 22, op := Op.call { callee := Callee.value (Operand.tmp 20), args := #[Operand.tmp 21], argTypes := #[28] }, type := 4, pos := "acl.go:65", after := #[{ on := 0, ground := Ground.data }, { on := 1, ground := Ground.data }], guard := none }) rfl (fun K hK => ?_) AllReadyH.nil
          go_simp
          refine (HI.out _ HS0.out).mono ?_
          rintro e wx ⟨rfl, HS1⟩
          clear hHeld
          refine hK.out _ _ (HP.out _ HS1.out.1) (fun hHeld => ?_)
          clear hK K
          refine wpAnyH_take (i := 3) (oi := { dst := some 23, op := Op.unOp UnOp.not 4 (Operand.tmp 22), type := 4, pos := "acl.go:65", after := #[{ on := 2, ground := Ground.data }], guard := none }) (v := ?_) rfl (by kernel_rfl) (by kernel_rfl) (by kernel_rfl) (fun _ _ _ h => h) (Or.inl ⟨by rfl, ?_⟩) (by assumption) ?_
          rotate_left
          · (intro w hSw; (try dsimp only at hSw); go_simp) <;> with_reducible rfl
          try simp only [Act.put, List.setIfInBounds_toArray, List.set_cons_zero, List.set_cons_succ]
          refine wpAnyH_take (i := 4) (oi := { dst := some 24, op := Op.move (Operand.tmp 23), type := 4, pos := "acl.go:65", after := #[{ on := 3, ground := Ground.data }, { on := 2, ground := Ground.chain }], guard := none }) (v := ?_) rfl (by kernel_rfl) (by kernel_rfl) (by kernel_rfl) (fun _ _ _ h => h) (Or.inl ⟨by rfl, ?_⟩) (by assumption) ?_
          rotate_left
          · (intro w hSw; (try dsimp only at hSw); go_simp) <;> with_reducible rfl
          try simp only [Act.put, List.setIfInBounds_toArray, List.set_cons_zero, List.set_cons_succ]
          refine wpAnyH_take (i := 5) (oi := { dst := some 25, op := Op.move (Operand.tmp 0), type := 22, pos := "acl.go:65", after := #[{ on := 4, ground := Ground.guard }], guard := some (4, false) }) (v := ?_) rfl (by kernel_rfl) (by kernel_rfl) (by kernel_rfl) (fun _ _ _ h => h) (Or.inl ⟨by rfl, ?_⟩) (by assumption) ?_
          rotate_left
          · (intro w hSw; (try dsimp only at hSw); go_simp) <;> with_reducible rfl
          try simp only [Act.put, List.setIfInBounds_toArray, List.set_cons_zero, List.set_cons_succ]
          refine wpAnyH_take (i := 6) (oi := { dst := some 26, op := Op.move (Operand.tmp 7), type := 3, pos := "acl.go:65", after := #[{ on := 4, ground := Ground.guard }], guard := some (4, false) }) (v := ?_) rfl (by kernel_rfl) (by kernel_rfl) (by kernel_rfl) (fun _ _ _ h => h) (Or.inl ⟨by rfl, ?_⟩) (by assumption) ?_
          rotate_left
          · (intro w hSw; (try dsimp only at hSw); go_simp) <;> with_reducible rfl
          try simp only [Act.put, List.setIfInBounds_toArray, List.set_cons_zero, List.set_cons_succ]
          refine wpAnyH_take (i := 7) (oi := { dst := some 27, op := Op.slice 22 (Operand.tmp 25) none (some (Operand.tmp 26)) none, type := 22, pos := "acl.go:65", after := #[{ on := 5, ground := Ground.data }, { on := 6, ground := Ground.data }, { on := 4, ground := Ground.guard }], guard := some (4, false) }) (v := ?_) rfl (by kernel_rfl) (by kernel_rfl) (by kernel_rfl) (fun _ _ _ h => h) (Or.inl ⟨by rfl, ?_⟩) (by assumption) ?_
          rotate_left
          · (intro w hSw; (try dsimp only at hSw); go_simp) <;> with_reducible rfl
          try simp only [Act.put, List.setIfInBounds_toArray, List.set_cons_zero, List.set_cons_succ]
          refine wpAnyH_take (i := 8) (oi := { dst := some 28, op := Op.load 28 (Operand.tmp 8), type := 28, pos := "acl.go:65", after := #[{ on := 4, ground := Ground.guard }], guard := some (4, false) }) (v := ?_) rfl (by kernel_rfl) (by kernel_rfl) (by kernel_rfl) (fun _ _ _ h => h) (Or.inl ⟨by rfl, ?_⟩) (by assumption) ?_
          rotate_left
          · (intro w hSw; (try dsimp only at hSw); go_simp) <;> with_reducible rfl
          try simp only [Act.put, List.setIfInBounds_toArray, List.set_cons_zero, List.set_cons_succ]
          refine wpAnyH_ready (rs := [9]) (by kernel_rfl) (by simp) ?_
          refine AllReadyH.cons (o := { dst := some 29, op := Op.call { callee := Callee.value (Operand.func 28), args := #[Operand.tmp 27, Operand.tmp 28], argTypes := #[22, 28] }, type := 4, pos := "acl.go:65", after := #[{ on := 7, ground := Ground.data }, { on := 8, ground := Ground.data }, { on := 4, ground := Ground.chain }, { on := 4, ground := Ground.guard }], guard := some (4, false) }) rfl (fun K hK => ?_) AllReadyH.nil
          go_simp
          refine (HCo.out _ HS1.out).mono ?_
          rintro e wy ⟨rfl, HS2⟩
          clear hHeld
          refine hK.out _ _ (HP.out _ HS2.out.1) (fun hHeld => ?_)
          clear hK K
          refine wpAnyH_take (i := 10) (oi := { dst := some 30, op := Op.pick (Operand.tmp 24) (Operand.const (Value.bool true)) (Operand.tmp 29), type := 4, pos := "acl.go:65", after := #[{ on := 4, ground := Ground.data }, { on := 9, ground := Ground.data }], guard := none }) (v := ?_) rfl (by kernel_rfl) (by kernel_rfl) (by kernel_rfl) (fun _ _ _ h => h) (Or.inl ⟨by rfl, ?_⟩) (by assumption) ?_
          rotate_left
          · (intro w hSw; (try dsimp only at hSw); go_simp) <;> with_reducible rfl
          try simp only [Act.put, List.setIfInBounds_toArray, List.set_cons_zero, List.set_cons_succ]
          refine wpAnyH_done (by kernel_rfl) ?_ _
          cases bc
          · have HN : Hid (lok enOk enEq l (i + 1) = true) := by
              show _ = _
              rw [lok_step HX.out, HA.out, HV.out]; rfl
            go_wp2
            go_roundw
            case rel => exact ⟨i + 1, by omega, by simp, HN, HS2.out.2⟩
            case measure => simp [intOf]; omega
          · have HE : Hid (lok enOk enEq l l.length = false) := lok_bad HX.out (HV.out.trans rfl)
            go_wp2
            all_goals (go_ret; exact ⟨by rw [HE.out]; rfl, HS2.out.2⟩)
      · have hd : decide ((i : Int) < (l.length : Int)) = false := by simp; omega
        have HE : Hid (lok enOk enEq l l.length = true) := by
          have := HA.out
          rw [show i = l.length by omega] at this
          exact this
        go_wp2
        all_goals (go_ret; exact ⟨by rw [HE.out]; rfl, HW.out⟩)
  · have d4 : decide (4 < (l.length : Int)) = true := by simp; omega
    rw [decide_eq_false h4, Bool.false_and]
    clear hc hsz
    go_enter Tryd.func18, Tryd.ntmps18
    go_wp2
    all_goals (go_ret; exact ⟨rfl, HB0.out⟩)

set_option maxHeartbeats 2000000 in
theorem isListI (v : Value) (l : List IdT) (w : World) (h : SI w v l) (hsz : ∀ x ∈ l, x.2.size ≤ 4294967296) : Calls Tryd.prog 20 #[v, .int .i64 4, .func (.func 21) #[] #[]] w fun e w' => e = .returned (.bool (decide (l.length ≤ 4) && lok idOk idEq l l.length)) ∧ Below w.heap.size w w' := by
  obtain ⟨ao, cap, rfl, hcap, hc⟩ := h
  have HB0 : Hid (Below w.heap.size w w) := Below.refl _ _
  by_cases h4 : l.length ≤ 4
  · have d4 : decide (4 < (l.length : Int)) = false := by simp; omega
    rw [decide_eq_true h4, Bool.true_and]
    have HC0 : Hid (l ≠ [] → ∃ b off, ao = some ⟨b, off, none⟩ ∧ ∀ i x, l[i]? = some x → w.cell? ⟨b, off + i * 2, none⟩ = some (.string x.1) ∧ w.cell? ⟨b, off + i * 2 + 1, none⟩ = some (.string x.2)) := hc
    have HZ : Hid (∀ x ∈ l, x.2.size ≤ 4294967296) := hsz
    clear hc hsz
    go_enter Tryd.func20, Tryd.ntmps20
    go_wp2
    go_loopw [15] (fun vi wr => ∃ i : Nat, i ≤ l.length ∧ vi = .int .i64 (i : Int) ∧ Hid (lok idOk idEq l i = true) ∧ Hid (Below w.heap.size w wr)) (fun vi _ => l.length - (intOf vi).toNat)
    case atStart => exact ⟨0, by omega, rfl, rfl, Below.refl _ _⟩
    case round =>
      obtain ⟨i, hi, rfl, HA, HW⟩ := hrel
      by_cases hlt : i < l.length
      · have hd : decide ((i : Int) < (l.length : Int)) = true := by simp; omega
        obtain ⟨b, off, hao, hcx⟩ := HC0.out (fun e => by rw [e] at hlt; simp at hlt)
        obtain ⟨x, hx⟩ : ∃ x, l[i]? = some x := ⟨_, List.getElem?_eq_getElem hlt⟩
        have hBa : Below wr.heap.size wr (wr.alloc (.cells (idCs x) 26)) := (Below.refl _ _).alloc (Nat.le_refl _) _
        have hrow : (wr.alloc (.cells (idCs x) 26)).heap[wr.heap.size]? = some (.cells (idCs x) 26 (0, 0)) := heap_alloc_new _ _
        have hBd : Below w.heap.size w (wr.alloc (.cells (idCs x) 26)).drew := by
          have := HW.out.trans (hBa.mono HW.out.size)
          exact ⟨this.os, this.tape, this.output, this.size, this.block⟩
        have hzl : wr.heap.size < (wr.alloc (.cells (idCs x) 26)).drew.heap.size := by show wr.heap.size < (wr.alloc _).heap.size; simp
        obtain ⟨k0, k1⟩ := hcx i x hx
        have l0 := cell_below HW.out k0
        have l1 := cell_below HW.out k1
        have HP : Hid (∀ V : World, V.heap[wr.heap.size]? = some (.cells (idCs x) 26 (0, 0)) → V.cell? ⟨wr.heap.size, 0, none⟩ = some (.string x.1) ∧ V.cell? ⟨wr.heap.size, 1, none⟩ = some (.string x.2)) := fun V hV => ⟨cell_of_row V wr.heap.size 0 _ _ _ hV, cell_of_row V wr.heap.size 1 _ _ _ hV⟩
        have HI : Hid (∀ V : World, V.heap[wr.heap.size]? = some (.cells (idCs x) 26 (0, 0)) ∧ Below w.heap.size w V → Calls Tryd.prog 21 #[.agg (idCs x)] V fun e w' => e = .returned (.bool (idOk x)) ∧ Hid (w'.heap[wr.heap.size]? = some (.cells (idCs x) 26 (0, 0)) ∧ Below w.heap.size w w')) := fun V hV =>
          (isOfClient_gen x.1 x.2 (HZ.out x (List.mem_of_getElem? hx)) V).mono (fun e w' hh => ⟨hh.1, (hh.2.block _ (lt_of_block hV.1)).trans hV.1, hV.2.trans (hh.2.mono hV.2.size)⟩)
        have HCo : Hid (∀ V : World, V.heap[wr.heap.size]? = some (.cells (idCs x) 26 (0, 0)) ∧ Below w.heap.size w V → Calls Tryd.prog 30 #[.slice (some ⟨b, off, none⟩) i cap, .agg (idCs x)] V fun e w' => e = .returned (.bool ((l.take i).any fun z => idEq x z)) ∧ Hid (w'.heap[wr.heap.size]? = some (.cells (idCs x) 26 (0, 0)) ∧ Below w.heap.size w w')) := fun V hV => by
          have hse : SI V (.slice (some ⟨b, off, none⟩) i cap) (l.take i) := by
            refine ⟨_, cap, by rw [List.length_take, Nat.min_eq_left (by omega)], by rw [List.length_take]; omega, fun _ => ⟨b, off, rfl, fun j y hy => ?_⟩⟩
            have hy' : l[j]? = some y := by
              rw [List.getElem?_take] at hy
              split at hy
              · exact hy
              · cases hy
            exact ⟨cell_below hV.2 (hcx j y hy').1, cell_below hV.2 (hcx j y hy').2⟩
          exact (containsI _ (l.take i) x V hse (by rw [List.length_take]; omega)).mono (fun e w' hh => ⟨hh.1, (hh.2.block _ (lt_of_block hV.1)).trans hV.1, hV.2.trans (hh.2.mono hV.2.size)⟩)
        have HS0 : Hid ((wr.alloc (.cells (idCs x) 26)).drew.heap[wr.heap.size]? = some (.cells (idCs x) 26 (0, 0)) ∧ Below w.heap.size w (wr.alloc (.cells (idCs x) 26)).drew) := ⟨hrow, hBd⟩
        have HX : Hid (l[i]? = some x) := hx
        have hicap : (i : Int) ≤ (cap : Int) := by omega
        subst hao
        clear hcx hx hBa hrow hBd k0 k1
        generalize hfit : idOk x = bf at HI
        generalize hcon : ((l.take i).any fun z => idEq x z) = bc at HCo
        have HV : Hid ((idOk x && !((l.take i).any fun z => idEq x z)) = (bf && !bc)) := by show _ = _; rw [hfit, hcon]
        clear hfit hcon
        cases bf
        · have HE : Hid (lok idOk idEq l l.length = false) := lok_bad HX.out (HV.out.trans rfl)
          go_wp2_with fail
          refine wp_region_held_drew (S := fun w' => w'.cell? ⟨wr.heap.size, 0, none⟩ = some (.string x.1) ∧ w'.cell? ⟨wr.heap.size, 1, none⟩ = some (.string x.2)) (by kernel_rfl) ?_ (fun hHeld => ?_)
          · exact HP.out _ HS0.out.1
          refine wpAnyH_take (i := 0) (oi := { dst := some 20, op := Op.move (Operand.tmp 2), type := 50, pos := "acl.go:65", after := #[], guard := none }) (v := ?_) rfl (by kernel_rfl) (by kernel_rfl) (by kernel_rfl) (fun _ _ _ h => h) (Or.inl ⟨by rfl, ?_⟩) (by assumption) ?_
          rotate_left
          · (intro w hSw; (try dsimp only at hSw); go_simp) <;> with_reducible rfl
          try simp only [Act.put, List.setIfInBounds_toArray, List.set_cons_zero, List.set_cons_succ]
          refine wpAnyH_take (i := 1) (oi := { dst := some 21, op := Op.load 26 (Operand.tmp 8), type := 26, pos := "acl.go:65", after := #[], guard := none }) (v := ?_) rfl (by kernel_rfl) (by kernel_rfl) (by kernel_rfl) (fun _ _ _ h => h) (Or.inl ⟨by rfl, ?_⟩) (by assumption) ?_
          rotate_left
          · (intro w hSw; (try dsimp only at hSw); go_simp) <;> with_reducible rfl
          try simp only [Act.put, List.setIfInBounds_toArray, List.set_cons_zero, List.set_cons_succ]
          refine wpAnyH_ready (rs := [2]) (by kernel_rfl) (by simp) ?_
          refine AllReadyH.cons (o := { dst := some 22, op := Op.call { callee := Callee.value (Operand.tmp 20), args := #[Operand.tmp 21], argTypes := #[26] }, type := 4, pos := "acl.go:65", after := #[{ on := 0, ground := Ground.data }, { on := 1, ground := Ground.data }], guard := none }) rfl (fun K hK => ?_) AllReadyH.nil
          go_simp
          refine (HI.out _ HS0.out).mono ?_
          rintro e wx ⟨rfl, HS1⟩
          clear hHeld
          refine hK.out _ _ (HP.out _ HS1.out.1) (fun hHeld => ?_)
          clear hK K
          refine wpAnyH_take (i := 3) (oi := { dst := some 23, op := Op.unOp UnOp.not 4 (Operand.tmp 22), type := 4, pos := "acl.go:65", after := #[{ on := 2, ground := Ground.data }], guard := none }) (v := ?_) rfl (by kernel_rfl) (by kernel_rfl) (by kernel_rfl) (fun _ _ _ h => h) (Or.inl ⟨by rfl, ?_⟩) (by assumption) ?_
          rotate_left
          · (intro w hSw; (try dsimp only at hSw); go_simp) <;> with_reducible rfl
          try simp only [Act.put, List.setIfInBounds_toArray, List.set_cons_zero, List.set_cons_succ]
          refine wpAnyH_take (i := 4) (oi := { dst := some 24, op := Op.move (Operand.tmp 23), type := 4, pos := "acl.go:65", after := #[{ on := 3, ground := Ground.data }, { on := 2, ground := Ground.chain }], guard := none }) (v := ?_) rfl (by kernel_rfl) (by kernel_rfl) (by kernel_rfl) (fun _ _ _ h => h) (Or.inl ⟨by rfl, ?_⟩) (by assumption) ?_
          rotate_left
          · (intro w hSw; (try dsimp only at hSw); go_simp) <;> with_reducible rfl
          try simp only [Act.put, List.setIfInBounds_toArray, List.set_cons_zero, List.set_cons_succ]
          refine wpAnyH_take (i := 5) (oi := { dst := some 25, op := Op.move (Operand.tmp 0), type := 23, pos := "acl.go:65", after := #[{ on := 4, ground := Ground.guard }], guard := some (4, false) }) (v := undef) rfl (by kernel_rfl) (by kernel_rfl) (by kernel_rfl) (fun _ _ _ h => h) (Or.inr ⟨by rfl, rfl⟩) (by assumption) ?_
          try simp only [Act.put, List.setIfInBounds_toArray, List.set_cons_zero, List.set_cons_succ]
          refine wpAnyH_take (i := 6) (oi := { dst := some 26, op := Op.move (Operand.tmp 7), type := 3, pos := "acl.go:65", after := #[{ on := 4, ground := Ground.guard }], guard := some (4, false) }) (v := undef) rfl (by kernel_rfl) (by kernel_rfl) (by kernel_rfl) (fun _ _ _ h => h) (Or.inr ⟨by rfl, rfl⟩) (by assumption) ?_
          try simp only [Act.put, List.setIfInBounds_toArray, List.set_cons_zero, List.set_cons_succ]
          refine wpAnyH_take (i := 7) (oi := { dst := some 27, op := Op.slice 23 (Operand.tmp 25) none (some (Operand.tmp 26)) none, type := 23, pos := "acl.go:65", after := #[{ on := 5, ground := Ground.data }, { on := 6, ground := Ground.data }, { on := 4, ground := Ground.guard }], guard := some (4, false) }) (v := undef) rfl (by kernel_rfl) (by kernel_rfl) (by kernel_rfl) (fun _ _ _ h => h) (Or.inr ⟨by rfl, rfl⟩) (by assumption) ?_
          try simp only [Act.put, List.setIfInBounds_toArray, List.set_cons_zero, List.set_cons_succ]
          refine wpAnyH_take (i := 8) (oi := { dst := some 28, op := Op.load 26 (Operand.tmp 8), type := 26, pos := "acl.go:65", after := #[{ on := 4, ground := Ground.guard }], guard := some (4, false) }) (v := undef) rfl (by kernel_rfl) (by kernel_rfl) (by kernel_rfl) (fun _ _ _ h => h) (Or.inr ⟨by rfl, rfl⟩) (by assumption) ?_
          try simp only [Act.put, List.setIfInBounds_toArray, List.set_cons_zero, List.set_cons_succ]
          refine wpAnyH_ready (rs := [9]) (by kernel_rfl) (by simp) ?_
          refine AllReadyH.cons (o := { dst := some 29, op := Op.call { callee := Callee.value (Operand.func 30), args := #[Operand.tmp 27, Operand.tmp 28], argTypes := #[23, 26] }, type := 4, pos := "acl.go:65", after := #[{ on := 7, ground := Ground.data }, { on := 8, ground := Ground.data }, { on := 4, ground := Ground.chain }, { on := 4, ground := Ground.guard }], guard := some (4, false) }) rfl (fun K hK => ?_) AllReadyH.nil
          go_simp
          refine hK.out _ _ (by assumption) (fun _ => ?_)
          clear hK K
          refine wpAnyH_take (i := 10) (oi := { dst := some 30, op := Op.pick (Operand.tmp 24) (Operand.const (Value.bool true)) (Operand.tmp 29), type := 4, pos := "acl.go:65", after := #[{ on := 4, ground := Ground.data }, { on := 9, ground := Ground.data }], guard := none }) (v := ?_) rfl (by kernel_rfl) (by kernel_rfl) (by kernel_rfl) (fun _ _ _ h => h) (Or.inl ⟨by rfl, ?_⟩) (by assumption) ?_
          rotate_left
          · (intro w hSw; (try dsimp only at hSw); go_simp) <;> with_reducible rfl
          try simp only [Act.put, List.setIfInBounds_toArray, List.set_cons_zero, List.set_cons_succ]
          refine wpAnyH_done (by kernel_rfl) ?_ _
          go_wp2
          all_goals (go_ret; exact ⟨by rw [HE.out]; rfl, HS1.out.2⟩)
        · go_wp2_with fail
          refine wp_region_held_drew (S := fun w' => w'.cell? ⟨wr.heap.size, 0, none⟩ = some (.string x.1) ∧ w'.cell? ⟨wr.heap.size, 1, none⟩ = some (.string x.2)) (by kernel_rfl) ?_ (fun hHeld => ?_)
          · exact HP.out _ HS0.out.1
          refine wpAnyH_take (i := 0) (oi := { dst := some 20, op := Op.move (Operand.tmp 2), type := 50, pos := "acl.go:65", after := #[], guard := none }) (v := ?_) rfl (by kernel_rfl) (by kernel_rfl) (by kernel_rfl) (fun _ _ _ h => h) (Or.inl ⟨by rfl, ?_⟩) (by assumption) ?_
          rotate_left
          · (intro w hSw; (try dsimp only at hSw); go_simp) <;> with_reducible rfl
          try simp only [Act.put, List.setIfInBounds_toArray, List.set_cons_zero, List.set_cons_succ]
          refine wpAnyH_take (i := 1) (oi := { dst := some 21, op := Op.load 26 (Operand.tmp 8), type := 26, pos := "acl.go:65", after := #[], guard := none }) (v := ?_) rfl (by kernel_rfl) (by kernel_rfl) (by kernel_rfl) (fun _ _ _ h => h) (Or.inl ⟨by rfl, ?_⟩) (by assumption) ?_
          rotate_left
          · (intro w hSw; (try dsimp only at hSw); go_simp) <;> with_reducible rfl
          try simp only [Act.put, List.setIfInBounds_toArray, List.set_cons_zero, List.set_cons_succ]
          refine wpAnyH_ready (rs := [2]) (by kernel_rfl) (by simp) ?_
          refine AllReadyH.cons (o := { dst := some 22, op := Op.call { callee := Callee.value (Operand.tmp 20), args := #[Operand.tmp 21], argTypes := #[26] }, type := 4, pos := "acl.go:65", after := #[{ on := 0, ground := Ground.data }, { on := 1, ground := Ground.data }], guard := none }) rfl (fun K hK => ?_) AllReadyH.nil
          go_simp
          refine (HI.out _ HS0.out).mono ?_
          rintro e wx ⟨rfl, HS1⟩
          clear hHeld
          refine hK.out _ _ (HP.out _ HS1.out.1) (fun hHeld => ?_)
          clear hK K
          refine wpAnyH_take (i := 3) (oi := { dst := some 23, op := Op.unOp UnOp.not 4 (Operand.tmp 22), type := 4, pos := "acl.go:65", after := #[{ on := 2, ground := Ground.data }], guard := none }) (v := ?_) rfl (by kernel_rfl) (by kernel_rfl) (by kernel_rfl) (fun _ _ _ h => h) (Or.inl ⟨by rfl, ?_⟩) (by assumption) ?_
          rotate_left
          · (intro w hSw; (try dsimp only at hSw); go_simp) <;> with_reducible rfl
          try simp only [Act.put, List.setIfInBounds_toArray, List.set_cons_zero, List.set_cons_succ]
          refine wpAnyH_take (i := 4) (oi := { dst := some 24, op := Op.move (Operand.tmp 23), type := 4, pos := "acl.go:65", after := #[{ on := 3, ground := Ground.data }, { on := 2, ground := Ground.chain }], guard := none }) (v := ?_) rfl (by kernel_rfl) (by kernel_rfl) (by kernel_rfl) (fun _ _ _ h => h) (Or.inl ⟨by rfl, ?_⟩) (by assumption) ?_
          rotate_left
          · (intro w hSw; (try dsimp only at hSw); go_simp) <;> with_reducible rfl
          try simp only [Act.put, List.setIfInBounds_toArray, List.set_cons_zero, List.set_cons_succ]
          refine wpAnyH_take (i := 5) (oi := { dst := some 25, op := Op.move (Operand.tmp 0), type := 23, pos := "acl.go:65", after := #[{ on := 4, ground := Ground.guard }], guard := some (4, false) }) (v := ?_) rfl (by kernel_rfl) (by kernel_rfl) (by kernel_rfl) (fun _ _ _ h => h) (Or.inl ⟨by rfl, ?_⟩) (by assumption) ?_
          rotate_left
          · (intro w hSw; (try dsimp only at hSw); go_simp) <;> with_reducible rfl
          try simp only [Act.put, List.setIfInBounds_toArray, List.set_cons_zero, List.set_cons_succ]
          refine wpAnyH_take (i := 6) (oi := { dst := some 26, op := Op.move (Operand.tmp 7), type := 3, pos := "acl.go:65", after := #[{ on := 4, ground := Ground.guard }], guard := some (4, false) }) (v := ?_) rfl (by kernel_rfl) (by kernel_rfl) (by kernel_rfl) (fun _ _ _ h => h) (Or.inl ⟨by rfl, ?_⟩) (by assumption) ?_
          rotate_left
          · (intro w hSw; (try dsimp only at hSw); go_simp) <;> with_reducible rfl
          try simp only [Act.put, List.setIfInBounds_toArray, List.set_cons_zero, List.set_cons_succ]
          refine wpAnyH_take (i := 7) (oi := { dst := some 27, op := Op.slice 23 (Operand.tmp 25) none (some (Operand.tmp 26)) none, type := 23, pos := "acl.go:65", after := #[{ on := 5, ground := Ground.data }, { on := 6, ground := Ground.data }, { on := 4, ground := Ground.guard }], guard := some (4, false) }) (v := ?_) rfl (by kernel_rfl) (by kernel_rfl) (by kernel_rfl) (fun _ _ _ h => h) (Or.inl ⟨by rfl, ?_⟩) (by assumption) ?_
          rotate_left
          · (intro w hSw; (try dsimp only at hSw); go_simp) <;> with_reducible rfl
          try simp only [Act.put, List.setIfInBounds_toArray, List.set_cons_zero, List.set_cons_succ]
          refine wpAnyH_take (i := 8) (oi := { dst := some 28, op := Op.load 26 (Operand.tmp 8), type := 26, pos := "acl.go:65", after := #[{ on := 4, ground := Ground.guard }], guard := some (4, false) }) (v := ?_) rfl (by kernel_rfl) (by kernel_rfl) (by kernel_rfl) (fun _ _ _ h => h) (Or.inl ⟨by rfl, ?_⟩) (by assumption) ?_
          rotate_left
          · (intro w hSw; (try dsimp only at hSw); go_simp) <;> with_reducible rfl
          try simp only [Act.put, List.setIfInBounds_toArray, List.set_cons_zero, List.set_cons_succ]
          refine wpAnyH_ready (rs := [9]) (by kernel_rfl) (by simp) ?_
          refine AllReadyH.cons (o := { dst := some 29, op := Op.call { callee := Callee.value (Operand.func 30), args := #[Operand.tmp 27, Operand.tmp 28], argTypes := #[23, 26] }, type := 4, pos := "acl.go:65", after := #[{ on := 7, ground := Ground.data }, { on := 8, ground := Ground.data }, { on := 4, ground := Ground.chain }, { on := 4, ground := Ground.guard }], guard := some (4, false) }) rfl (fun K hK => ?_) AllReadyH.nil
          go_simp
          refine (HCo.out _ HS1.out).mono ?_
          rintro e wy ⟨rfl, HS2⟩
          clear hHeld
          refine hK.out _ _ (HP.out _ HS2.out.1) (fun hHeld => ?_)
          clear hK K
          refine wpAnyH_take (i := 10) (oi := { dst := some 30, op := Op.pick (Operand.tmp 24) (Operand.const (Value.bool true)) (Operand.tmp 29), type := 4, pos := "acl.go:65", after := #[{ on := 4, ground := Ground.data }, { on := 9, ground := Ground.data }], guard := none }) (v := ?_) rfl (by kernel_rfl) (by kernel_rfl) (by kernel_rfl) (fun _ _ _ h => h) (Or.inl ⟨by rfl, ?_⟩) (by assumption) ?_
          rotate_left
          · (intro w hSw; (try dsimp only at hSw); go_simp) <;> with_reducible rfl
          try simp only [Act.put, List.setIfInBounds_toArray, List.set_cons_zero, List.set_cons_succ]
          refine wpAnyH_done (by kernel_rfl) ?_ _
          cases bc
          · have HN : Hid (lok idOk idEq l (i + 1) = true) := by
              show _ = _
              rw [lok_step HX.out, HA.out, HV.out]; rfl
            go_wp2
            go_roundw
            case rel => exact ⟨i + 1, by omega, by simp, HN, HS2.out.2⟩
            case measure => simp [intOf]; omega
          · have HE : Hid (lok idOk idEq l l.length = false) := lok_bad HX.out (HV.out.trans rfl)
            go_wp2
            all_goals (go_ret; exact ⟨by rw [HE.out]; rfl, HS2.out.2⟩)
      · have hd : decide ((i : Int) < (l.length : Int)) = false := by simp; omega
        have HE : Hid (lok idOk idEq l l.length = true) := by
          have := HA.out
          rw [show i = l.length by omega] at this
          exact this
        go_wp2
        all_goals (go_ret; exact ⟨by rw [HE.out]; rfl, HW.out⟩)
  · have d4 : decide (4 < (l.length : Int)) = true := by simp; omega
    rw [decide_eq_false h4, Bool.false_and]
    clear hc hsz
    go_enter Tryd.func20, Tryd.ntmps20
    go_wp2
    all_goals (go_ret; exact ⟨rfl, HB0.out⟩)

end Go.Proofs.YtapnaknbidmnmaaDoor
