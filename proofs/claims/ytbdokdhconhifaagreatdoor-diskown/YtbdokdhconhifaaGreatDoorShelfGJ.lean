/- The disk's smaller steps: ready, fits, On, Off, Arm, write, crowded. -/
import Derived.Test.YtbdokdhconhifaaGreatDoorDkCJ
import Derived.Shelf.SlGeneric
import Derived.Shelf.Spec.SlicesGrow
import Derived.Test.YtbdokdhconhifaaGreatDoorProg
namespace Go.Proofs.YtbdokdhconhifaaGreatDoor
open Go.RowKit Go.Shelf
set_option maxRecDepth 8000

theorem heap_setK {w : World} {b i : Nat} {cs : Array Value} {t : TypeId} {fr : Nat × Nat} (c : Value) (h : w.heap[b]? = some (.cells cs t fr)) : (w.setCell ⟨b, i, none⟩ c).heap[b]? = some (.cells (cs.setIfInBounds i c) t fr) := by
  rw [setCell_eq_setRow w b i cs t fr c h]
  exact setRow_heap w b cs _ t fr h

/-- The cells of a disk's own block. -/
theorem IsDk.cells {w : World} {p : Nat} {fv : Value} {ms : List FiM} {D : DkD} (h : IsDk w p fv ms D) : w.cell? ⟨p, 0, none⟩ = some fv ∧ w.cell? ⟨p, 1, none⟩ = some (.bool true) ∧ w.cell? ⟨p, 2, none⟩ = some (.int .i64 D.room) ∧ w.cell? ⟨p, 3, none⟩ = some (.bool D.on) ∧ w.cell? ⟨p, 4, none⟩ = some (.int .i64 D.armed) ∧ w.cell? ⟨p, 5, none⟩ = some (.int .i64 D.writes) :=
  ⟨cell_of_row w p 0 _ _ _ h.row, cell_of_row w p 1 _ _ _ h.row, cell_of_row w p 2 _ _ _ h.row, cell_of_row w p 3 _ _ _ h.row, cell_of_row w p 4 _ _ _ h.row, cell_of_row w p 5 _ _ _ h.row⟩

theorem foot_ne {p : Nat} {fv : Value} {ms : List FiM} (h : (foot p fv ms).Nodup) : (∀ k, fv.ownBlock = some k → k ≠ p) ∧ ∀ m ∈ ms, m.q ≠ p ∧ ∀ k, m.v.ownBlock = some k → k ≠ p := by
  have h1 := (List.nodup_cons.1 h).1
  refine ⟨fun k e e2 => ?_, fun m hm => ⟨fun e => ?_, fun k e e2 => ?_⟩⟩
  · subst e2; exact h1 (List.mem_append_left _ (by rw [e]; simp))
  · exact h1 (List.mem_append_right _ (List.mem_flatMap.2 ⟨m, hm, by rw [← e]; exact List.mem_cons_self ..⟩))
  · subst e2; exact h1 (List.mem_append_right _ (List.mem_flatMap.2 ⟨m, hm, List.mem_cons_of_mem _ (by rw [e]; simp)⟩))

/-- Other numbers in the disk's own block. -/
theorem IsDk.fields {w w' : World} {p : Nat} {fv : Value} {ms : List FiM} {D D' : DkD} (h : IsDk w p fv ms D) (hk : Kept w w' (· = p)) (hrow : w'.heap[p]? = some (.cells (dkQ fv D'.room D'.on D'.armed D'.writes) 76 (0, 0))) (hf : D'.files = D.files) : DkTo w p fv ms w' D' fv ms := by
  obtain ⟨n1, n2⟩ := foot_ne h.nd
  refine ⟨⟨hrow, by rw [hf]; exact h.len, row_kept' h.own hk n1, fun k m f hm hf' => ?_, h.nd⟩, hk.mono (fun k _ e => by rw [e]; exact mem_foot_p), fun k hk => .inl hk⟩
  rw [hf] at hf'
  obtain ⟨a, b⟩ := n2 m (List.mem_of_getElem? hm)
  exact (h.file k m f hm hf').kept hk a b

theorem on_any {w : World} {p : Nat} {fv : Value} {ms : List FiM} {D : DkD} (h : IsDk w p fv ms D) : Calls Tryz.prog 61 #[.pointer (some ⟨p, 0, none⟩)] w fun e w' => e = .returned (.bool D.on) ∧ w' = w := by
  obtain ⟨c0, c1, c2, c3, c4, c5⟩ := h.cells
  have hl := lt_of_block h.row
  clear h
  go_enter Tryz.func61, Tryz.ntmps61
  go_wp2_with fail
  go_ret
  exact ⟨rfl, rfl⟩

/-- What Off makes of a disk. -/
def DkD.off (D : DkD) : DkD := if D.on then { D with on := false, armed := -1 } else D
def DkD.arm (D : DkD) (n : Int) : DkD := if D.on then { D with armed := max n (-1) } else D

theorem off_any {w : World} {p : Nat} {fv : Value} {ms : List FiM} {D : DkD} (h : IsDk w p fv ms D) : Calls Tryz.prog 32 #[.pointer (some ⟨p, 0, none⟩)] w fun e w' => e = .returned (.tuple #[]) ∧ DkTo w p fv ms w' D.off fv ms := by
  obtain ⟨c0, c1, c2, c3, c4, c5⟩ := h.cells
  have hl := lt_of_block h.row
  have HO : Hid _ := on_any h
  have HH : Hid (IsDk w p fv ms D) := h
  have f3 : w.frozen? ⟨p, 3, none⟩ = false := frozen_of_row w p 3 _ _ h.row
  have f4 : w.frozen? ⟨p, 4, none⟩ = false := frozen_of_row w p 4 _ _ h.row
  clear h
  go_enter Tryz.func32, Tryz.ntmps32
  go_wp2_with fail
  refine Calls.mono HO.out ?_
  rintro e w1 ⟨rfl, hw1⟩
  subst w1
  cases hon : D.on
  · go_wp2_with fail
    go_end0
    refine ⟨rfl, ?_⟩
    unfold DkD.off
    rw [hon]
    exact DkTo.refl HH.out
  · rw [hon] at c3
    go_wp2_with fail
    go_end0
    refine ⟨rfl, ?_⟩
    unfold DkD.off
    rw [hon, if_pos rfl]
    exact HH.out.fields (Kept.setCell (Kept.setCell (Kept.refl _ (fun k => k = p)) ⟨p, 3, none⟩ _ (fun _ => rfl)) ⟨p, 4, none⟩ _ (fun _ => rfl)) (heap_setK _ (heap_setK _ HH.out.row)) rfl

set_option maxHeartbeats 1000000 in
theorem fits_any {w : World} {p : Nat} {fv : Value} {ms : List FiM} {D : DkD} (h : IsDk w p fv ms D) (hfew : D.files.length ≤ 64) (hu : usedD D.files ≤ 1000000000000) (h0 : 0 ≤ D.room) (h1 : D.room ≤ 1000000000000) (m : Int) :
    Calls Tryz.prog 67 #[.pointer (some ⟨p, 0, none⟩), .int .i64 m] w fun e w' => e = .returned (.bool (decide (m ≤ D.room - usedD D.files))) ∧ w' = w.drew := by
  obtain ⟨x, hx⟩ : ∃ x : Int, x = D.room - usedD D.files := ⟨_, rfl⟩
  have HU : Hid (Calls Tryz.prog 95 #[.pointer (some ⟨p, 0, none⟩)] w.drew fun e w' => e = .returned (.int .i64 (usedD D.files)) ∧ w' = w.drew) := used_any (h.later (below_drewN (Below.refl _ _) 1)) hfew hu
  have HX : Hid (IntKind.i64.wrap (D.room - usedD D.files) = x) := by
    rw [hx]
    show IntKind.i64.wrap _ = _
    rw [IntKind.wrap_i64]
    omega
  obtain ⟨b, hb⟩ : ∃ b, b = decide (m ≤ x) := ⟨_, rfl⟩
  have HL : Hid (decide (m ≤ x) = b) := hb.symm
  have c2 : w.drew.cell? ⟨p, 2, none⟩ = some (.int .i64 D.room) := h.cells.2.2.1
  have hl := lt_of_block h.row
  rw [← hx, ← hb]
  clear h hx hb
  go_enter Tryz.func67, Tryz.ntmps67
  go_wp2_with fail
  refine wp_region_held_drew (S := fun w' => w'.cell? ⟨p, 2, none⟩ = some (.int .i64 D.room)) (by kernel_rfl) ?_ (fun hHeld => ?_)
  · exact c2
  refine wpAnyH_take (i := 0) (oi := { dst := some 5, op := Op.move (Operand.tmp 1), type := 3, pos := "disk.go:200", after := #[], guard := none }) (v := ?_) rfl (by kernel_rfl) (by kernel_rfl) (by kernel_rfl) (fun _ _ _ h => h) (Or.inl ⟨by rfl, ?_⟩) (by assumption) ?_
  rotate_left
  · (intro w hSw; (try dsimp only at hSw); go_simp) <;> with_reducible rfl
  try simp only [Act.put, List.setIfInBounds_toArray, List.set_cons_zero, List.set_cons_succ]
  refine wpAnyH_take (i := 1) (oi := { dst := some 6, op := Op.move (Operand.tmp 0), type := 24, pos := "disk.go:200", after := #[], guard := none }) (v := ?_) rfl (by kernel_rfl) (by kernel_rfl) (by kernel_rfl) (fun _ _ _ h => h) (Or.inl ⟨by rfl, ?_⟩) (by assumption) ?_
  rotate_left
  · (intro w hSw; (try dsimp only at hSw); go_simp) <;> with_reducible rfl
  try simp only [Act.put, List.setIfInBounds_toArray, List.set_cons_zero, List.set_cons_succ]
  refine wpAnyH_take (i := 2) (oi := { dst := some 7, op := Op.nilCheck (Operand.tmp 6), type := 0, pos := "disk.go:200", after := #[{ on := 1, ground := Ground.data }], guard := none }) (v := ?_) rfl (by kernel_rfl) (by kernel_rfl) (by kernel_rfl) (fun _ _ _ h => h) (Or.inl ⟨by rfl, ?_⟩) (by assumption) ?_
  rotate_left
  · (intro w hSw; (try dsimp only at hSw); go_simp) <;> with_reducible rfl
  try simp only [Act.put, List.setIfInBounds_toArray, List.set_cons_zero, List.set_cons_succ]
  refine wpAnyH_take (i := 3) (oi := { dst := some 8, op := Op.fieldAddr 76 (Operand.tmp 7) 2, type := 0, pos := "disk.go:200", after := #[{ on := 2, ground := Ground.data }], guard := none }) (v := ?_) rfl (by kernel_rfl) (by kernel_rfl) (by kernel_rfl) (fun _ _ _ h => h) (Or.inl ⟨by rfl, ?_⟩) (by assumption) ?_
  rotate_left
  · (intro w hSw; (try dsimp only at hSw); go_simp) <;> with_reducible rfl
  try simp only [Act.put, List.setIfInBounds_toArray, List.set_cons_zero, List.set_cons_succ]
  refine wpAnyH_take (i := 4) (oi := { dst := some 9, op := Op.load 3 (Operand.tmp 8), type := 3, pos := "disk.go:200", after := #[{ on := 3, ground := Ground.data }], guard := none }) (v := ?_) rfl (by kernel_rfl) (by kernel_rfl) (by kernel_rfl) (fun _ _ _ h => h) (Or.inl ⟨by rfl, ?_⟩) (by assumption) ?_
  rotate_left
  · (intro w hSw; (try dsimp only at hSw); go_simp) <;> with_reducible rfl
  try simp only [Act.put, List.setIfInBounds_toArray, List.set_cons_zero, List.set_cons_succ]
  refine wpAnyH_take (i := 5) (oi := { dst := some 10, op := Op.move (Operand.tmp 0), type := 24, pos := "disk.go:200", after := #[], guard := none }) (v := ?_) rfl (by kernel_rfl) (by kernel_rfl) (by kernel_rfl) (fun _ _ _ h => h) (Or.inl ⟨by rfl, ?_⟩) (by assumption) ?_
  rotate_left
  · (intro w hSw; (try dsimp only at hSw); go_simp) <;> with_reducible rfl
  try simp only [Act.put, List.setIfInBounds_toArray, List.set_cons_zero, List.set_cons_succ]
  refine wpAnyH_take (i := 6) (oi := { dst := some 11, op := Op.nilCheck (Operand.tmp 10), type := 0, pos := "disk.go:200", after := #[{ on := 5, ground := Ground.data }], guard := none }) (v := ?_) rfl (by kernel_rfl) (by kernel_rfl) (by kernel_rfl) (fun _ _ _ h => h) (Or.inl ⟨by rfl, ?_⟩) (by assumption) ?_
  rotate_left
  · (intro w hSw; (try dsimp only at hSw); go_simp) <;> with_reducible rfl
  try simp only [Act.put, List.setIfInBounds_toArray, List.set_cons_zero, List.set_cons_succ]
  refine wpAnyH_take (i := 7) (oi := { dst := some 12, op := Op.fieldAddr 76 (Operand.tmp 11) 0, type := 0, pos := "disk.go:200", after := #[{ on := 6, ground := Ground.data }], guard := none }) (v := ?_) rfl (by kernel_rfl) (by kernel_rfl) (by kernel_rfl) (fun _ _ _ h => h) (Or.inl ⟨by rfl, ?_⟩) (by assumption) ?_
  rotate_left
  · (intro w hSw; (try dsimp only at hSw); go_simp) <;> with_reducible rfl
  try simp only [Act.put, List.setIfInBounds_toArray, List.set_cons_zero, List.set_cons_succ]
  refine wpAnyH_ready (rs := [8]) (by kernel_rfl) (by simp) ?_
  refine AllReadyH.cons (o := { dst := some 13, op := Op.call { callee := Callee.value (Operand.func 95), args := #[Operand.tmp 12], argTypes := #[74] }, type := 3, pos := "disk.go:200", after := #[{ on := 7, ground := Ground.data }], guard := none }) rfl (fun K hK => ?_) AllReadyH.nil
  go_simp
  refine (HU.out).mono ?_
  rintro e w1 ⟨rfl, rfl⟩
  refine hK.out _ _ hHeld (fun _ => ?_)
  clear hK K
  refine wpAnyH_take (i := 9) (oi := { dst := some 14, op := Op.binOp BinOp.sub 3 (Operand.tmp 9) (Operand.tmp 13) 3, type := 3, pos := "disk.go:200", after := #[{ on := 4, ground := Ground.data }, { on := 8, ground := Ground.data }], guard := none }) (v := ?_) rfl (by kernel_rfl) (by kernel_rfl) (by kernel_rfl) (fun _ _ _ h => h) (Or.inl ⟨by rfl, ?_⟩) (by assumption) ?_
  rotate_left
  · (intro w hSw; (try dsimp only at hSw); go_simp; (rw [HX.out]) <;> with_reducible rfl)
  try simp only [Act.put, List.setIfInBounds_toArray, List.set_cons_zero, List.set_cons_succ]
  refine wpAnyH_take (i := 10) (oi := { dst := some 15, op := Op.binOp BinOp.leq 3 (Operand.tmp 5) (Operand.tmp 14) 3, type := 4, pos := "disk.go:200", after := #[{ on := 0, ground := Ground.data }, { on := 9, ground := Ground.data }], guard := none }) (v := ?_) rfl (by kernel_rfl) (by kernel_rfl) (by kernel_rfl) (fun _ _ _ h => h) (Or.inl ⟨by rfl, ?_⟩) (by assumption) ?_
  rotate_left
  · (intro w hSw; (try dsimp only at hSw); go_simp; (rw [HL.out]) <;> with_reducible rfl)
  try simp only [Act.put, List.setIfInBounds_toArray, List.set_cons_zero, List.set_cons_succ]
  refine wpAnyH_take (i := 11) (oi := { dst := some 4, op := Op.assign (Operand.tmp 15), type := 4, pos := "disk.go:200", after := #[{ on := 10, ground := Ground.data }, { on := 8, ground := Ground.chain }, { on := 0, ground := Ground.phase }, { on := 1, ground := Ground.phase }, { on := 2, ground := Ground.phase }, { on := 3, ground := Ground.phase }, { on := 4, ground := Ground.phase }, { on := 5, ground := Ground.phase }, { on := 6, ground := Ground.phase }, { on := 7, ground := Ground.phase }, { on := 8, ground := Ground.phase }, { on := 9, ground := Ground.phase }, { on := 10, ground := Ground.phase }], guard := none }) (v := ?_) rfl (by kernel_rfl) (by kernel_rfl) (by kernel_rfl) (fun _ _ _ h => h) (Or.inl ⟨by rfl, ?_⟩) (by assumption) ?_
  rotate_left
  · (intro w hSw; (try dsimp only at hSw); go_simp) <;> with_reducible rfl
  try simp only [Act.put, List.setIfInBounds_toArray, List.set_cons_zero, List.set_cons_succ]
  refine wpAnyH_done (by kernel_rfl) ?_ _
  all_goals go_wp2
  all_goals (go_ret; exact ⟨rfl, rfl⟩)

set_option maxHeartbeats 400000 in
theorem ready_any {w : World} {p : Nat} {fv : Value} {ms : List FiM} {D : DkD} (h : IsDk w p fv ms D) (m : Nat) (ns : List ByteArray) (hm : ∀ k n, ns[k]? = some n → w.cell? ⟨m, k, none⟩ = some (.string n)) (hn : ns.length ≤ 2) :
    Calls Tryz.prog 70 #[.pointer (some ⟨p, 0, none⟩), .slice (some ⟨m, 0, none⟩) ns.length ns.length] w fun e w' => e = .returned (.int .i64 (if D.on then (if ns.all isNm then 0 else 22) else 23)) ∧ w' = w := by
  obtain ⟨c0, c1, c2, c3, c4, c5⟩ := h.cells
  have hl := lt_of_block h.row
  obtain ⟨ee, hee⟩ : ∃ ee : Int, ee = (if D.on then (if ns.all isNm then 0 else 22) else 23) := ⟨_, rfl⟩
  have H0 : Hid (D.on = false → ee = 23) := fun e => by rw [hee, e]; rfl
  have H1 : Hid (D.on = true → ns.all isNm = true → ee = 0) := fun e e' => by rw [hee, e, e']; rfl
  have H2 : Hid (D.on = true → ns.all isNm = false → ee = 22) := fun e e' => by rw [hee, e, e']; rfl
  rw [← hee]
  clear hee
  have HM : Hid (∀ k (hk : k < ns.length), w.cell? ⟨m, k, none⟩ = some (.string ns[k])) := fun k hk => hm k _ (List.getElem?_eq_getElem hk)
  clear h hm c0 c2 c4 c5
  generalize D.on = on at *
  obtain ⟨N, hN⟩ : ∃ N, N = ns.length := ⟨_, rfl⟩
  have HQ : Hid (∀ k, k < N → ∃ n, w.cell? ⟨m, k, none⟩ = some (.string n) ∧ ((ns.take k).all isNm = true → (ns.take (k + 1)).all isNm = isNm n) ∧ (isNm n = false → ns.all isNm = false)) := fun k hk => by
    refine ⟨ns[k], HM.out k (by omega), fun e => by rw [all_take ns isNm k (by omega), e, Bool.true_and], fun e => ?_⟩
    rw [List.all_eq_false]
    exact ⟨ns[k], List.getElem_mem _, by rw [e]; simp⟩
  have HL : Hid ((ns.take N).all isNm = true → ns.all isNm = true) := fun e => by rw [hN, List.take_length] at e; exact e
  rw [← hN] at hn ⊢
  have HZ : Hid ((ns.take 0).all isNm = true) := by show _ = _; simp
  clear hN HM
  cases on
  · obtain rfl := H0.out rfl
    go_enter Tryz.func70, Tryz.ntmps70
    go_wp2_with fail
    go_ret
    exact ⟨rfl, rfl⟩
  · go_enter Tryz.func70, Tryz.ntmps70
    go_wp2_with fail
    go_loopw [23] (fun vi wr => ∃ k : Nat, k ≤ N ∧ vi = .int .i64 k ∧ Hid ((ns.take k).all isNm = true) ∧ wr = w) (fun vi _ => N - (intOf vi).toNat)
    case atStart => exact ⟨0, Nat.zero_le _, rfl, HZ, rfl⟩
    case round =>
      obtain ⟨k, hk, rfl, HA, rfl⟩ := hrel
      clear c1 c3
      by_cases hlt : k < N
      · obtain ⟨nk, hc, q1, q2⟩ := HQ.out k hlt
        have HI : Hid _ := dkName_any nk wr
        obtain ⟨bb, hbb⟩ : ∃ bb, bb = isNm nk := ⟨_, rfl⟩
        have HE : Hid (bb = true → (ns.take (k + 1)).all isNm = true) := fun e => by rw [q1 HA.out, ← hbb, e]
        have HF : Hid (bb = false → ee = 22) := fun e => H2.out (by trivial) (q2 (by rw [← hbb, e]))
        rw [← hbb] at HI
        clear q1 q2 hbb HA HQ
        go_wp2_with fail
        refine Calls.mono HI.out ?_
        rintro e w1 ⟨rfl, hw1⟩
        subst w1
        clear hc HI
        cases bb
        · obtain rfl := HF.out rfl
          go_wp2_with fail
          go_ret
          exact ⟨rfl, rfl⟩
        · go_wp2_with fail
          go_roundw
          case rel => exact ⟨k + 1, by omega, by go_num, HE.out (by trivial), by trivial⟩
          case measure => simp [intOf]; omega
      · obtain rfl : k = N := by omega
        obtain rfl := H1.out (by trivial) (HL.out HA.out)
        go_wp2_with fail
        go_ret
        exact ⟨rfl, rfl⟩

/-- What a write that nothing else refuses does: false: the power is gone. -/
def DkD.wr (D : DkD) : DkD := if D.armed = 0 then D.off else { D with armed := max (D.armed - 1) (-1), writes := D.writes + 1 }

theorem dkWrite_any {w : World} {p : Nat} {fv : Value} {ms : List FiM} {D : DkD} (h : IsDk w p fv ms D) (ha : -1 ≤ D.armed) (ha' : D.armed ≤ 9223372036854775807) (hw : 0 ≤ D.writes) (hw' : D.writes ≤ 4611686018427387904) :
    Calls Tryz.prog 71 #[.pointer (some ⟨p, 0, none⟩)] w fun e w' => e = .returned (.int .i64 (if D.armed = 0 then 23 else 0)) ∧ DkTo w p fv ms w' D.wr fv ms := by
  obtain ⟨c0, c1, c2, c3, c4, c5⟩ := h.cells
  have hl := lt_of_block h.row
  have HO : Hid _ := off_any h
  have HH : Hid (IsDk w p fv ms D) := h
  have f4 : w.frozen? ⟨p, 4, none⟩ = false := frozen_of_row w p 4 _ _ h.row
  have f5 : w.frozen? ⟨p, 5, none⟩ = false := frozen_of_row w p 5 _ _ h.row
  clear h
  by_cases h0 : D.armed = 0
  · rw [h0] at c4
    rw [if_pos h0]
    go_enter Tryz.func71, Tryz.ntmps71
    go_wp2_with fail
    refine Calls.mono HO.out ?_
    rintro e w1 ⟨rfl, hw1⟩
    have HW : Hid _ := hw1
    clear hw1
    go_wp2_with fail
    go_ret
    refine ⟨rfl, ?_⟩
    unfold DkD.wr
    rw [if_pos h0]
    exact HW.out
  · rw [if_neg h0]
    have hb : (D.armed == 0) = false := by simpa using h0
    go_enter Tryz.func71, Tryz.ntmps71
    go_wp2_with fail
    go_ret
    refine ⟨rfl, ?_⟩
    unfold DkD.wr
    rw [if_neg h0]
    refine HH.out.fields (Kept.setCell (Kept.setCell (Kept.refl _ (fun k => k = p)) ⟨p, 4, none⟩ _ (fun _ => rfl)) ⟨p, 5, none⟩ _ (fun _ => rfl)) (heap_setK _ (heap_setK _ HH.out.row)) rfl

theorem crowded_any {w : World} {p : Nat} {fv : Value} {ms : List FiM} {D : DkD} (h : IsDk w p fv ms D) : Calls Tryz.prog 66 #[.pointer (some ⟨p, 0, none⟩)] w fun e w' => e = .returned (.bool (decide ((64 : Int) ≤ D.files.length))) ∧ w' = w := by
  obtain ⟨c0, c1, c2, c3, c4, c5⟩ := h.cells
  have hl := lt_of_block h.row
  have hlen := h.len
  obtain ⟨fa, fc, hfv, _, _⟩ := fv_shape h
  subst hfv
  rw [hlen] at c0
  clear h
  go_enter Tryz.func66, Tryz.ntmps66
  go_wp2_with fail
  go_ret
  exact ⟨rfl, rfl⟩
end Go.Proofs.YtbdokdhconhifaaGreatDoor

/-
  DERIVED: THE SHELF's CONTRACTS AT THIS DUMP, IN PLAIN WORDS (tools/lay-plain.mjs out of 'TryzShelf.lean', which tools/lay-shelf.mjs wrote): THE SAME DECLARATIONS UNDER THE SAME NAMES: 'import', 'namespace', 'open', 'def', 'theorem' AND NOTHING ELSE: no command of the shelf's: FOR A HAND-IN. Each laying: the table of numbers ('.._ren') and one theorem, a field a fact of the dump's own or the kernel's comparison; each contract: ONE APPLICATION.
-/
namespace Go.Proofs
open Go.Shelf
def Tryz.growB_ren : Go.Shelf.Ren := ⟨fun | 4 => 98 | n => n, fun | 22 => 58 | 25 => 5 | 3 => 3 | 4 => 4 | 9 => 9 | 20 => 20 | 0 => 0 | n => n, fun | n => n⟩
theorem Tryz.growB : Go.Proofs.Lays8.n4 Tryz.prog Tryz.growB_ren := {
  mixed := by kernel_rfl
  f4 := ⟨Tryz.f98.name, by decide, Tryz.func98.trans (congrArg some (by kernel_rfl))⟩
  t0 := Tryz.underlying0
  a0 := Tryz.isAgg0
  z0 := Tryz.sizeOf0
  v0 := Tryz.zeroValue0
  t3 := Tryz.underlying3
  a3 := Tryz.isAgg3
  z3 := Tryz.sizeOf3
  v3 := Tryz.zeroValue3
  t4 := Tryz.underlying4
  a4 := Tryz.isAgg4
  z4 := Tryz.sizeOf4
  v4 := Tryz.zeroValue4
  t9 := Tryz.underlying9
  a9 := Tryz.isAgg9
  z9 := Tryz.sizeOf9
  v9 := Tryz.zeroValue9
  t20 := Tryz.underlying20
  a20 := Tryz.isAgg20
  z20 := Tryz.sizeOf20
  v20 := Tryz.zeroValue20
  t22 := Tryz.underlying58
  a22 := Tryz.isAgg58
  z22 := Tryz.sizeOf58
  v22 := Tryz.zeroValue58 }
open Go.RowKit in
/-- slices.Grow where there is room. -/
theorem Tryz.grow_room (base : Option Addr) (l c n : Nat) (w : World) (hlc : l ≤ c) (hc63 : c ≤ 9223372036854775807) (hn63 : n ≤ 9223372036854775807) (hroom : l + n ≤ c) :
    Calls Tryz.prog 98 #[.slice base l c, .int .i64 n] w fun e w' => e = .returned (.slice base l c) ∧ w' = w := Any8.slices_Grow_room Tryz.growB base l c n w hlc hc63 hn63 hroom
end Go.Proofs
