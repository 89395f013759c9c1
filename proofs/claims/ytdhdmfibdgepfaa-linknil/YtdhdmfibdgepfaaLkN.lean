/- LinkNil's walk. -/
import Derived.Test.YtdhdmfibdgepfaaLkL
import Derived.Deep.CutRange
namespace Go.Proofs.Ytdhdmfibdgepfaa
open Go.RowKit
set_option maxRecDepth 8000
set_option linter.unusedSimpArgs false
set_option linter.unusedVariables false

/-- A call in a box. -/
structure OpAt (w : World) (b : Nat) (o : OpT) : Prop where
  c2 : w.cell? ⟨b, 2, none⟩ = some (.int .i8 o.f)
  c3 : w.cell? ⟨b, 3, none⟩ = some (.int .i8 o.t)
  c4 : w.cell? ⟨b, 4, none⟩ = some (.slice o.ba o.bs.length o.bc)
  c5 : w.cell? ⟨b, 5, none⟩ = some (.int .i64 o.pl)
  c6 : w.cell? ⟨b, 6, none⟩ = some (.int .i64 o.k)
  c7 : w.cell? ⟨b, 7, none⟩ = some (.int .u8 o.x)
  lt : b < w.heap.size
theorem OpAt.below {w w' : World} {b : Nat} {o : OpT} (h : OpAt w b o) (hB : Below w.heap.size w w') : OpAt w' b o := by
  have hn : ¬ w.heap.size ≤ b := by have := h.lt; omega
  have hk := Below.kept hB
  exact ⟨hk.cell h.c2 hn, hk.cell h.c3 hn, hk.cell h.c4 hn, hk.cell h.c5 hn, hk.cell h.c6 hn, hk.cell h.c7 hn, Nat.lt_of_lt_of_le h.lt hB.size⟩
theorem OpAt.new (w : World) (o : OpT) : OpAt (w.alloc (.cells o.cells.toArray 32)) w.heap.size o := by
  have h := heap_alloc_new w (.cells o.cells.toArray 32)
  exact ⟨by rw [cell_of_row _ _ _ _ _ _ h]; rfl, by rw [cell_of_row _ _ _ _ _ _ h]; rfl, by rw [cell_of_row _ _ _ _ _ _ h]; rfl, by rw [cell_of_row _ _ _ _ _ _ h]; rfl, by rw [cell_of_row _ _ _ _ _ _ h]; rfl, by rw [cell_of_row _ _ _ _ _ _ h]; rfl, lt_of_block h⟩

theorem sees_zero (w : World) : Sees w (.slice none 0 0) [] := ⟨none, 0, rfl, Nat.le_refl _, by unfold maxLen; omega, fun _ => rfl, .inl rfl⟩
/-- A list of one message that is a zero one. -/
theorem zeroG {w : World} {b : Nat} (h : w.heap[b]? = some (.cells #[.int .i8 0, .int .i8 0, .slice none 0 0, .bool false] 38 (0, 0))) : SeesG w (.slice (some ⟨b, 0, none⟩) 1 1) [⟨0, 0, .slice none 0 0, [], false⟩] :=
  ⟨_, 1, rfl, Nat.le_refl _, fun m hm => by simp at hm; subst hm; exact sees_zero w, fun _ => ⟨b, 0, rfl, fun i m hm j u hj => by
    cases i with
    | succ i => simp at hm
    | zero =>
      simp at hm; subst hm
      rw [cell_of_row w b _ _ _ _ h, ← hj, List.getElem?_toArray]
      congr 1; omega⟩⟩

set_option maxHeartbeats 4000000 in
theorem nothing_any {w : World} {q : Option Addr} {o : OpT} (h : NoN w q) (hg : GoodT w o) (hl : o.bs.length ≤ 67108864) :
    Calls Try.prog 17 #[.pointer q, .agg o.cells.toArray] w fun e w' => e = .returned (.bool true) ∧ Below w.heap.size w w' := by
  have hB1 := oneL w (.cells o.cells.toArray 32)
  have hbx := OpAt.new w o
  have HB : Hid (∀ W, Below (w.alloc (.cells o.cells.toArray 32)).heap.size (w.alloc (.cells o.cells.toArray 32)) W → NoN W q ∧ GoodT W o ∧ OpAt W w.heap.size o ∧ Below w.heap.size w W) := fun W hW => ⟨(h.below hB1).below hW, (hg.below hB1).below hW, hbx.below hW, hB1.trans (hW.mono hB1.size)⟩
  obtain ⟨w1, hw1⟩ : ∃ w1, w1 = w.alloc (.cells o.cells.toArray 32) := ⟨_, rfl⟩
  rw [← hw1] at HB
  clear h hg hB1 hbx
  go_enter Try.func17, Try.ntmps17
  go_upto_region 1 with fail
  rw [← hw1]
  clear hw1
  have S0 : OpAt w1.drew w.heap.size o ∧ Below w1.heap.size w1 w1.drew := by
    have b := below_drewN (Below.refl w1.heap.size w1) 1
    exact ⟨(HB.out _ b).2.2.1, b⟩
  refine wp_region_held_drew (S := (fun W => OpAt W w.heap.size o ∧ Below w1.heap.size w1 W)) (by kernel_rfl) ?_ (fun hHeld => ?_)
  · exact S0
  refine wpAnyH_take (i := 0) (oi := { dst := some 11, op := Op.move (Operand.tmp 0), type := 25, pos := "law.go:292", after := #[], guard := none }) (v := ?_) rfl (by kernel_rfl) (by kernel_rfl) (by kernel_rfl) (fun _ _ _ h => h) (Or.inl ⟨by rfl, ?_⟩) (by assumption) ?_
  rotate_left
  · (intro w hSw; (try dsimp only at hSw); obtain ⟨⟨s2, s3, s4, s5, s6, s7, s8⟩, _⟩ := hSw; go_simp) <;> with_reducible rfl
  try simp only [Act.put, List.setIfInBounds_toArray, List.set_cons_zero, List.set_cons_succ]
  refine wpAnyH_take (i := 1) (oi := { dst := some 12, op := Op.fieldAddr 32 (Operand.tmp 3) 2, type := 0, pos := "law.go:292", after := #[], guard := none }) (v := ?_) rfl (by kernel_rfl) (by kernel_rfl) (by kernel_rfl) (fun _ _ _ h => h) (Or.inl ⟨by rfl, ?_⟩) (by assumption) ?_
  rotate_left
  · (intro w hSw; (try dsimp only at hSw); obtain ⟨⟨s2, s3, s4, s5, s6, s7, s8⟩, _⟩ := hSw; go_simp) <;> with_reducible rfl
  try simp only [Act.put, List.setIfInBounds_toArray, List.set_cons_zero, List.set_cons_succ]
  refine wpAnyH_take (i := 2) (oi := { dst := some 13, op := Op.load 29 (Operand.tmp 12), type := 29, pos := "law.go:292", after := #[{ on := 1, ground := Ground.data }], guard := none }) (v := ?_) rfl (by kernel_rfl) (by kernel_rfl) (by kernel_rfl) (fun _ _ _ h => h) (Or.inl ⟨by rfl, ?_⟩) (by assumption) ?_
  rotate_left
  · (intro w hSw; (try dsimp only at hSw); obtain ⟨⟨s2, s3, s4, s5, s6, s7, s8⟩, _⟩ := hSw; go_simp) <;> with_reducible rfl
  try simp only [Act.put, List.setIfInBounds_toArray, List.set_cons_zero, List.set_cons_succ]
  refine wpAnyH_take (i := 3) (oi := { dst := some 14, op := Op.fieldAddr 32 (Operand.tmp 3) 3, type := 0, pos := "law.go:292", after := #[], guard := none }) (v := ?_) rfl (by kernel_rfl) (by kernel_rfl) (by kernel_rfl) (fun _ _ _ h => h) (Or.inl ⟨by rfl, ?_⟩) (by assumption) ?_
  rotate_left
  · (intro w hSw; (try dsimp only at hSw); obtain ⟨⟨s2, s3, s4, s5, s6, s7, s8⟩, _⟩ := hSw; go_simp) <;> with_reducible rfl
  try simp only [Act.put, List.setIfInBounds_toArray, List.set_cons_zero, List.set_cons_succ]
  refine wpAnyH_take (i := 4) (oi := { dst := some 15, op := Op.load 29 (Operand.tmp 14), type := 29, pos := "law.go:292", after := #[{ on := 3, ground := Ground.data }], guard := none }) (v := ?_) rfl (by kernel_rfl) (by kernel_rfl) (by kernel_rfl) (fun _ _ _ h => h) (Or.inl ⟨by rfl, ?_⟩) (by assumption) ?_
  rotate_left
  · (intro w hSw; (try dsimp only at hSw); obtain ⟨⟨s2, s3, s4, s5, s6, s7, s8⟩, _⟩ := hSw; go_simp) <;> with_reducible rfl
  try simp only [Act.put, List.setIfInBounds_toArray, List.set_cons_zero, List.set_cons_succ]
  refine wpAnyH_take (i := 5) (oi := { dst := some 16, op := Op.fieldAddr 32 (Operand.tmp 3) 4, type := 0, pos := "law.go:292", after := #[], guard := none }) (v := ?_) rfl (by kernel_rfl) (by kernel_rfl) (by kernel_rfl) (fun _ _ _ h => h) (Or.inl ⟨by rfl, ?_⟩) (by assumption) ?_
  rotate_left
  · (intro w hSw; (try dsimp only at hSw); obtain ⟨⟨s2, s3, s4, s5, s6, s7, s8⟩, _⟩ := hSw; go_simp) <;> with_reducible rfl
  try simp only [Act.put, List.setIfInBounds_toArray, List.set_cons_zero, List.set_cons_succ]
  refine wpAnyH_take (i := 6) (oi := { dst := some 17, op := Op.load 30 (Operand.tmp 16), type := 30, pos := "law.go:292", after := #[{ on := 5, ground := Ground.data }], guard := none }) (v := ?_) rfl (by kernel_rfl) (by kernel_rfl) (by kernel_rfl) (fun _ _ _ h => h) (Or.inl ⟨by rfl, ?_⟩) (by assumption) ?_
  rotate_left
  · (intro w hSw; (try dsimp only at hSw); obtain ⟨⟨s2, s3, s4, s5, s6, s7, s8⟩, _⟩ := hSw; go_simp) <;> with_reducible rfl
  try simp only [Act.put, List.setIfInBounds_toArray, List.set_cons_zero, List.set_cons_succ]
  refine wpAnyH_ready (rs := [7]) (by kernel_rfl) (by simp) ?_
  refine AllReadyH.cons (o := { dst := some 18, op := Op.call { callee := Callee.value (Operand.func 10), args := #[Operand.tmp 17], argTypes := #[30] }, type := 30, pos := "law.go:292", after := #[{ on := 6, ground := Ground.data }], guard := none }) rfl (fun K hK => ?_) AllReadyH.nil
  go_simp
  refine Calls.mono (copyBytes_any _ o.bs _ (HB.out _ hHeld.2).2.1.se (by omega)) ?_
  rintro _ w2 ⟨v2, rfl, ho2, hb2⟩
  have hb2' := hHeld.2.trans (hb2.mono hHeld.2.size)
  clear ho2 hb2 hHeld
  refine hK.out _ _ ⟨(HB.out _ hb2').2.2.1, hb2'⟩ (fun hHeld => ?_)
  clear hK K
  refine wpAnyH_ready (rs := [8]) (by kernel_rfl) (by simp) ?_
  refine AllReadyH.cons (o := { dst := some 19, op := Op.call { callee := Callee.value (Operand.func 9), args := #[Operand.tmp 11, Operand.tmp 13, Operand.tmp 15, Operand.tmp 18], argTypes := #[25, 29, 29, 30] }, type := 26, pos := "law.go:292", after := #[{ on := 0, ground := Ground.data }, { on := 2, ground := Ground.data }, { on := 4, ground := Ground.data }, { on := 7, ground := Ground.data }, { on := 7, ground := Ground.chain }], guard := none }) rfl (fun K hK => ?_) AllReadyH.nil
  go_simp
  refine Calls.mono (send_none (HB.out _ hHeld.2).1 _ _ _) ?_
  rintro _ w3 ⟨rfl, rfl⟩
  refine hK.out _ _ hHeld (fun hHeld => ?_)
  clear hK K
  refine wpAnyH_take (i := 9) (oi := { dst := some 5, op := Op.assign (Operand.tmp 19), type := 26, pos := "law.go:292", after := #[{ on := 8, ground := Ground.data }, { on := 8, ground := Ground.chain }, { on := 0, ground := Ground.phase }, { on := 1, ground := Ground.phase }, { on := 2, ground := Ground.phase }, { on := 3, ground := Ground.phase }, { on := 4, ground := Ground.phase }, { on := 5, ground := Ground.phase }, { on := 6, ground := Ground.phase }, { on := 7, ground := Ground.phase }, { on := 8, ground := Ground.phase }], guard := none }) (v := ?_) rfl (by kernel_rfl) (by kernel_rfl) (by kernel_rfl) (fun _ _ _ h => h) (Or.inl ⟨by rfl, ?_⟩) (by assumption) ?_
  rotate_left
  · (intro w hSw; (try dsimp only at hSw); obtain ⟨⟨s2, s3, s4, s5, s6, s7, s8⟩, _⟩ := hSw; go_simp) <;> with_reducible rfl
  try simp only [Act.put, List.setIfInBounds_toArray, List.set_cons_zero, List.set_cons_succ]
  refine wpAnyH_done (by kernel_rfl) ?_ _
  have H3 : Hid _ := hHeld.2
  clear hHeld S0
  clear hb2'
  obtain ⟨c2, c3, c4, c5, c6, c7, hz⟩ := (HB.out _ H3.out).2.2.1
  go_wp2_with fail
  refine Calls.mono (take_none (HB.out _ H3.out).1 _) ?_
  rintro _ w4 ⟨rfl, b4⟩
  have H4 : Hid (Below w1.heap.size w1 w4) := H3.out.trans (b4.mono H3.out.size)
  clear c2 c3 c4 c5 c6 c7 hz b4 H3
  obtain ⟨W5, hW5⟩ : ∃ W5, W5 = w4.alloc (.cells #[.int .i8 0, .int .i8 0, .slice none 0 0, .bool false] 38) := ⟨_, rfl⟩
  have H5 : Hid (Below w1.heap.size w1 W5 ∧ W5.heap[w4.heap.size]? = some (.cells #[.int .i8 0, .int .i8 0, .slice none 0 0, .bool false] 38 (0, 0))) := by rw [hW5]; exact ⟨H4.out.trans ((oneL w4 _).mono H4.out.size), heap_alloc_new w4 _⟩
  go_upto_region 3 with fail
  rw [← hW5]
  clear hW5 H4
  obtain ⟨c2, c3, c4, c5, c6, c7, hz⟩ := (HB.out _ H5.out.1).2.2.1
  go_wp2_with fail
  refine Calls.mono (double_none (HB.out _ H5.out.1).1 _) ?_
  rintro _ _ ⟨rfl, rfl⟩
  go_wp2_with fail
  refine Calls.mono (spoil_noneL (HB.out _ H5.out.1).1 _ _ _) ?_
  rintro _ w6 ⟨rfl, b6⟩
  have H6 : Hid (Below w1.heap.size w1 w6 ∧ w6.heap[w4.heap.size]? = some (.cells #[.int .i8 0, .int .i8 0, .slice none 0 0, .bool false] 38 (0, 0))) := ⟨H5.out.1.trans (b6.mono H5.out.1.size), boxL H5.out.2 b6⟩
  clear c2 c3 c4 c5 c6 c7 hz b6 H5
  have t0 := cell_of_row w6 w4.heap.size 0 _ _ _ H6.out.2
  have t1 := cell_of_row w6 w4.heap.size 1 _ _ _ H6.out.2
  have t2 := cell_of_row w6 w4.heap.size 2 _ _ _ H6.out.2
  have t3 := cell_of_row w6 w4.heap.size 3 _ _ _ H6.out.2
  have hz := lt_of_block H6.out.2
  obtain ⟨W7, hW7⟩ : ∃ W7, W7 = (w6.alloc (.cells #[.int .i8 0, .int .i8 0, .slice none 0 0, .bool false] 38)).alloc (.cells #[.int .i8 0, .int .i8 0, .slice none 0 0, .bool false] 38) := ⟨_, rfl⟩
  have H7 : Hid (Below w1.heap.size w1 W7 ∧ SeesG W7 (.slice (some ⟨w6.heap.size, 0, none⟩) 1 1) [⟨0, 0, .slice none 0 0, [], false⟩] ∧ SeesG W7 (.slice (some ⟨w6.heap.size + 1, 0, none⟩) 1 1) [⟨0, 0, .slice none 0 0, [], false⟩]) := by
    obtain ⟨f1, f2, f3, f4⟩ := two_alloc w6 (.cells #[.int .i8 0, .int .i8 0, .slice none 0 0, .bool false] 38) (.cells #[.int .i8 0, .int .i8 0, .slice none 0 0, .bool false] 38)
    rw [← hW7] at f1 f2 f3
    exact ⟨H6.out.1.trans (f1.mono H6.out.1.size), zeroG f2, zeroG f3⟩
  go_wp2_with fail
  rw [← hW7]
  clear hW7 H6 t0 t1 t2 t3 hz
  refine Calls.mono (eqMs_same H7.out.2.1 H7.out.2.2 ⟨rfl, fun i x y hx hy => by rw [hx] at hy; cases hy; exact ⟨rfl, rfl, rfl, rfl⟩⟩ (Nat.le_of_ble_eq_true rfl)) ?_
  rintro _ _ ⟨rfl, n8, rfl⟩
  have H8 : Hid (Below w1.heap.size w1 (W7.drewN n8)) := below_drewN H7.out.1 n8
  clear H7
  generalize W7.drewN n8 = w8 at *
  go_wp2_with fail
  refine Calls.mono (len_none (HB.out _ H8.out).1) ?_
  rintro _ _ ⟨rfl, rfl⟩
  go_wp2_with fail
  refine Calls.mono (all_none (HB.out _ H8.out).1) ?_
  rintro _ _ ⟨rfl, rfl⟩
  go_wp2_with fail
  all_goals (go_ret; exact ⟨rfl, (HB.out _ H8.out).2.2.2⟩)
end Go.Proofs.Ytdhdmfibdgepfaa
