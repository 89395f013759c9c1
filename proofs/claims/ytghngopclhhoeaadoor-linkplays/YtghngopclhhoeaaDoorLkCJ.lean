/- What put does: a copy of a message behind all others. -/
import Derived.Test.YtghngopclhhoeaaDoorLkBJ
import Derived.Test.YtghngopclhhoeaaDoorRgIJ
namespace Go.Proofs.YtghngopclhhoeaaDoor
open Go.RowKit
set_option maxRecDepth 8000
set_option linter.unusedSimpArgs false

/-- One more message behind a list of one's own. -/
theorem app_ms {w : World} {base m : Nat} {v : Value} {l : List MsD} {x : MsD} (ho : w.ownsRow base 72 4 v l.length (msFlat l)) (hm : w.heap[m]? = some (.cells (msFlat [x]).toArray 72 (0, 0))) (hl : l.length ≤ 2000000000) (hb : base ≤ w.heap.size) :
    ∃ v' w', (∀ ty, (Builtin.append_ #[35, 35] ty #[v, .slice (some ⟨m, 0, none⟩) 1 1]).run Tryd.prog w = .ok v' w') ∧ w'.ownsRow base 72 4 v' (l ++ [x]).length (msFlat (l ++ [x])) ∧ Kept w w' (fun k => v.ownBlock = some k) ∧ NewRow w v v' := by
  obtain ⟨i, hi, hz, hs, hby⟩ := infoXl Tryd.infoMs
  obtain ⟨v', w', h1, h2, h3, h4⟩ := app_row (P := Tryd.prog) base 35 35 72 i _ 4 40 Tryd.underlying35 hi hz hs hby rfl (by decide) v l.length (msFlat l) ho m (msFlat [x]) rfl hm (msFlat_cell [x]) hl (by decide) hb
  refine ⟨v', w', fun ty => h1, ?_, ⟨h3.os, h3.tape, h3.output, h3.size, fun k hk hn => h3.block k hk (fun e => hn e.symm)⟩, ?_⟩
  · rw [List.length_append, msFlat_app]
    exact h2
  · rcases h4 with ⟨g, cap, rfl, rfl⟩ | ⟨h4, _⟩
    · exact .inl rfl
    · exact .inr ⟨_, h4, Nat.le_refl _⟩

/-- The list's cell set. -/
theorem Nt.set {w : World} {b : Nat} {n : Int} {v v' : Value} {l : List MsD} (hb : w.heap[b]? = some (.cells #[.int .i64 n, v] 78 (0, 0))) (ho : w.ownsRow 0 72 4 v' l.length (msFlat l)) (hm : ∀ m ∈ l, MsOk w m) (nd : (l.map MsD.g).Nodup) (h1 : 1 ≤ n) (h7 : n ≤ 7) :
    Nt (w.setCell ⟨b, 1, none⟩ v') b n v' l ∧ Kept w (w.setCell ⟨b, 1, none⟩ v') (fun k => k = b) := by
  have hks : Kept w (w.setCell ⟨b, 1, none⟩ v') (fun k => k = b) := (Kept.refl w _).setCell _ _ (fun _ => rfl)
  refine ⟨⟨?_, rowKl ho hks (fun g hg e => ?_), fun m hm' => (hm m hm').kept hks (fun e => ?_), nd, h1, h7⟩, hks⟩
  · rw [setCell_eq_setRow w b 1 _ _ _ _ hb, setRow_heap w b _ _ _ _ hb]; rfl
  · subst e; obtain ⟨cs, e'⟩ := rowTl ho hg; rw [hb] at e'; simp at e'
  · obtain ⟨cs, e'⟩ := rowTl (hm m hm').ow rfl; rw [e, hb] at e'; simp at e'

theorem put_step {U w1 : World} {b : Nat} {n : Int} {v : Value} {l : List MsD} {x : MsD} {O : Nat} (h : Nt U b n v l) (hB : Below U.heap.size U w1) (hO : w1.heap[O]? = some (.cells (msFlat [x]).toArray 72 (0, 0))) (hx : MsOk w1 x) (hg : U.heap.size ≤ x.g) (hl : l.length ≤ 100000000) :
    ∃ ao ln cap W2, (∀ ty, (Builtin.append_ #[35, 35] ty #[v, .slice (some ⟨O, 0, none⟩) 1 1]).run Tryd.prog w1 = .ok (.slice ao ln cap) W2) ∧ W2.cell? ⟨b, 1, none⟩ = some v ∧ W2.frozen? ⟨b, 1, none⟩ = false ∧ Nt (W2.setCell ⟨b, 1, none⟩ (.slice ao ln cap)) b n (.slice ao ln cap) (l ++ [x]) ∧ Kept U (W2.setCell ⟨b, 1, none⟩ (.slice ao ln cap)) (fun k => k = b ∨ v.ownBlock = some k) ∧ NewRow U v (.slice ao ln cap) ∧ b < W2.heap.size := by
  have h1 := h.below hB
  obtain ⟨v', W2, hr, ho, hk, hnr⟩ := app_ms (x := x) h1.ho hO (by omega) (Nat.zero_le _)
  obtain ⟨ao, cap, rfl⟩ := rowSl ho
  have hne := h1.ne
  have hb2 := hk.heap h1.hb hne.1
  have hgo : v.ownBlock ≠ some x.g := fun e => by have := (h.ho.lt _ e).2; omega
  have hm2 : ∀ m ∈ l ++ [x], MsOk W2 m := fun m hm => by
    rcases List.mem_append.1 hm with hm | hm
    · exact (h1.hm m hm).kept hk (hne.2.2 m hm)
    · simp at hm; subst hm; exact hx.kept hk hgo
  have nd : ((l ++ [x]).map MsD.g).Nodup := by
    rw [List.map_append, List.nodup_append]
    refine ⟨h.nd, by simp, fun a ha c hc e => ?_⟩
    simp at hc
    obtain ⟨m, hm, rfl⟩ := List.mem_map.1 ha
    have := (h.hm m hm).lt
    omega
  obtain ⟨hS, hks⟩ := Nt.set hb2 ho hm2 nd h.n1 h.n7
  refine ⟨ao, _, cap, W2, hr, by rw [cell_of_row W2 b _ _ _ _ hb2]; rfl, frozen_of_row W2 b 1 _ _ hb2, hS, ?_, ?_, lt_of_block hb2⟩
  · exact (((Below.kept hB).mono (S' := fun k => k = b ∨ v.ownBlock = some k) (fun k h1 h2 => by omega)).trans hk (fun _ _ e => .inr e)).trans hks (fun _ _ e => .inl e)
  · rcases hnr with h | ⟨k, h3, h4⟩
    · exact .inl h
    · exact .inr ⟨k, h3, Nat.le_trans hB.size h4⟩

/-- copies of one message. -/
theorem copies_one {w : World} {p : Nat} (m : MsD) (hp : w.heap[p]? = some (.cells (msFlat [m]).toArray 72 (0, 0))) (hs : Sees w m.v m.bs) (h1 : 1 ≤ m.bs.length) (h2 : m.bs.length ≤ 8192) (hy : Byts m.bs) :
    Calls Tryd.prog 57 #[.slice (some ⟨p, 0, none⟩) 1 1] w fun e w' => ∃ R O, e = .returned (.slice (some ⟨O, 0, none⟩) 1 1) ∧ w'.heap[O]? = some (.cells (msFlat [{ m with g := R, off := 0, c := m.bs.length }]).toArray 72 (0, 0)) ∧ MsOk w' { m with g := R, off := 0, c := m.bs.length } ∧ Below w.heap.size w w' ∧ w.heap.size ≤ R := by
  refine Calls.mono (copies_any (l := [m]) ⟨_, 1, rfl, Nat.le_refl _, fun x hx => by simp at hx; subst hx; exact hs, fun _ => ⟨p, 0, rfl, fun i x hx => ?_⟩⟩ (by simp) (fun x hx => by simp at hx; subst hx; exact h2) (fun x hx => by simp at hx; subst hx; exact h1)) ?_
  · cases i with
    | zero =>
      simp at hx; subst hx
      exact ⟨by rw [cell_of_row w p _ _ _ _ hp]; rfl, by rw [cell_of_row w p _ _ _ _ hp]; rfl, by rw [cell_of_row w p _ _ _ _ hp]; rfl, by rw [cell_of_row w p _ _ _ _ hp]; rfl⟩
    | succ i => simp at hx
  · rintro e w' ⟨R, O, rfl, hR, hO, h3, h4, h5⟩
    refine ⟨R, O, rfl, h3, ⟨rfl, ⟨by simp, .inr ⟨R, _, _, rfl, Nat.zero_le _, h4, Nat.le_refl _, by show m.bs.length ≤ maxLen; unfold maxLen; omega, by simp [allB], by simp only [allB, List.append_nil, Nat.mul_one, List.toList_toArray]; exact List.take_of_length_le (by simp)⟩⟩, h1, h2, hy⟩, h5, hR⟩

set_option maxHeartbeats 1000000 in
theorem put_anyL {w : World} {b : Nat} {n : Int} {v : Value} {l : List MsD} {pb po : Nat} (m : MsD) (h : Nt w b n v l) (hat : MsAt w pb po m) (hs : Sees w m.v m.bs) (h1 : 1 ≤ m.bs.length) (h2 : m.bs.length ≤ 8192) (hy : Byts m.bs) (hl : l.length ≤ 100000000) :
    Calls Tryd.prog 50 #[.pointer (some ⟨b, 0, none⟩), .pointer (some ⟨pb, po, none⟩)] w fun e w' => e = .returned (.int .i64 0) ∧ ∃ v' R, Nt w' b n v' (l ++ [{ m with g := R, off := 0, c := m.bs.length }]) ∧ Kept w w' (fun k => k = b ∨ v.ownBlock = some k) ∧ NewRow w v v' ∧ w.heap.size ≤ R := by
  obtain ⟨ao, cap, rfl⟩ := rowSl h.ho
  have hz : b < w.drew.heap.size := lt_of_block h.hb
  have hzp : pb < w.drew.heap.size := by have := World.block_lt_of_cell? w _ hat.c0; simpa using this
  have q0 : w.drew.cell? ⟨b, 1, none⟩ = some (.slice ao l.length cap) := h.c1
  have q1 : (w.drew.alloc (.cells m.cs.toArray 72)).cell? ⟨b, 1, none⟩ = some (.slice ao l.length cap) := (h.drewN 1 |>.below (oneL w.drew _)).c1
  have m0 : w.drew.cell? ⟨pb, po, none⟩ = some (.int .i8 m.f) := hat.c0
  have m1 : w.drew.cell? ⟨pb, po + 1, none⟩ = some (.int .i8 m.t) := hat.c1
  have m2 : w.drew.cell? ⟨pb, po + 2, none⟩ = some m.v := hat.c2
  have m3 : w.drew.cell? ⟨pb, po + 3, none⟩ = some (.bool m.sp) := hat.c3
  have HN : Hid (Nt w b n (.slice ao l.length cap) l) := h
  have HC : Hid (Calls Tryd.prog 57 #[.slice (some ⟨w.drew.heap.size, 0, none⟩) 1 1] (w.drew.alloc (.cells m.cs.toArray 72)) fun e w' => ∃ R O, e = .returned (.slice (some ⟨O, 0, none⟩) 1 1) ∧ w'.heap[O]? = some (.cells (msFlat [{ m with g := R, off := 0, c := m.bs.length }]).toArray 72 (0, 0)) ∧ MsOk w' { m with g := R, off := 0, c := m.bs.length } ∧ Below w.heap.size w w' ∧ w.heap.size ≤ R) := by
    have B0 : Below w.heap.size w w.drew := below_drewN (Below.refl _ w) 1
    have B1 := oneL w.drew (.cells m.cs.toArray 72)
    refine Calls.mono (copies_one m (heap_alloc_new w.drew (.cells m.cs.toArray 72)) ((hs.below B0 (Nat.le_refl _)).below B1 (Nat.le_refl _)) h1 h2 hy) ?_
    rintro e w' ⟨R, O, rfl, g1, g2, g3, g4⟩
    have hs1 : (w.drew.alloc (.cells m.cs.toArray 72)).heap.size = w.heap.size + 1 := World.size_alloc _ _
    exact ⟨R, O, rfl, g1, g2, B0.trans (B1.trans (g3.mono (by rw [hs1]; exact Nat.le_succ _))), by omega⟩
  clear h hat hs h1 h2 hy
  go_enter Tryd.func50, Tryd.ntmps50
  go_wp2_with fail
  refine wp_region_held_drew (S := (fun _ => True)) (by kernel_rfl) ?_ (fun hHeld => ?_)
  · trivial
  generalize hU : w.drew = U at *
  refine wpAnyH_take (i := 0) (oi := { dst := some 5, op := Op.move (Operand.tmp 0), type := 28, pos := "link.go:93", after := #[], guard := none }) (v := ?_) rfl (by kernel_rfl) (by kernel_rfl) (by kernel_rfl) (fun _ _ _ h => h) (Or.inl ⟨by rfl, ?_⟩) (by assumption) ?_
  rotate_left
  · (intro w hSw; (try dsimp only at hSw); go_simp) <;> with_reducible rfl
  try simp only [Act.put, List.setIfInBounds_toArray, List.set_cons_zero, List.set_cons_succ]
  refine wpAnyH_take (i := 1) (oi := { dst := some 6, op := Op.move (Operand.tmp 0), type := 28, pos := "link.go:93", after := #[], guard := none }) (v := ?_) rfl (by kernel_rfl) (by kernel_rfl) (by kernel_rfl) (fun _ _ _ h => h) (Or.inl ⟨by rfl, ?_⟩) (by assumption) ?_
  rotate_left
  · (intro w hSw; (try dsimp only at hSw); go_simp) <;> with_reducible rfl
  try simp only [Act.put, List.setIfInBounds_toArray, List.set_cons_zero, List.set_cons_succ]
  refine wpAnyH_take (i := 2) (oi := { dst := some 7, op := Op.nilCheck (Operand.tmp 6), type := 0, pos := "link.go:93", after := #[{ on := 1, ground := Ground.data }], guard := none }) (v := ?_) rfl (by kernel_rfl) (by kernel_rfl) (by kernel_rfl) (fun _ _ _ h => h) (Or.inl ⟨by rfl, ?_⟩) (by assumption) ?_
  rotate_left
  · (intro w hSw; (try dsimp only at hSw); go_simp) <;> with_reducible rfl
  try simp only [Act.put, List.setIfInBounds_toArray, List.set_cons_zero, List.set_cons_succ]
  refine wpAnyH_take (i := 3) (oi := { dst := some 8, op := Op.fieldAddr 78 (Operand.tmp 7) 1, type := 0, pos := "link.go:93", after := #[{ on := 2, ground := Ground.data }], guard := none }) (v := ?_) rfl (by kernel_rfl) (by kernel_rfl) (by kernel_rfl) (fun _ _ _ h => h) (Or.inl ⟨by rfl, ?_⟩) (by assumption) ?_
  rotate_left
  · (intro w hSw; (try dsimp only at hSw); go_simp) <;> with_reducible rfl
  try simp only [Act.put, List.setIfInBounds_toArray, List.set_cons_zero, List.set_cons_succ]
  refine wpAnyH_take (i := 5) (oi := { dst := some 10, op := Op.move (Operand.tmp 1), type := 110, pos := "link.go:93", after := #[], guard := none }) (v := ?_) rfl (by kernel_rfl) (by kernel_rfl) (by kernel_rfl) (fun _ _ _ h => h) (Or.inl ⟨by rfl, ?_⟩) (by assumption) ?_
  rotate_left
  · (intro w hSw; (try dsimp only at hSw); go_simp) <;> with_reducible rfl
  try simp only [Act.put, List.setIfInBounds_toArray, List.set_cons_zero, List.set_cons_succ]
  refine wpAnyH_take (i := 6) (oi := { dst := some 11, op := Op.nilCheck (Operand.tmp 10), type := 0, pos := "link.go:93", after := #[{ on := 5, ground := Ground.data }], guard := none }) (v := ?_) rfl (by kernel_rfl) (by kernel_rfl) (by kernel_rfl) (fun _ _ _ h => h) (Or.inl ⟨by rfl, ?_⟩) (by assumption) ?_
  rotate_left
  · (intro w hSw; (try dsimp only at hSw); go_simp) <;> with_reducible rfl
  try simp only [Act.put, List.setIfInBounds_toArray, List.set_cons_zero, List.set_cons_succ]
  refine wpAnyH_ready (rs := [4, 7]) (by kernel_rfl) (by simp) ?_
  refine AllReadyH.cons (o := { dst := some 9, op := Op.load 35 (Operand.tmp 8), type := 35, pos := "link.go:93", after := #[{ on := 3, ground := Ground.data }], guard := none }) rfl (fun K hK => ?_) (AllReadyH.cons (o := { dst := some 12, op := Op.load 72 (Operand.tmp 11), type := 72, pos := "link.go:93", after := #[{ on := 6, ground := Ground.data }], guard := none }) rfl (fun K hK => ?_) AllReadyH.nil)
  · go_simp
    refine hK.out _ _ trivial (fun hHeld => ?_)
    clear hK K
    refine wpAnyH_ready (rs := [7]) (by kernel_rfl) (by simp) ?_
    refine AllReadyH.cons (o := { dst := some 12, op := Op.load 72 (Operand.tmp 11), type := 72, pos := "link.go:93", after := #[{ on := 6, ground := Ground.data }], guard := none }) rfl (fun K hK => ?_) AllReadyH.nil
    go_simp
    refine hK.out _ _ trivial (fun hHeld => ?_)
    clear hK K
    refine wpAnyH_ready (rs := [8]) (by kernel_rfl) (by simp) ?_
    refine AllReadyH.cons (o := { dst := some 13, op := Op.buildSlice 35 1 #[(0, Operand.tmp 12)], type := 35, pos := "link.go:93", after := #[{ on := 7, ground := Ground.data }], guard := none }) rfl (fun K hK => ?_) AllReadyH.nil
    go_simp
    refine hK.out _ _ trivial (fun hHeld => ?_)
    clear hK K
    refine wpAnyH_ready (rs := [9]) (by kernel_rfl) (by simp) ?_
    refine AllReadyH.cons (o := { dst := some 14, op := Op.call { callee := Callee.value (Operand.func 57), args := #[Operand.tmp 13], argTypes := #[35] }, type := 35, pos := "link.go:93", after := #[{ on := 8, ground := Ground.data }], guard := none }) rfl (fun K hK => ?_) AllReadyH.nil
    go_simp
    refine Calls.mono HC.out ?_
    rintro e w1 ⟨R, O, rfl, hO, hR, hB1, hRU⟩
    obtain ⟨ao', ln', cap', W2, hr, q3, f3, hNf, hKf, hnf, hz3⟩ := put_step HN.out (hB1.mono (Nat.le_refl _)) hO hR hRU hl
    have q2 : w1.cell? ⟨b, 1, none⟩ = some (.slice ao l.length cap) := (HN.out.below hB1).c1
    have HE : Hid (Nt (W2.setCell ⟨b, 1, none⟩ (.slice ao' ln' cap')) b n (.slice ao' ln' cap') (l ++ [{ m with g := R, off := 0, c := m.bs.length }]) ∧ Kept w (W2.setCell ⟨b, 1, none⟩ (.slice ao' ln' cap')) (fun k => k = b ∨ (Value.slice ao l.length cap).ownBlock = some k) ∧ NewRow w (.slice ao l.length cap) (.slice ao' ln' cap') ∧ w.heap.size ≤ R) := ⟨hNf, hKf, hnf, hRU⟩
    clear hO hR hB1 hNf hKf hnf hRU
    refine hK.out _ _ trivial (fun hHeld => ?_)
    clear hK K
    refine wpAnyH_ready (rs := [10]) (by kernel_rfl) (by simp) ?_
    refine AllReadyH.cons (o := { dst := some 15, op := Op.call { callee := Callee.builtin Builtin.append, args := #[Operand.tmp 9, Operand.tmp 14], argTypes := #[35, 35] }, type := 35, pos := "link.go:93", after := #[{ on := 4, ground := Ground.data }, { on := 9, ground := Ground.data }, { on := 9, ground := Ground.chain }], guard := none }) rfl (fun K hK => ?_) AllReadyH.nil
    refine (if_pos (by kernel_rfl)).mpr ?_
    refine wp_appR _ _ 35 rfl (.slice ao l.length cap) _ _ W2 rfl rfl (hr _) ?_
    refine hK.out _ _ trivial (fun hHeld => ?_)
    clear hK K
    refine wpAnyH_take (i := 11) (oi := { dst := some 16, op := Op.nilCheck (Operand.tmp 5), type := 0, pos := "link.go:93", after := #[{ on := 0, ground := Ground.data }, { on := 0, ground := Ground.phase }, { on := 1, ground := Ground.phase }, { on := 2, ground := Ground.phase }, { on := 3, ground := Ground.phase }, { on := 4, ground := Ground.phase }, { on := 5, ground := Ground.phase }, { on := 6, ground := Ground.phase }, { on := 7, ground := Ground.phase }, { on := 8, ground := Ground.phase }, { on := 9, ground := Ground.phase }, { on := 10, ground := Ground.phase }], guard := none }) (v := ?_) rfl (by kernel_rfl) (by kernel_rfl) (by kernel_rfl) (fun _ _ _ h => h) (Or.inl ⟨by rfl, ?_⟩) (by assumption) ?_
    rotate_left
    · (intro w hSw; (try dsimp only at hSw); go_simp) <;> with_reducible rfl
    try simp only [Act.put, List.setIfInBounds_toArray, List.set_cons_zero, List.set_cons_succ]
    refine wpAnyH_take (i := 12) (oi := { dst := some 17, op := Op.fieldAddr 78 (Operand.tmp 16) 1, type := 0, pos := "link.go:93", after := #[{ on := 11, ground := Ground.data }, { on := 0, ground := Ground.phase }, { on := 1, ground := Ground.phase }, { on := 2, ground := Ground.phase }, { on := 3, ground := Ground.phase }, { on := 4, ground := Ground.phase }, { on := 5, ground := Ground.phase }, { on := 6, ground := Ground.phase }, { on := 7, ground := Ground.phase }, { on := 8, ground := Ground.phase }, { on := 9, ground := Ground.phase }, { on := 10, ground := Ground.phase }], guard := none }) (v := ?_) rfl (by kernel_rfl) (by kernel_rfl) (by kernel_rfl) (fun _ _ _ h => h) (Or.inl ⟨by rfl, ?_⟩) (by assumption) ?_
    rotate_left
    · (intro w hSw; (try dsimp only at hSw); go_simp) <;> with_reducible rfl
    try simp only [Act.put, List.setIfInBounds_toArray, List.set_cons_zero, List.set_cons_succ]
    refine wpAnyH_ready (rs := [13]) (by kernel_rfl) (by simp) ?_
    refine AllReadyH.cons (o := { dst := none, op := Op.store 35 (Operand.tmp 17) (Operand.tmp 15), type := 0, pos := "link.go:93", after := #[{ on := 12, ground := Ground.data }, { on := 10, ground := Ground.data }, { on := 10, ground := Ground.chain }, { on := 0, ground := Ground.phase }, { on := 1, ground := Ground.phase }, { on := 2, ground := Ground.phase }, { on := 3, ground := Ground.phase }, { on := 4, ground := Ground.phase }, { on := 5, ground := Ground.phase }, { on := 6, ground := Ground.phase }, { on := 7, ground := Ground.phase }, { on := 8, ground := Ground.phase }, { on := 9, ground := Ground.phase }, { on := 10, ground := Ground.phase }], guard := none }) rfl (fun K hK => ?_) AllReadyH.nil
    go_simp
    refine hK.out _ _ trivial (fun hHeld => ?_)
    clear hK K
    refine wpAnyH_done (by kernel_rfl) ?_ _
    clear hHeld
    go_wp2
    all_goals (go_ret; exact ⟨rfl, _, _, HE.out⟩)
  · go_simp
    refine hK.out _ _ trivial (fun hHeld => ?_)
    clear hK K
    refine wpAnyH_ready (rs := [4, 8]) (by kernel_rfl) (by simp) ?_
    refine AllReadyH.cons (o := { dst := some 9, op := Op.load 35 (Operand.tmp 8), type := 35, pos := "link.go:93", after := #[{ on := 3, ground := Ground.data }], guard := none }) rfl (fun K hK => ?_) (AllReadyH.cons (o := { dst := some 13, op := Op.buildSlice 35 1 #[(0, Operand.tmp 12)], type := 35, pos := "link.go:93", after := #[{ on := 7, ground := Ground.data }], guard := none }) rfl (fun K hK => ?_) AllReadyH.nil)
    · go_simp
      refine hK.out _ _ trivial (fun hHeld => ?_)
      clear hK K
      refine wpAnyH_ready (rs := [8]) (by kernel_rfl) (by simp) ?_
      refine AllReadyH.cons (o := { dst := some 13, op := Op.buildSlice 35 1 #[(0, Operand.tmp 12)], type := 35, pos := "link.go:93", after := #[{ on := 7, ground := Ground.data }], guard := none }) rfl (fun K hK => ?_) AllReadyH.nil
      go_simp
      refine hK.out _ _ trivial (fun hHeld => ?_)
      clear hK K
      refine wpAnyH_ready (rs := [9]) (by kernel_rfl) (by simp) ?_
      refine AllReadyH.cons (o := { dst := some 14, op := Op.call { callee := Callee.value (Operand.func 57), args := #[Operand.tmp 13], argTypes := #[35] }, type := 35, pos := "link.go:93", after := #[{ on := 8, ground := Ground.data }], guard := none }) rfl (fun K hK => ?_) AllReadyH.nil
      go_simp
      refine Calls.mono HC.out ?_
      rintro e w1 ⟨R, O, rfl, hO, hR, hB1, hRU⟩
      obtain ⟨ao', ln', cap', W2, hr, q3, f3, hNf, hKf, hnf, hz3⟩ := put_step HN.out (hB1.mono (Nat.le_refl _)) hO hR hRU hl
      have q2 : w1.cell? ⟨b, 1, none⟩ = some (.slice ao l.length cap) := (HN.out.below hB1).c1
      have HE : Hid (Nt (W2.setCell ⟨b, 1, none⟩ (.slice ao' ln' cap')) b n (.slice ao' ln' cap') (l ++ [{ m with g := R, off := 0, c := m.bs.length }]) ∧ Kept w (W2.setCell ⟨b, 1, none⟩ (.slice ao' ln' cap')) (fun k => k = b ∨ (Value.slice ao l.length cap).ownBlock = some k) ∧ NewRow w (.slice ao l.length cap) (.slice ao' ln' cap') ∧ w.heap.size ≤ R) := ⟨hNf, hKf, hnf, hRU⟩
      clear hO hR hB1 hNf hKf hnf hRU
      refine hK.out _ _ trivial (fun hHeld => ?_)
      clear hK K
      refine wpAnyH_ready (rs := [10]) (by kernel_rfl) (by simp) ?_
      refine AllReadyH.cons (o := { dst := some 15, op := Op.call { callee := Callee.builtin Builtin.append, args := #[Operand.tmp 9, Operand.tmp 14], argTypes := #[35, 35] }, type := 35, pos := "link.go:93", after := #[{ on := 4, ground := Ground.data }, { on := 9, ground := Ground.data }, { on := 9, ground := Ground.chain }], guard := none }) rfl (fun K hK => ?_) AllReadyH.nil
      refine (if_pos (by kernel_rfl)).mpr ?_
      refine wp_appR _ _ 35 rfl (.slice ao l.length cap) _ _ W2 rfl rfl (hr _) ?_
      refine hK.out _ _ trivial (fun hHeld => ?_)
      clear hK K
      refine wpAnyH_take (i := 11) (oi := { dst := some 16, op := Op.nilCheck (Operand.tmp 5), type := 0, pos := "link.go:93", after := #[{ on := 0, ground := Ground.data }, { on := 0, ground := Ground.phase }, { on := 1, ground := Ground.phase }, { on := 2, ground := Ground.phase }, { on := 3, ground := Ground.phase }, { on := 4, ground := Ground.phase }, { on := 5, ground := Ground.phase }, { on := 6, ground := Ground.phase }, { on := 7, ground := Ground.phase }, { on := 8, ground := Ground.phase }, { on := 9, ground := Ground.phase }, { on := 10, ground := Ground.phase }], guard := none }) (v := ?_) rfl (by kernel_rfl) (by kernel_rfl) (by kernel_rfl) (fun _ _ _ h => h) (Or.inl ⟨by rfl, ?_⟩) (by assumption) ?_
      rotate_left
      · (intro w hSw; (try dsimp only at hSw); go_simp) <;> with_reducible rfl
      try simp only [Act.put, List.setIfInBounds_toArray, List.set_cons_zero, List.set_cons_succ]
      refine wpAnyH_take (i := 12) (oi := { dst := some 17, op := Op.fieldAddr 78 (Operand.tmp 16) 1, type := 0, pos := "link.go:93", after := #[{ on := 11, ground := Ground.data }, { on := 0, ground := Ground.phase }, { on := 1, ground := Ground.phase }, { on := 2, ground := Ground.phase }, { on := 3, ground := Ground.phase }, { on := 4, ground := Ground.phase }, { on := 5, ground := Ground.phase }, { on := 6, ground := Ground.phase }, { on := 7, ground := Ground.phase }, { on := 8, ground := Ground.phase }, { on := 9, ground := Ground.phase }, { on := 10, ground := Ground.phase }], guard := none }) (v := ?_) rfl (by kernel_rfl) (by kernel_rfl) (by kernel_rfl) (fun _ _ _ h => h) (Or.inl ⟨by rfl, ?_⟩) (by assumption) ?_
      rotate_left
      · (intro w hSw; (try dsimp only at hSw); go_simp) <;> with_reducible rfl
      try simp only [Act.put, List.setIfInBounds_toArray, List.set_cons_zero, List.set_cons_succ]
      refine wpAnyH_ready (rs := [13]) (by kernel_rfl) (by simp) ?_
      refine AllReadyH.cons (o := { dst := none, op := Op.store 35 (Operand.tmp 17) (Operand.tmp 15), type := 0, pos := "link.go:93", after := #[{ on := 12, ground := Ground.data }, { on := 10, ground := Ground.data }, { on := 10, ground := Ground.chain }, { on := 0, ground := Ground.phase }, { on := 1, ground := Ground.phase }, { on := 2, ground := Ground.phase }, { on := 3, ground := Ground.phase }, { on := 4, ground := Ground.phase }, { on := 5, ground := Ground.phase }, { on := 6, ground := Ground.phase }, { on := 7, ground := Ground.phase }, { on := 8, ground := Ground.phase }, { on := 9, ground := Ground.phase }, { on := 10, ground := Ground.phase }], guard := none }) rfl (fun K hK => ?_) AllReadyH.nil
      go_simp
      refine hK.out _ _ trivial (fun hHeld => ?_)
      clear hK K
      refine wpAnyH_done (by kernel_rfl) ?_ _
      clear hHeld
      go_wp2
      all_goals (go_ret; exact ⟨rfl, _, _, HE.out⟩)
    · go_simp
      refine hK.out _ _ trivial (fun hHeld => ?_)
      clear hK K
      refine wpAnyH_ready (rs := [4, 9]) (by kernel_rfl) (by simp) ?_
      refine AllReadyH.cons (o := { dst := some 9, op := Op.load 35 (Operand.tmp 8), type := 35, pos := "link.go:93", after := #[{ on := 3, ground := Ground.data }], guard := none }) rfl (fun K hK => ?_) (AllReadyH.cons (o := { dst := some 14, op := Op.call { callee := Callee.value (Operand.func 57), args := #[Operand.tmp 13], argTypes := #[35] }, type := 35, pos := "link.go:93", after := #[{ on := 8, ground := Ground.data }], guard := none }) rfl (fun K hK => ?_) AllReadyH.nil)
      · go_simp
        refine hK.out _ _ trivial (fun hHeld => ?_)
        clear hK K
        refine wpAnyH_ready (rs := [9]) (by kernel_rfl) (by simp) ?_
        refine AllReadyH.cons (o := { dst := some 14, op := Op.call { callee := Callee.value (Operand.func 57), args := #[Operand.tmp 13], argTypes := #[35] }, type := 35, pos := "link.go:93", after := #[{ on := 8, ground := Ground.data }], guard := none }) rfl (fun K hK => ?_) AllReadyH.nil
        go_simp
        refine Calls.mono HC.out ?_
        rintro e w1 ⟨R, O, rfl, hO, hR, hB1, hRU⟩
        obtain ⟨ao', ln', cap', W2, hr, q3, f3, hNf, hKf, hnf, hz3⟩ := put_step HN.out (hB1.mono (Nat.le_refl _)) hO hR hRU hl
        have q2 : w1.cell? ⟨b, 1, none⟩ = some (.slice ao l.length cap) := (HN.out.below hB1).c1
        have HE : Hid (Nt (W2.setCell ⟨b, 1, none⟩ (.slice ao' ln' cap')) b n (.slice ao' ln' cap') (l ++ [{ m with g := R, off := 0, c := m.bs.length }]) ∧ Kept w (W2.setCell ⟨b, 1, none⟩ (.slice ao' ln' cap')) (fun k => k = b ∨ (Value.slice ao l.length cap).ownBlock = some k) ∧ NewRow w (.slice ao l.length cap) (.slice ao' ln' cap') ∧ w.heap.size ≤ R) := ⟨hNf, hKf, hnf, hRU⟩
        clear hO hR hB1 hNf hKf hnf hRU
        refine hK.out _ _ trivial (fun hHeld => ?_)
        clear hK K
        refine wpAnyH_ready (rs := [10]) (by kernel_rfl) (by simp) ?_
        refine AllReadyH.cons (o := { dst := some 15, op := Op.call { callee := Callee.builtin Builtin.append, args := #[Operand.tmp 9, Operand.tmp 14], argTypes := #[35, 35] }, type := 35, pos := "link.go:93", after := #[{ on := 4, ground := Ground.data }, { on := 9, ground := Ground.data }, { on := 9, ground := Ground.chain }], guard := none }) rfl (fun K hK => ?_) AllReadyH.nil
        refine (if_pos (by kernel_rfl)).mpr ?_
        refine wp_appR _ _ 35 rfl (.slice ao l.length cap) _ _ W2 rfl rfl (hr _) ?_
        refine hK.out _ _ trivial (fun hHeld => ?_)
        clear hK K
        refine wpAnyH_take (i := 11) (oi := { dst := some 16, op := Op.nilCheck (Operand.tmp 5), type := 0, pos := "link.go:93", after := #[{ on := 0, ground := Ground.data }, { on := 0, ground := Ground.phase }, { on := 1, ground := Ground.phase }, { on := 2, ground := Ground.phase }, { on := 3, ground := Ground.phase }, { on := 4, ground := Ground.phase }, { on := 5, ground := Ground.phase }, { on := 6, ground := Ground.phase }, { on := 7, ground := Ground.phase }, { on := 8, ground := Ground.phase }, { on := 9, ground := Ground.phase }, { on := 10, ground := Ground.phase }], guard := none }) (v := ?_) rfl (by kernel_rfl) (by kernel_rfl) (by kernel_rfl) (fun _ _ _ h => h) (Or.inl ⟨by rfl, ?_⟩) (by assumption) ?_
        rotate_left
        · (intro w hSw; (try dsimp only at hSw); go_simp) <;> with_reducible rfl
        try simp only [Act.put, List.setIfInBounds_toArray, List.set_cons_zero, List.set_cons_succ]
        refine wpAnyH_take (i := 12) (oi := { dst := some 17, op := Op.fieldAddr 78 (Operand.tmp 16) 1, type := 0, pos := "link.go:93", after := #[{ on := 11, ground := Ground.data }, { on := 0, ground := Ground.phase }, { on := 1, ground := Ground.phase }, { on := 2, ground := Ground.phase }, { on := 3, ground := Ground.phase }, { on := 4, ground := Ground.phase }, { on := 5, ground := Ground.phase }, { on := 6, ground := Ground.phase }, { on := 7, ground := Ground.phase }, { on := 8, ground := Ground.phase }, { on := 9, ground := Ground.phase }, { on := 10, ground := Ground.phase }], guard := none }) (v := ?_) rfl (by kernel_rfl) (by kernel_rfl) (by kernel_rfl) (fun _ _ _ h => h) (Or.inl ⟨by rfl, ?_⟩) (by assumption) ?_
        rotate_left
        · (intro w hSw; (try dsimp only at hSw); go_simp) <;> with_reducible rfl
        try simp only [Act.put, List.setIfInBounds_toArray, List.set_cons_zero, List.set_cons_succ]
        refine wpAnyH_ready (rs := [13]) (by kernel_rfl) (by simp) ?_
        refine AllReadyH.cons (o := { dst := none, op := Op.store 35 (Operand.tmp 17) (Operand.tmp 15), type := 0, pos := "link.go:93", after := #[{ on := 12, ground := Ground.data }, { on := 10, ground := Ground.data }, { on := 10, ground := Ground.chain }, { on := 0, ground := Ground.phase }, { on := 1, ground := Ground.phase }, { on := 2, ground := Ground.phase }, { on := 3, ground := Ground.phase }, { on := 4, ground := Ground.phase }, { on := 5, ground := Ground.phase }, { on := 6, ground := Ground.phase }, { on := 7, ground := Ground.phase }, { on := 8, ground := Ground.phase }, { on := 9, ground := Ground.phase }, { on := 10, ground := Ground.phase }], guard := none }) rfl (fun K hK => ?_) AllReadyH.nil
        go_simp
        refine hK.out _ _ trivial (fun hHeld => ?_)
        clear hK K
        refine wpAnyH_done (by kernel_rfl) ?_ _
        clear hHeld
        go_wp2
        all_goals (go_ret; exact ⟨rfl, _, _, HE.out⟩)
      · go_simp
        refine Calls.mono HC.out ?_
        rintro e w1 ⟨R, O, rfl, hO, hR, hB1, hRU⟩
        obtain ⟨ao', ln', cap', W2, hr, q3, f3, hNf, hKf, hnf, hz3⟩ := put_step HN.out (hB1.mono (Nat.le_refl _)) hO hR hRU hl
        have q2 : w1.cell? ⟨b, 1, none⟩ = some (.slice ao l.length cap) := (HN.out.below hB1).c1
        have HE : Hid (Nt (W2.setCell ⟨b, 1, none⟩ (.slice ao' ln' cap')) b n (.slice ao' ln' cap') (l ++ [{ m with g := R, off := 0, c := m.bs.length }]) ∧ Kept w (W2.setCell ⟨b, 1, none⟩ (.slice ao' ln' cap')) (fun k => k = b ∨ (Value.slice ao l.length cap).ownBlock = some k) ∧ NewRow w (.slice ao l.length cap) (.slice ao' ln' cap') ∧ w.heap.size ≤ R) := ⟨hNf, hKf, hnf, hRU⟩
        clear hO hR hB1 hNf hKf hnf hRU
        refine hK.out _ _ trivial (fun hHeld => ?_)
        clear hK K
        refine wpAnyH_ready (rs := [4]) (by kernel_rfl) (by simp) ?_
        refine AllReadyH.cons (o := { dst := some 9, op := Op.load 35 (Operand.tmp 8), type := 35, pos := "link.go:93", after := #[{ on := 3, ground := Ground.data }], guard := none }) rfl (fun K hK => ?_) AllReadyH.nil
        go_simp
        refine hK.out _ _ trivial (fun hHeld => ?_)
        clear hK K
        refine wpAnyH_ready (rs := [10]) (by kernel_rfl) (by simp) ?_
        refine AllReadyH.cons (o := { dst := some 15, op := Op.call { callee := Callee.builtin Builtin.append, args := #[Operand.tmp 9, Operand.tmp 14], argTypes := #[35, 35] }, type := 35, pos := "link.go:93", after := #[{ on := 4, ground := Ground.data }, { on := 9, ground := Ground.data }, { on := 9, ground := Ground.chain }], guard := none }) rfl (fun K hK => ?_) AllReadyH.nil
        refine (if_pos (by kernel_rfl)).mpr ?_
        refine wp_appR _ _ 35 rfl (.slice ao l.length cap) _ _ W2 rfl rfl (hr _) ?_
        refine hK.out _ _ trivial (fun hHeld => ?_)
        clear hK K
        refine wpAnyH_take (i := 11) (oi := { dst := some 16, op := Op.nilCheck (Operand.tmp 5), type := 0, pos := "link.go:93", after := #[{ on := 0, ground := Ground.data }, { on := 0, ground := Ground.phase }, { on := 1, ground := Ground.phase }, { on := 2, ground := Ground.phase }, { on := 3, ground := Ground.phase }, { on := 4, ground := Ground.phase }, { on := 5, ground := Ground.phase }, { on := 6, ground := Ground.phase }, { on := 7, ground := Ground.phase }, { on := 8, ground := Ground.phase }, { on := 9, ground := Ground.phase }, { on := 10, ground := Ground.phase }], guard := none }) (v := ?_) rfl (by kernel_rfl) (by kernel_rfl) (by kernel_rfl) (fun _ _ _ h => h) (Or.inl ⟨by rfl, ?_⟩) (by assumption) ?_
        rotate_left
        · (intro w hSw; (try dsimp only at hSw); go_simp) <;> with_reducible rfl
        try simp only [Act.put, List.setIfInBounds_toArray, List.set_cons_zero, List.set_cons_succ]
        refine wpAnyH_take (i := 12) (oi := { dst := some 17, op := Op.fieldAddr 78 (Operand.tmp 16) 1, type := 0, pos := "link.go:93", after := #[{ on := 11, ground := Ground.data }, { on := 0, ground := Ground.phase }, { on := 1, ground := Ground.phase }, { on := 2, ground := Ground.phase }, { on := 3, ground := Ground.phase }, { on := 4, ground := Ground.phase }, { on := 5, ground := Ground.phase }, { on := 6, ground := Ground.phase }, { on := 7, ground := Ground.phase }, { on := 8, ground := Ground.phase }, { on := 9, ground := Ground.phase }, { on := 10, ground := Ground.phase }], guard := none }) (v := ?_) rfl (by kernel_rfl) (by kernel_rfl) (by kernel_rfl) (fun _ _ _ h => h) (Or.inl ⟨by rfl, ?_⟩) (by assumption) ?_
        rotate_left
        · (intro w hSw; (try dsimp only at hSw); go_simp) <;> with_reducible rfl
        try simp only [Act.put, List.setIfInBounds_toArray, List.set_cons_zero, List.set_cons_succ]
        refine wpAnyH_ready (rs := [13]) (by kernel_rfl) (by simp) ?_
        refine AllReadyH.cons (o := { dst := none, op := Op.store 35 (Operand.tmp 17) (Operand.tmp 15), type := 0, pos := "link.go:93", after := #[{ on := 12, ground := Ground.data }, { on := 10, ground := Ground.data }, { on := 10, ground := Ground.chain }, { on := 0, ground := Ground.phase }, { on := 1, ground := Ground.phase }, { on := 2, ground := Ground.phase }, { on := 3, ground := Ground.phase }, { on := 4, ground := Ground.phase }, { on := 5, ground := Ground.phase }, { on := 6, ground := Ground.phase }, { on := 7, ground := Ground.phase }, { on := 8, ground := Ground.phase }, { on := 9, ground := Ground.phase }, { on := 10, ground := Ground.phase }], guard := none }) rfl (fun K hK => ?_) AllReadyH.nil
        go_simp
        refine hK.out _ _ trivial (fun hHeld => ?_)
        clear hK K
        refine wpAnyH_done (by kernel_rfl) ?_ _
        clear hHeld
        go_wp2
        all_goals (go_ret; exact ⟨rfl, _, _, HE.out⟩)

end Go.Proofs.YtghngopclhhoeaaDoor
