/- A region that draws its order, walked in the round of a range over a function as it is outside of one: where it defers nothing. No Go function is walked here. -/
import Derived.Test.YtldcbabgommghaaGreatDoorProg
import Derived.CallsIn
import Derived.OrdersIn
import Derived.Deep.RegionHeld
import Derived.Test.YtldcbabgommghaaGreatDoorLkBJ
namespace Go.Proofs.YtldcbabgommghaaGreatDoor
set_option maxRecDepth 8000

theorem wp_appR {P : Program} {o : Oper} {a : Act} {w : World} {K : Act → World → Prop} {Q : Exit → Act → World → Prop} (s x : Operand) (t : TypeId) (hop : o.op = Op.call { callee := Callee.builtin Builtin.append, args := #[s, x], argTypes := #[t, t] }) (v u v' : Value) (w' : World) (hs : a.eval s = v) (hx : a.eval x = u) (hrun : (Builtin.append_ #[t, t] o.type #[v, u]).run P w = .ok v' w') (h : K (a.put o.dst v') w') : Oper.wp P o a w K Q := by
  unfold Oper.wp
  simp [execOp, hop, resolve, invoke, builtin, hs, hx, hrun, Result.andThen]
  exact h

end Go.Proofs.YtldcbabgommghaaGreatDoor

/- What put does: a copy of a message behind all others. -/
namespace Go.Proofs.YtldcbabgommghaaGreatDoor
open Go.RowKit
set_option maxRecDepth 8000
set_option linter.unusedSimpArgs false

/-- One more message behind a list of one's own. -/
theorem app_ms {w : World} {base m : Nat} {v : Value} {l : List MsD} {x : MsD} (ho : w.ownsRow base 54 4 v l.length (msFlat l)) (hm : w.heap[m]? = some (.cells (msFlat [x]).toArray 54 (0, 0))) (hl : l.length ≤ 2000000000) (hb : base ≤ w.heap.size) :
    ∃ v' w', (∀ ty, (Builtin.append_ #[80, 80] ty #[v, .slice (some ⟨m, 0, none⟩) 1 1]).run Tryz.prog w = .ok v' w') ∧ w'.ownsRow base 54 4 v' (l ++ [x]).length (msFlat (l ++ [x])) ∧ Kept w w' (fun k => v.ownBlock = some k) ∧ NewRow w v v' := by
  obtain ⟨i, hi, hz, hs, hby⟩ := infoXl Tryz.infoMs
  obtain ⟨v', w', h1, h2, h3, h4⟩ := app_row (P := Tryz.prog) base 80 80 54 i _ 4 40 Tryz.underlying80 hi hz hs hby rfl (by decide) v l.length (msFlat l) ho m (msFlat [x]) rfl hm (msFlat_cell [x]) hl (by decide) hb
  refine ⟨v', w', fun ty => h1, ?_, ⟨h3.os, h3.tape, h3.output, h3.size, fun k hk hn => h3.block k hk (fun e => hn e.symm)⟩, ?_⟩
  · rw [List.length_append, msFlat_app]
    exact h2
  · rcases h4 with ⟨g, cap, rfl, rfl⟩ | ⟨h4, _⟩
    · exact .inl rfl
    · exact .inr ⟨_, h4, Nat.le_refl _⟩

/-- The list's cell set. -/
theorem Nt.set {w : World} {b : Nat} {n : Int} {v v' : Value} {l : List MsD} (hb : w.heap[b]? = some (.cells #[.int .i64 n, v] 82 (0, 0))) (ho : w.ownsRow 0 54 4 v' l.length (msFlat l)) (hm : ∀ m ∈ l, MsOk w m) (nd : (l.map MsD.g).Nodup) (h1 : 1 ≤ n) (h7 : n ≤ 7) :
    Nt (w.setCell ⟨b, 1, none⟩ v') b n v' l ∧ Kept w (w.setCell ⟨b, 1, none⟩ v') (fun k => k = b) := by
  have hks : Kept w (w.setCell ⟨b, 1, none⟩ v') (fun k => k = b) := (Kept.refl w _).setCell _ _ (fun _ => rfl)
  refine ⟨⟨?_, rowKl ho hks (fun g hg e => ?_), fun m hm' => (hm m hm').kept hks (fun e => ?_), nd, h1, h7⟩, hks⟩
  · rw [setCell_eq_setRow w b 1 _ _ _ _ hb, setRow_heap w b _ _ _ _ hb]; rfl
  · subst e; obtain ⟨cs, e'⟩ := rowTl ho hg; rw [hb] at e'; simp at e'
  · obtain ⟨cs, e'⟩ := rowTl (hm m hm').ow rfl; rw [e, hb] at e'; simp at e'

theorem put_step {U w1 : World} {b : Nat} {n : Int} {v : Value} {l : List MsD} {x : MsD} {O : Nat} (h : Nt U b n v l) (hB : Below U.heap.size U w1) (hO : w1.heap[O]? = some (.cells (msFlat [x]).toArray 54 (0, 0))) (hx : MsOk w1 x) (hg : U.heap.size ≤ x.g) (hl : l.length ≤ 100000000) :
    ∃ ao ln cap W2, (∀ ty, (Builtin.append_ #[80, 80] ty #[v, .slice (some ⟨O, 0, none⟩) 1 1]).run Tryz.prog w1 = .ok (.slice ao ln cap) W2) ∧ W2.cell? ⟨b, 1, none⟩ = some v ∧ W2.frozen? ⟨b, 1, none⟩ = false ∧ Nt (W2.setCell ⟨b, 1, none⟩ (.slice ao ln cap)) b n (.slice ao ln cap) (l ++ [x]) ∧ Kept U (W2.setCell ⟨b, 1, none⟩ (.slice ao ln cap)) (fun k => k = b ∨ v.ownBlock = some k) ∧ NewRow U v (.slice ao ln cap) ∧ b < W2.heap.size := by
  have h1 := h.below hB
  obtain ⟨v', W2, hr, ho, hk, hnr⟩ := app_ms (x := x) h1.ho hO (by omega) (Nat.zero_le _)
  obtain ⟨ao, cap, rfl⟩ := rowSl ho
  have hne := h1.ne
  have hb2 := hk.heap h1.hb hne.1
  have hgo : v.ownBlock ≠ some x.g := fun e => by have := (h.ho.lt _ e).2; omega
  have hm2 : ∀ m ∈ l ++ [x], MsOk W2 m := fun m hm => by
    rcases List.mem_append.1 hm with hm | hm
    · exact (h1.hm m hm).kept hk (hne.2.2 m hm)
    · simp at hm; subst hm; exact hx.kept hk hgo
  have nd : ((l ++ [x]).map MsD.g).Nodup := by
    rw [List.map_append, List.nodup_append]
    refine ⟨h.nd, by simp, fun a ha c hc e => ?_⟩
    simp at hc
    obtain ⟨m, hm, rfl⟩ := List.mem_map.1 ha
    have := (h.hm m hm).lt
    omega
  obtain ⟨hS, hks⟩ := Nt.set hb2 ho hm2 nd h.n1 h.n7
  refine ⟨ao, _, cap, W2, hr, by rw [cell_of_row W2 b _ _ _ _ hb2]; rfl, frozen_of_row W2 b 1 _ _ hb2, hS, ?_, ?_, lt_of_block hb2⟩
  · exact (((Below.kept hB).mono (S' := fun k => k = b ∨ v.ownBlock = some k) (fun k h1 h2 => by omega)).trans hk (fun _ _ e => .inr e)).trans hks (fun _ _ e => .inl e)
  · rcases hnr with h | ⟨k, h3, h4⟩
    · exact .inl h
    · exact .inr ⟨k, h3, Nat.le_trans hB.size h4⟩

/-- copies of one message. -/
theorem copies_one {w : World} {p : Nat} (m : MsD) (hp : w.heap[p]? = some (.cells (msFlat [m]).toArray 54 (0, 0))) (hs : Sees w m.v m.bs) (h1 : 1 ≤ m.bs.length) (h2 : m.bs.length ≤ 8192) (hy : Byts m.bs) :
    Calls Tryz.prog 53 #[.slice (some ⟨p, 0, none⟩) 1 1] w fun e w' => ∃ R O, e = .returned (.slice (some ⟨O, 0, none⟩) 1 1) ∧ w'.heap[O]? = some (.cells (msFlat [{ m with g := R, off := 0, c := m.bs.length }]).toArray 54 (0, 0)) ∧ MsOk w' { m with g := R, off := 0, c := m.bs.length } ∧ Below w.heap.size w w' ∧ w.heap.size ≤ R := by
  refine Calls.mono (copies_any (l := [m]) ⟨_, 1, rfl, Nat.le_refl _, fun x hx => by simp at hx; subst hx; exact hs, fun _ => ⟨p, 0, rfl, fun i x hx => ?_⟩⟩ (by simp) (fun x hx => by simp at hx; subst hx; exact h2) (fun x hx => by simp at hx; subst hx; exact h1)) ?_
  · cases i with
    | zero =>
      simp at hx; subst hx
      exact ⟨by rw [cell_of_row w p _ _ _ _ hp]; rfl, by rw [cell_of_row w p _ _ _ _ hp]; rfl, by rw [cell_of_row w p _ _ _ _ hp]; rfl, by rw [cell_of_row w p _ _ _ _ hp]; rfl⟩
    | succ i => simp at hx
  · rintro e w' ⟨R, O, rfl, hR, hO, h3, h4, h5⟩
    refine ⟨R, O, rfl, h3, ⟨rfl, ⟨by simp, .inr ⟨R, _, _, rfl, Nat.zero_le _, h4, Nat.le_refl _, by show m.bs.length ≤ maxLen; unfold maxLen; omega, by simp [allB], by simp only [allB, List.append_nil, Nat.mul_one, List.toList_toArray]; exact List.take_of_length_le (by simp)⟩⟩, h1, h2, hy⟩, h5, hR⟩

set_option maxHeartbeats 1000000 in
theorem put_anyL {w : World} {b : Nat} {n : Int} {v : Value} {l : List MsD} {pb po : Nat} (m : MsD) (h : Nt w b n v l) (hat : MsAt w pb po m) (hs : Sees w m.v m.bs) (h1 : 1 ≤ m.bs.length) (h2 : m.bs.length ≤ 8192) (hy : Byts m.bs) (hl : l.length ≤ 100000000) :
    Calls Tryz.prog 36 #[.pointer (some ⟨b, 0, none⟩), .pointer (some ⟨pb, po, none⟩)] w fun e w' => e = .returned (.int .i64 0) ∧ ∃ v' R, Nt w' b n v' (l ++ [{ m with g := R, off := 0, c := m.bs.length }]) ∧ Kept w w' (fun k => k = b ∨ v.ownBlock = some k) ∧ NewRow w v v' ∧ w.heap.size ≤ R := by
  obtain ⟨ao, cap, rfl⟩ := rowSl h.ho
  have hz : b < w.drew.heap.size := lt_of_block h.hb
  have hzp : pb < w.drew.heap.size := by have := World.block_lt_of_cell? w _ hat.c0; simpa using this
  have q0 : w.drew.cell? ⟨b, 1, none⟩ = some (.slice ao l.length cap) := h.c1
  have q1 : (w.drew.alloc (.cells m.cs.toArray 54)).cell? ⟨b, 1, none⟩ = some (.slice ao l.length cap) := (h.drewN 1 |>.below (oneL w.drew _)).c1
  have m0 : w.drew.cell? ⟨pb, po, none⟩ = some (.int .i8 m.f) := hat.c0
  have m1 : w.drew.cell? ⟨pb, po + 1, none⟩ = some (.int .i8 m.t) := hat.c1
  have m2 : w.drew.cell? ⟨pb, po + 2, none⟩ = some m.v := hat.c2
  have m3 : w.drew.cell? ⟨pb, po + 3, none⟩ = some (.bool m.sp) := hat.c3
  have HN : Hid (Nt w b n (.slice ao l.length cap) l) := h
  have HC : Hid (Calls Tryz.prog 53 #[.slice (some ⟨w.drew.heap.size, 0, none⟩) 1 1] (w.drew.alloc (.cells m.cs.toArray 54)) fun e w' => ∃ R O, e = .returned (.slice (some ⟨O, 0, none⟩) 1 1) ∧ w'.heap[O]? = some (.cells (msFlat [{ m with g := R, off := 0, c := m.bs.length }]).toArray 54 (0, 0)) ∧ MsOk w' { m with g := R, off := 0, c := m.bs.length } ∧ Below w.heap.size w w' ∧ w.heap.size ≤ R) := by
    have B0 : Below w.heap.size w w.drew := below_drewN (Below.refl _ w) 1
    have B1 := oneL w.drew (.cells m.cs.toArray 54)
    refine Calls.mono (copies_one m (heap_alloc_new w.drew (.cells m.cs.toArray 54)) ((hs.below B0 (Nat.le_refl _)).below B1 (Nat.le_refl _)) h1 h2 hy) ?_
    rintro e w' ⟨R, O, rfl, g1, g2, g3, g4⟩
    have hs1 : (w.drew.alloc (.cells m.cs.toArray 54)).heap.size = w.heap.size + 1 := World.size_alloc _ _
    exact ⟨R, O, rfl, g1, g2, B0.trans (B1.trans (g3.mono (by rw [hs1]; exact Nat.le_succ _))), by omega⟩
  clear h hat hs h1 h2 hy
  go_enter Tryz.func36, Tryz.ntmps36
  go_wp2_with fail
  refine wp_region_held_drew (S := (fun _ => True)) (by kernel_rfl) ?_ (fun hHeld => ?_)
  · trivial
  generalize hU : w.drew = U at *
  refine tkV 0 (v := ?_) rfl (Or.inl ⟨by rfl, ?_⟩) ?_
  rotate_left
  · (intro w hSw; (try dsimp only at hSw); go_simp) <;> with_reducible rfl
  try simp only [Act.put, sA, sB, sC]
  refine tkV 1 (v := ?_) rfl (Or.inl ⟨by rfl, ?_⟩) ?_
  rotate_left
  · (intro w hSw; (try dsimp only at hSw); go_simp) <;> with_reducible rfl
  try simp only [Act.put, sA, sB, sC]
  refine tkV 2 (v := ?_) rfl (Or.inl ⟨by rfl, ?_⟩) ?_
  rotate_left
  · (intro w hSw; (try dsimp only at hSw); go_simp) <;> with_reducible rfl
  try simp only [Act.put, sA, sB, sC]
  refine tkV 3 (v := ?_) rfl (Or.inl ⟨by rfl, ?_⟩) ?_
  rotate_left
  · (intro w hSw; (try dsimp only at hSw); go_simp) <;> with_reducible rfl
  try simp only [Act.put, sA, sB, sC]
  refine tkV 5 (v := ?_) rfl (Or.inl ⟨by rfl, ?_⟩) ?_
  rotate_left
  · (intro w hSw; (try dsimp only at hSw); go_simp) <;> with_reducible rfl
  try simp only [Act.put, sA, sB, sC]
  refine tkV 6 (v := ?_) rfl (Or.inl ⟨by rfl, ?_⟩) ?_
  rotate_left
  · (intro w hSw; (try dsimp only at hSw); go_simp) <;> with_reducible rfl
  try simp only [Act.put, sA, sB, sC]
  refine wpAnyH_ready (rs := [4, 7]) (by kernel_rfl) (by simp) ?_
  refine acV 4 rfl (fun K hK => ?_) (acV 7 rfl (fun K hK => ?_) AllReadyH.nil)
  · go_simp
    refine hK.out _ _ trivial (fun hHeld => ?_)
    clear hK K
    refine wpAnyH_ready (rs := [7]) (by kernel_rfl) (by simp) ?_
    refine acV 7 rfl (fun K hK => ?_) AllReadyH.nil
    go_simp
    refine hK.out _ _ trivial (fun hHeld => ?_)
    clear hK K
    refine wpAnyH_ready (rs := [8]) (by kernel_rfl) (by simp) ?_
    refine acV 8 rfl (fun K hK => ?_) AllReadyH.nil
    go_simp
    refine hK.out _ _ trivial (fun hHeld => ?_)
    clear hK K
    refine wpAnyH_ready (rs := [9]) (by kernel_rfl) (by simp) ?_
    refine acV 9 rfl (fun K hK => ?_) AllReadyH.nil
    go_simp
    refine Calls.mono HC.out ?_
    rintro e w1 ⟨R, O, rfl, hO, hR, hB1, hRU⟩
    obtain ⟨ao', ln', cap', W2, hr, q3, f3, hNf, hKf, hnf, hz3⟩ := put_step HN.out (hB1.mono (Nat.le_refl _)) hO hR hRU hl
    have q2 : w1.cell? ⟨b, 1, none⟩ = some (.slice ao l.length cap) := (HN.out.below hB1).c1
    have HE : Hid (Nt (W2.setCell ⟨b, 1, none⟩ (.slice ao' ln' cap')) b n (.slice ao' ln' cap') (l ++ [{ m with g := R, off := 0, c := m.bs.length }]) ∧ Kept w (W2.setCell ⟨b, 1, none⟩ (.slice ao' ln' cap')) (fun k => k = b ∨ (Value.slice ao l.length cap).ownBlock = some k) ∧ NewRow w (.slice ao l.length cap) (.slice ao' ln' cap') ∧ w.heap.size ≤ R) := ⟨hNf, hKf, hnf, hRU⟩
    clear hO hR hB1 hNf hKf hnf hRU
    refine hK.out _ _ trivial (fun hHeld => ?_)
    clear hK K
    refine wpAnyH_ready (rs := [10]) (by kernel_rfl) (by simp) ?_
    refine acV 10 rfl (fun K hK => ?_) AllReadyH.nil
    refine (if_pos (by kernel_rfl)).mpr ?_
    refine wp_appR _ _ 80 rfl (.slice ao l.length cap) _ _ W2 rfl rfl (hr _) ?_
    refine hK.out _ _ trivial (fun hHeld => ?_)
    clear hK K
    refine tkV 11 (v := ?_) rfl (Or.inl ⟨by rfl, ?_⟩) ?_
    rotate_left
    · (intro w hSw; (try dsimp only at hSw); go_simp) <;> with_reducible rfl
    try simp only [Act.put, sA, sB, sC]
    refine tkV 12 (v := ?_) rfl (Or.inl ⟨by rfl, ?_⟩) ?_
    rotate_left
    · (intro w hSw; (try dsimp only at hSw); go_simp) <;> with_reducible rfl
    try simp only [Act.put, sA, sB, sC]
    refine wpAnyH_ready (rs := [13]) (by kernel_rfl) (by simp) ?_
    refine acV 13 rfl (fun K hK => ?_) AllReadyH.nil
    go_simp
    refine hK.out _ _ trivial (fun hHeld => ?_)
    clear hK K
    refine wpAnyH_done (by kernel_rfl) ?_ _
    clear hHeld
    go_wp2
    all_goals (go_ret; exact ⟨rfl, _, _, HE.out⟩)
  · go_simp
    refine hK.out _ _ trivial (fun hHeld => ?_)
    clear hK K
    refine wpAnyH_ready (rs := [4, 8]) (by kernel_rfl) (by simp) ?_
    refine acV 4 rfl (fun K hK => ?_) (acV 8 rfl (fun K hK => ?_) AllReadyH.nil)
    · go_simp
      refine hK.out _ _ trivial (fun hHeld => ?_)
      clear hK K
      refine wpAnyH_ready (rs := [8]) (by kernel_rfl) (by simp) ?_
      refine acV 8 rfl (fun K hK => ?_) AllReadyH.nil
      go_simp
      refine hK.out _ _ trivial (fun hHeld => ?_)
      clear hK K
      refine wpAnyH_ready (rs := [9]) (by kernel_rfl) (by simp) ?_
      refine acV 9 rfl (fun K hK => ?_) AllReadyH.nil
      go_simp
      refine Calls.mono HC.out ?_
      rintro e w1 ⟨R, O, rfl, hO, hR, hB1, hRU⟩
      obtain ⟨ao', ln', cap', W2, hr, q3, f3, hNf, hKf, hnf, hz3⟩ := put_step HN.out (hB1.mono (Nat.le_refl _)) hO hR hRU hl
      have q2 : w1.cell? ⟨b, 1, none⟩ = some (.slice ao l.length cap) := (HN.out.below hB1).c1
      have HE : Hid (Nt (W2.setCell ⟨b, 1, none⟩ (.slice ao' ln' cap')) b n (.slice ao' ln' cap') (l ++ [{ m with g := R, off := 0, c := m.bs.length }]) ∧ Kept w (W2.setCell ⟨b, 1, none⟩ (.slice ao' ln' cap')) (fun k => k = b ∨ (Value.slice ao l.length cap).ownBlock = some k) ∧ NewRow w (.slice ao l.length cap) (.slice ao' ln' cap') ∧ w.heap.size ≤ R) := ⟨hNf, hKf, hnf, hRU⟩
      clear hO hR hB1 hNf hKf hnf hRU
      refine hK.out _ _ trivial (fun hHeld => ?_)
      clear hK K
      refine wpAnyH_ready (rs := [10]) (by kernel_rfl) (by simp) ?_
      refine acV 10 rfl (fun K hK => ?_) AllReadyH.nil
      refine (if_pos (by kernel_rfl)).mpr ?_
      refine wp_appR _ _ 80 rfl (.slice ao l.length cap) _ _ W2 rfl rfl (hr _) ?_
      refine hK.out _ _ trivial (fun hHeld => ?_)
      clear hK K
      refine tkV 11 (v := ?_) rfl (Or.inl ⟨by rfl, ?_⟩) ?_
      rotate_left
      · (intro w hSw; (try dsimp only at hSw); go_simp) <;> with_reducible rfl
      try simp only [Act.put, sA, sB, sC]
      refine tkV 12 (v := ?_) rfl (Or.inl ⟨by rfl, ?_⟩) ?_
      rotate_left
      · (intro w hSw; (try dsimp only at hSw); go_simp) <;> with_reducible rfl
      try simp only [Act.put, sA, sB, sC]
      refine wpAnyH_ready (rs := [13]) (by kernel_rfl) (by simp) ?_
      refine acV 13 rfl (fun K hK => ?_) AllReadyH.nil
      go_simp
      refine hK.out _ _ trivial (fun hHeld => ?_)
      clear hK K
      refine wpAnyH_done (by kernel_rfl) ?_ _
      clear hHeld
      go_wp2
      all_goals (go_ret; exact ⟨rfl, _, _, HE.out⟩)
    · go_simp
      refine hK.out _ _ trivial (fun hHeld => ?_)
      clear hK K
      refine wpAnyH_ready (rs := [4, 9]) (by kernel_rfl) (by simp) ?_
      refine acV 4 rfl (fun K hK => ?_) (acV 9 rfl (fun K hK => ?_) AllReadyH.nil)
      · go_simp
        refine hK.out _ _ trivial (fun hHeld => ?_)
        clear hK K
        refine wpAnyH_ready (rs := [9]) (by kernel_rfl) (by simp) ?_
        refine acV 9 rfl (fun K hK => ?_) AllReadyH.nil
        go_simp
        refine Calls.mono HC.out ?_
        rintro e w1 ⟨R, O, rfl, hO, hR, hB1, hRU⟩
        obtain ⟨ao', ln', cap', W2, hr, q3, f3, hNf, hKf, hnf, hz3⟩ := put_step HN.out (hB1.mono (Nat.le_refl _)) hO hR hRU hl
        have q2 : w1.cell? ⟨b, 1, none⟩ = some (.slice ao l.length cap) := (HN.out.below hB1).c1
        have HE : Hid (Nt (W2.setCell ⟨b, 1, none⟩ (.slice ao' ln' cap')) b n (.slice ao' ln' cap') (l ++ [{ m with g := R, off := 0, c := m.bs.length }]) ∧ Kept w (W2.setCell ⟨b, 1, none⟩ (.slice ao' ln' cap')) (fun k => k = b ∨ (Value.slice ao l.length cap).ownBlock = some k) ∧ NewRow w (.slice ao l.length cap) (.slice ao' ln' cap') ∧ w.heap.size ≤ R) := ⟨hNf, hKf, hnf, hRU⟩
        clear hO hR hB1 hNf hKf hnf hRU
        refine hK.out _ _ trivial (fun hHeld => ?_)
        clear hK K
        refine wpAnyH_ready (rs := [10]) (by kernel_rfl) (by simp) ?_
        refine acV 10 rfl (fun K hK => ?_) AllReadyH.nil
        refine (if_pos (by kernel_rfl)).mpr ?_
        refine wp_appR _ _ 80 rfl (.slice ao l.length cap) _ _ W2 rfl rfl (hr _) ?_
        refine hK.out _ _ trivial (fun hHeld => ?_)
        clear hK K
        refine tkV 11 (v := ?_) rfl (Or.inl ⟨by rfl, ?_⟩) ?_
        rotate_left
        · (intro w hSw; (try dsimp only at hSw); go_simp) <;> with_reducible rfl
        try simp only [Act.put, sA, sB, sC]
        refine tkV 12 (v := ?_) rfl (Or.inl ⟨by rfl, ?_⟩) ?_
        rotate_left
        · (intro w hSw; (try dsimp only at hSw); go_simp) <;> with_reducible rfl
        try simp only [Act.put, sA, sB, sC]
        refine wpAnyH_ready (rs := [13]) (by kernel_rfl) (by simp) ?_
        refine acV 13 rfl (fun K hK => ?_) AllReadyH.nil
        go_simp
        refine hK.out _ _ trivial (fun hHeld => ?_)
        clear hK K
        refine wpAnyH_done (by kernel_rfl) ?_ _
        clear hHeld
        go_wp2
        all_goals (go_ret; exact ⟨rfl, _, _, HE.out⟩)
      · go_simp
        refine Calls.mono HC.out ?_
        rintro e w1 ⟨R, O, rfl, hO, hR, hB1, hRU⟩
        obtain ⟨ao', ln', cap', W2, hr, q3, f3, hNf, hKf, hnf, hz3⟩ := put_step HN.out (hB1.mono (Nat.le_refl _)) hO hR hRU hl
        have q2 : w1.cell? ⟨b, 1, none⟩ = some (.slice ao l.length cap) := (HN.out.below hB1).c1
        have HE : Hid (Nt (W2.setCell ⟨b, 1, none⟩ (.slice ao' ln' cap')) b n (.slice ao' ln' cap') (l ++ [{ m with g := R, off := 0, c := m.bs.length }]) ∧ Kept w (W2.setCell ⟨b, 1, none⟩ (.slice ao' ln' cap')) (fun k => k = b ∨ (Value.slice ao l.length cap).ownBlock = some k) ∧ NewRow w (.slice ao l.length cap) (.slice ao' ln' cap') ∧ w.heap.size ≤ R) := ⟨hNf, hKf, hnf, hRU⟩
        clear hO hR hB1 hNf hKf hnf hRU
        refine hK.out _ _ trivial (fun hHeld => ?_)
        clear hK K
        refine wpAnyH_ready (rs := [4]) (by kernel_rfl) (by simp) ?_
        refine acV 4 rfl (fun K hK => ?_) AllReadyH.nil
        go_simp
        refine hK.out _ _ trivial (fun hHeld => ?_)
        clear hK K
        refine wpAnyH_ready (rs := [10]) (by kernel_rfl) (by simp) ?_
        refine acV 10 rfl (fun K hK => ?_) AllReadyH.nil
        refine (if_pos (by kernel_rfl)).mpr ?_
        refine wp_appR _ _ 80 rfl (.slice ao l.length cap) _ _ W2 rfl rfl (hr _) ?_
        refine hK.out _ _ trivial (fun hHeld => ?_)
        clear hK K
        refine tkV 11 (v := ?_) rfl (Or.inl ⟨by rfl, ?_⟩) ?_
        rotate_left
        · (intro w hSw; (try dsimp only at hSw); go_simp) <;> with_reducible rfl
        try simp only [Act.put, sA, sB, sC]
        refine tkV 12 (v := ?_) rfl (Or.inl ⟨by rfl, ?_⟩) ?_
        rotate_left
        · (intro w hSw; (try dsimp only at hSw); go_simp) <;> with_reducible rfl
        try simp only [Act.put, sA, sB, sC]
        refine wpAnyH_ready (rs := [13]) (by kernel_rfl) (by simp) ?_
        refine acV 13 rfl (fun K hK => ?_) AllReadyH.nil
        go_simp
        refine hK.out _ _ trivial (fun hHeld => ?_)
        clear hK K
        refine wpAnyH_done (by kernel_rfl) ?_ _
        clear hHeld
        go_wp2
        all_goals (go_ret; exact ⟨rfl, _, _, HE.out⟩)

end Go.Proofs.YtldcbabgommghaaGreatDoor

/- What moveUp does: those behind a place stand one further ahead. -/
namespace Go.Proofs.YtldcbabgommghaaGreatDoor
open Go.RowKit
set_option maxRecDepth 8000
set_option linter.unusedSimpArgs false
set_option linter.unusedVariables false

theorem wp_copR {P : Program} {o : Oper} {a : Act} {w : World} {K : Act → World → Prop} {Q : Exit → Act → World → Prop} (s x : Operand) (t : TypeId) (hop : o.op = Op.call { callee := Callee.builtin Builtin.copy, args := #[s, x], argTypes := #[t, t] }) (v u v' : Value) (w' : World) (hs : a.eval s = v) (hx : a.eval x = u) (hrun : (Builtin.copy_ #[t, t] o.type #[v, u]).run P w = .ok v' w') (h : K (a.put o.dst v') w') : Oper.wp P o a w K Q := by
  unfold Oper.wp
  simp [execOp, hop, resolve, invoke, builtin, hs, hx, hrun, Result.andThen]
  exact h

/-- copy of elements of z cells into a row from a place on. -/
theorem run_copy_zoL {P : Program} (w : World) (dT sT ty elem : TypeId) (z g o dLen dCap : Nat) (a : Addr) (sLen sCap : Nat) (cur : Array Value) (t : TypeId) (cs : List Value)
    (hu : P.underlying dT = some (.slice elem)) (hs : (P.info? elem).map (·.size) = some z)
    (hg : w.heap[g]? = some (.cells cur t (0, 0))) (hn : cs.length = Nat.min sLen dLen * z)
    (hsrc : ∀ j v, cs[j]? = some v → w.cell? (a.add j) = some v) (hfit : o + cs.length ≤ cur.size) (h1 : ∀ v ∈ cs, v.oneCell' = true) :
    (Builtin.copy_ #[dT, sT] ty #[.slice (some ⟨g, o, none⟩) dLen dCap, .slice (some a) sLen sCap]).run P w =
      .ok (goInt (Nat.min sLen dLen)) (w.setRow g (cur.toList.take o ++ cs ++ cur.toList.drop (o + cs.length)).toArray) := by
  have hl := run_loadCells_list (P := P) w a cs hsrc
  have hst := run_storeCells_at P g o t cs 0 cur w hg (by simpa using hfit) h1
  cases hq : P.info? elem with
  | none => simp [hq] at hs
  | some i =>
    have hi : i.size = z := by simpa [hq] using hs
    simp [Builtin.copy_, run_underlying hu, Builtin.lenOf, Builtin.firstCells, sizeOf, typeInfo, hq, hi, ← hn, hl, hst]

/-- The four cells ahead of the spare room, wherever they come from. -/
theorem four_of {L : List Value} (h : L.length = 4) : ∃ y0 y1 y2 y3, L = [y0, y1, y2, y3] := by
  match L, h with
  | [a, b, c, d], _ => exact ⟨_, _, _, _, rfl⟩

/-- The messages behind a place, copied one place ahead. -/
theorem mv_copy {w : World} {g : Nat} {cur : Array Value} {A B : List MsD} {x : MsD} {Z : List Value} (hg : w.heap[g]? = some (.cells cur 54 (0, 0))) (hc : cur.toList = msFlat (A ++ x :: B) ++ Z) (a : Addr) (ha : B ≠ [] → a = ⟨g, (A.length + 1) * 4, none⟩) (dc sc : Nat) :
    ∃ W1 y0 y1 y2 y3, (∀ ty, (Builtin.copy_ #[80, 80] ty #[.slice (some ⟨g, A.length * 4, none⟩) (B.length + 1) dc, .slice (some a) B.length sc]).run Tryz.prog w = .ok (.int .i64 B.length) W1) ∧ W1.heap[g]? = some (.cells (msFlat (A ++ B) ++ y0 :: y1 :: y2 :: y3 :: Z).toArray 54 (0, 0)) ∧ Kept w W1 (· = g) := by
  obtain ⟨i, hi, hz, hs, hby⟩ := infoXl Tryz.infoMs
  have hsz : (Tryz.prog.info? 54).map (·.size) = some 4 := by rw [hi]; simp [hs]
  have hFA := msFlat_len A
  have hFB := msFlat_len B
  have hcl : cur.size = (A.length + 1 + B.length) * 4 + Z.length := by
    have := congrArg List.length hc
    rw [Array.length_toList, List.length_append, msFlat_len] at this
    rw [this]; simp; omega
  have hmin : Nat.min B.length (B.length + 1) = B.length := Nat.min_eq_left (by omega)
  have hrun := fun ty => run_copy_zoL (P := Tryz.prog) w 80 80 ty 54 4 g (A.length * 4) (B.length + 1) dc a B.length sc cur 54 (msFlat B) Tryz.underlying80 hsz hg (by rw [hmin, hFB]) (fun j v hj => by
    have hjl : j < (msFlat B).length := by
      rcases Nat.lt_or_ge j (msFlat B).length with h' | h'
      · exact h'
      · rw [List.getElem?_eq_none h'] at hj; cases hj
    have hB : B ≠ [] := fun e => by subst e; simp [msFlat] at hjl
    rw [ha hB, Addr.add_lit, cell_of_row w g _ _ _ _ hg, ← Array.getElem?_toList, hc, msFlat_app]
    simp only [msFlat]
    rw [List.append_assoc, List.getElem?_append_right (by rw [hFA]; omega), hFA, show (A.length + 1) * 4 + j - A.length * 4 = j + 4 by omega]
    simp only [List.cons_append, List.getElem?_cons_succ]
    rw [List.getElem?_append_left hjl]
    exact hj) (by rw [hFB]; omega) (msFlat_cell B)
  rw [hmin] at hrun
  obtain ⟨y0, y1, y2, y3, hy⟩ := four_of (L := (msFlat (x :: B)).drop (msFlat B).length) (by rw [List.length_drop, msFlat_len, hFB, List.length_cons]; omega)
  refine ⟨_, y0, y1, y2, y3, hrun, ?_, ⟨rfl, rfl, rfl, by simp [World.setRow], fun k _ hn => setRow_other w g k _ hn⟩⟩
  rw [setRow_heap w g cur _ _ _ hg]
  congr 2
  apply congrArg List.toArray
  rw [hc, msFlat_app, msFlat_app, List.append_assoc (msFlat A)]
  rw [List.take_append_of_le_length (by omega), List.take_of_length_le (by omega)]
  rw [List.drop_append, List.drop_eq_nil_of_le (by omega), List.nil_append, hFA, Nat.add_sub_cancel_left]
  rw [List.drop_append_of_le_length (by rw [msFlat_len (x :: B), List.length_cons]; omega), hy]
  rfl

/-- The last of it: the net's list is one shorter. -/
theorem mv_done {w W1 W2 : World} {b g cap : Nat} {n : Int} {A B : List MsD} {x : MsD} {Z : List Value} {N : Nat} (hA : Nt w b n (.slice (some ⟨g, 0, none⟩) N cap) (A ++ x :: B)) (h1 : Kept w W1 (· = g)) (z0 z1 z2 z3 : Value)
    (hS : W2.heap[g]? = some (.cells (msFlat (A ++ B) ++ z0 :: z1 :: z2 :: z3 :: Z).toArray 54 (0, 0))) (h2 : Kept W1 W2 (· = g)) (hc : cap = A.length + B.length + 1 + Z.length / 4) (h4 : Z.length % 4 = 0) :
    Nt (W2.setCell ⟨b, 1, none⟩ (.slice (some ⟨g, 0, none⟩) (A.length + B.length) cap)) b n (.slice (some ⟨g, 0, none⟩) (A.length + B.length) cap) (A ++ B) ∧ Kept w (W2.setCell ⟨b, 1, none⟩ (.slice (some ⟨g, 0, none⟩) (A.length + B.length) cap)) (fun k => k = b ∨ g = k) := by
  have hne := hA.ne
  have hk : Kept w W2 (· = g) := h1.trans h2 (fun _ _ e => e)
  have hgb : g ≠ b := fun e => hne.1 (by subst e; rfl)
  have hcm : cap ≤ maxLen := by
    obtain ⟨_, ⟨h0, _⟩ | ⟨g', cap', cur, e, _, _, _, a5, _⟩⟩ := hA.ho
    · simp at h0
    · simp only [Value.slice.injEq] at e; omega
  have ho : W2.ownsRow 0 54 4 (.slice (some ⟨g, 0, none⟩) (A.length + B.length) cap) (A ++ B).length (msFlat (A ++ B)) := by
    have hl : (A ++ B).length = A.length + B.length := by simp
    rw [hl]
    refine ⟨by rw [msFlat_len, hl], .inr ⟨g, cap, _, rfl, Nat.zero_le _, hS, by omega, hcm, ?_, ?_⟩⟩
    · rw [List.size_toArray, List.length_append, msFlat_len, hl]; simp; omega
    · rw [List.toList_toArray, ← hl, ← msFlat_len, List.take_left]
  have hmm : ∀ m ∈ A ++ B, m ∈ A ++ x :: B := fun m hm => by
    rcases List.mem_append.1 hm with hm | hm
    · exact List.mem_append_left _ hm
    · exact List.mem_append_right _ (List.mem_cons_of_mem _ hm)
  have hm2 : ∀ m ∈ A ++ B, MsOk W2 m := fun m hm => (hA.hm m (hmm m hm)).kept hk (fun e => hne.2.2 m (hmm m hm) (by rw [← e]; rfl))
  have nd : ((A ++ B).map MsD.g).Nodup := by
    have := hA.nd
    simp only [List.map_append, List.map_cons] at this ⊢
    exact (List.Sublist.append_left (List.sublist_cons_self _ _) _).nodup this
  obtain ⟨q1, q2⟩ := Nt.set (hk.heap hA.hb (Ne.symm hgb)) ho hm2 nd hA.n1 hA.n7
  exact ⟨q1, (hk.mono (S' := fun k => k = b ∨ g = k) (fun k _ e => .inr e.symm)).trans q2 (fun _ _ e => .inl e)⟩

set_option maxHeartbeats 8000000 in
theorem moveUp_any {w : World} {b : Nat} {n : Int} {v : Value} {A B : List MsD} {x : MsD} (h : Nt w b n v (A ++ x :: B)) (hl : (A ++ x :: B).length ≤ 100000000) :
    Calls Tryz.prog 40 #[.pointer (some ⟨b, 0, none⟩), .int .i64 (A.length : Nat)] w fun e w' => e = .returned (.tuple #[]) ∧ ∃ v', Nt w' b n v' (A ++ B) ∧ Kept w w' (fun k => k = b ∨ v.ownBlock = some k) ∧ v'.ownBlock = v.ownBlock := by
  obtain ⟨hxl, ⟨rfl, h0⟩ | ⟨g, cap, cur, rfl, a2, a3, a4, a5, a6, a7⟩⟩ := h.ho
  · simp at h0
  obtain ⟨Z, hZ⟩ : ∃ Z, cur.toList = msFlat (A ++ x :: B) ++ Z := ⟨cur.toList.drop ((A ++ x :: B).length * 4), by rw [← a7, List.take_append_drop]⟩
  have hne := h.ne
  have hgb : g ≠ b := fun e => hne.1 (by subst e; rfl)
  have hN : (A ++ x :: B).length = A.length + B.length + 1 := by simp; omega
  obtain ⟨N, hNN⟩ : ∃ N, N = (A ++ x :: B).length := ⟨_, rfl⟩
  obtain ⟨W1, y0, y1, y2, y3, hcp0, hg1, hk1⟩ := mv_copy (w := w.drew) a3 hZ (if cap = A.length + 1 then ⟨g, 0, none⟩ else ⟨g, (A.length + 1) * 4, none⟩) (fun hB => by
    have : 0 < B.length := List.length_pos_iff.2 hB
    rw [if_neg (by omega)]) (cap - A.length) (cap - (A.length + 1))
  rw [show B.length + 1 = N - A.length by omega] at hcp0
  have hcp : ∀ ty, (Builtin.copy_ #[80, 80] ty #[.slice (some ⟨g, A.length * 4, none⟩) (N - A.length) (cap - A.length), .slice (if cap = A.length + 1 then some ⟨g, 0, none⟩ else some ⟨g, (A.length + 1) * 4, none⟩) (N - (A.length + 1)) (cap - (A.length + 1))]).run Tryz.prog w.drew = .ok (.int .i64 B.length) W1 := fun ty => by
    have := hcp0 ty
    rw [show B.length = N - (A.length + 1) by omega] at this ⊢
    by_cases q : cap = A.length + 1
    · rw [if_pos q] at this ⊢; exact this
    · rw [if_neg q] at this ⊢; exact this
  clear hcp0
  have q0 : w.drew.cell? ⟨b, 1, none⟩ = some (.slice (some ⟨g, 0, none⟩) N cap) := by rw [hNN]; exact h.c1
  have q1 : W1.cell? ⟨b, 1, none⟩ = some (.slice (some ⟨g, 0, none⟩) N cap) := hk1.cell q0 (Ne.symm hgb)
  have e1 : IntKind.i64.wrap ((A.length : Int) + (B.length : Int)) = ((A.length + B.length : Nat) : Int) := by rw [IntKind.wrap_i64]; omega
  have e2 : IntKind.i64.wrap ((A.length : Int) + 1) = ((A.length + 1 : Nat) : Int) := by rw [IntKind.wrap_i64]; omega
  have l1 : A.length ≤ N := by omega
  have l2 : A.length + 1 ≤ N := by omega
  have l3 : A.length + B.length < N := by omega
  have l4 : A.length + B.length ≤ N := by omega
  have l5 : N ≤ cap := by omega
  have l6 : ¬ cap = A.length := by omega
  have l7 : (0 : Int) ≤ (A.length : Int) + 1 := by omega
  have l8 : (A.length : Int) + 1 ≤ (N : Int) := by omega
  have hz : b < w.drew.heap.size := lt_of_block h.hb
  have hz1 : b < W1.heap.size := Nat.lt_of_lt_of_le hz hk1.size
  have HN : Hid (N = (A ++ x :: B).length) := hNN
  clear hNN
  have HA : Hid (Nt w b n (.slice (some ⟨g, 0, none⟩) (A ++ x :: B).length cap) (A ++ x :: B)) := h
  have HW : Hid (W1.heap[g]? = some (.cells (msFlat (A ++ B) ++ y0 :: y1 :: y2 :: y3 :: Z).toArray 54 (0, 0)) ∧ Kept w W1 (· = g) ∧ (A ++ B).length = A.length + B.length ∧ cap = A.length + B.length + 1 + Z.length / 4 ∧ Z.length % 4 = 0) := by
    refine ⟨hg1, ⟨hk1.os, hk1.tape, hk1.output, hk1.size, hk1.block⟩, by simp, ?_⟩
    have := congrArg List.length hZ
    rw [Array.length_toList, a6, List.length_append, msFlat_len, hN] at this
    omega
  clear h hxl a2 a3 a4 a5 a6 a7 hZ hg1 hk1 hN hl hne
  go_enter Tryz.func40, Tryz.ntmps40
  go_wp2_with fail
  refine wp_region_held_drew (S := (fun W => W.cell? ⟨b, 1, none⟩ = some (.slice (some ⟨g, 0, none⟩) N cap))) (by kernel_rfl) ?_ (fun hHeld => ?_)
  · exact q0
  refine tkV 0 (v := ?_) rfl (Or.inl ⟨by rfl, ?_⟩) ?_
  rotate_left
  · (intro w hSw; (try dsimp only at hSw); go_simp) <;> with_reducible rfl
  try simp only [Act.put, sA, sB, sC]
  refine tkV 1 (v := ?_) rfl (Or.inl ⟨by rfl, ?_⟩) ?_
  rotate_left
  · (intro w hSw; (try dsimp only at hSw); go_simp) <;> with_reducible rfl
  try simp only [Act.put, sA, sB, sC]
  refine tkV 2 (v := ?_) rfl (Or.inl ⟨by rfl, ?_⟩) ?_
  rotate_left
  · (intro w hSw; (try dsimp only at hSw); go_simp) <;> with_reducible rfl
  try simp only [Act.put, sA, sB, sC]
  refine tkV 3 (v := ?_) rfl (Or.inl ⟨by rfl, ?_⟩) ?_
  rotate_left
  · (intro w hSw; (try dsimp only at hSw); go_simp) <;> with_reducible rfl
  try simp only [Act.put, sA, sB, sC]
  refine tkV 4 (v := ?_) rfl (Or.inl ⟨by rfl, ?_⟩) ?_
  rotate_left
  · (intro w hSw; (try dsimp only at hSw); go_simp) <;> with_reducible rfl
  try simp only [Act.put, sA, sB, sC]
  refine tkV 5 (v := ?_) rfl (Or.inl ⟨by rfl, ?_⟩) ?_
  rotate_left
  · (intro w hSw; (try dsimp only at hSw); go_simp) <;> with_reducible rfl
  try simp only [Act.put, sA, sB, sC]
  refine tkV 6 (v := ?_) rfl (Or.inl ⟨by rfl, ?_⟩) ?_
  rotate_left
  · (intro w hSw; (try dsimp only at hSw); go_simp) <;> with_reducible rfl
  try simp only [Act.put, sA, sB, sC]
  refine tkV 7 (v := ?_) rfl (Or.inl ⟨by rfl, ?_⟩) ?_
  rotate_left
  · (intro w hSw; (try dsimp only at hSw); go_simp) <;> with_reducible rfl
  try simp only [Act.put, sA, sB, sC]
  refine tkV 8 (v := ?_) rfl (Or.inl ⟨by rfl, ?_⟩) ?_
  rotate_left
  · (intro w hSw; (try dsimp only at hSw); go_simp) <;> with_reducible rfl
  try simp only [Act.put, sA, sB, sC]
  refine tkV 9 (v := ?_) rfl (Or.inl ⟨by rfl, ?_⟩) ?_
  rotate_left
  · (intro w hSw; (try dsimp only at hSw); go_simp) <;> with_reducible rfl
  try simp only [Act.put, sA, sB, sC]
  refine tkV 10 (v := ?_) rfl (Or.inl ⟨by rfl, ?_⟩) ?_
  rotate_left
  · (intro w hSw; (try dsimp only at hSw); go_simp) <;> with_reducible rfl
  try simp only [Act.put, sA, sB, sC]
  refine tkV 11 (v := ?_) rfl (Or.inl ⟨by rfl, ?_⟩) ?_
  rotate_left
  · (intro w hSw; (try dsimp only at hSw); go_simp) <;> with_reducible rfl
  try simp only [Act.put, sA, sB, sC]
  refine tkV 12 (v := ?_) rfl (Or.inl ⟨by rfl, ?_⟩) ?_
  rotate_left
  · (intro w hSw; (try dsimp only at hSw); go_simp) <;> with_reducible rfl
  try simp only [Act.put, sA, sB, sC]
  refine tkV 13 (v := ?_) rfl (Or.inl ⟨by rfl, ?_⟩) ?_
  rotate_left
  · (intro w hSw; (try dsimp only at hSw); go_simp) <;> with_reducible rfl
  try simp only [Act.put, sA, sB, sC]
  refine wpAnyH_ready (rs := [14]) (by kernel_rfl) (by simp) ?_
  refine acV 14 rfl (fun K hK => ?_) AllReadyH.nil
  refine (if_pos (by kernel_rfl)).mpr ?_
  refine wp_copR _ _ 80 rfl _ _ _ W1 rfl rfl (hcp _) ?_
  refine hK.out _ _ q1 (fun hHeld => ?_)
  clear hK K
  refine tkV 15 (v := ?_) rfl (Or.inl ⟨by rfl, ?_⟩) ?_
  rotate_left
  · (intro w hSw; (try dsimp only at hSw); go_simp) <;> with_reducible rfl
  try simp only [Act.put, sA, sB, sC]
  refine tkV 16 (v := ?_) rfl (Or.inl ⟨by rfl, ?_⟩) ?_
  rotate_left
  · (intro w hSw; (try dsimp only at hSw); go_simp) <;> with_reducible rfl
  try simp only [Act.put, sA, sB, sC]
  refine wpAnyH_done (by kernel_rfl) ?_ _
  clear hHeld q0 hcp
  have hO := HW.out.1
  have hAl : (msFlat (A ++ B)).length = (A.length + B.length) * 4 := by rw [msFlat_len, HW.out.2.2.1]
  have hget : ∀ j, (msFlat (A ++ B) ++ y0 :: y1 :: y2 :: y3 :: Z).toArray[(A.length + B.length) * 4 + j]? = (y0 :: y1 :: y2 :: y3 :: Z)[j]? := fun j => by
    rw [List.getElem?_toArray, List.getElem?_append_right (by omega), hAl]
    congr 1; omega
  have o0 : W1.cell? ⟨g, (A.length + B.length) * 4, none⟩ = some y0 := by rw [cell_of_row W1 g _ _ _ _ hO]; exact hget 0
  have o1 : W1.cell? ⟨g, (A.length + B.length) * 4 + 1, none⟩ = some y1 := by rw [cell_of_row W1 g _ _ _ _ hO]; exact hget 1
  have o2 : W1.cell? ⟨g, (A.length + B.length) * 4 + 2, none⟩ = some y2 := by rw [cell_of_row W1 g _ _ _ _ hO]; exact hget 2
  have o3 : W1.cell? ⟨g, (A.length + B.length) * 4 + 3, none⟩ = some y3 := by rw [cell_of_row W1 g _ _ _ _ hO]; exact hget 3
  have f0 := fun j => frozen_of_row W1 g j _ _ hO
  have fb : W1.frozen? ⟨b, 1, none⟩ = false := frozen_of_row W1 b 1 _ _ (HW.out.2.1.heap HA.out.hb (Ne.symm hgb))
  obtain ⟨hS4, hK4⟩ := set4L hO hAl (.int .i8 0) (.int .i8 0) (.slice none 0 0) (.bool false)
  have HS : Hid _ := hS4
  have HK : Hid _ := hK4
  clear hS4 hK4 hO hAl hget
  have HF := mv_done HA.out HW.out.2.1 _ _ _ _ HS.out HK.out HW.out.2.2.2.1 HW.out.2.2.2.2
  have HE : Hid _ := HF
  clear HF HS HK HA HW
  go_wp2
  all_goals (go_end0; (try (have hcq : cap = A.length + 1 := (by assumption); subst hcq)); refine ⟨rfl, _, HE.out.1, ?_, rfl⟩; exact HE.out.2.mono (fun k _ e => e.imp id (fun e => by show some g = some k; rw [e])))

end Go.Proofs.YtldcbabgommghaaGreatDoor
