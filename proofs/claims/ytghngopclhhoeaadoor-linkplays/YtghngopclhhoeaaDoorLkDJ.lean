/- What moveUp does: those behind a place stand one further ahead. -/
import Derived.Test.YtghngopclhhoeaaDoorLkCJ
namespace Go.Proofs.YtghngopclhhoeaaDoor
open Go.RowKit
set_option maxRecDepth 8000
set_option linter.unusedSimpArgs false
set_option linter.unusedVariables false

theorem wp_copR {P : Program} {o : Oper} {a : Act} {w : World} {K : Act → World → Prop} {Q : Exit → Act → World → Prop} (s x : Operand) (t : TypeId) (hop : o.op = Op.call { callee := Callee.builtin Builtin.copy, args := #[s, x], argTypes := #[t, t] }) (v u v' : Value) (w' : World) (hs : a.eval s = v) (hx : a.eval x = u) (hrun : (Builtin.copy_ #[t, t] o.type #[v, u]).run P w = .ok v' w') (h : K (a.put o.dst v') w') : Oper.wp P o a w K Q := by
  unfold Oper.wp
  simp [execOp, hop, resolve, invoke, builtin, hs, hx, hrun, Result.andThen]
  exact h

/-- copy of elements of z cells into a row from a place on. -/
theorem run_copy_zoL {P : Program} (w : World) (dT sT ty elem : TypeId) (z g o dLen dCap : Nat) (a : Addr) (sLen sCap : Nat) (cur : Array Value) (t : TypeId) (cs : List Value)
    (hu : P.underlying dT = some (.slice elem)) (hs : (P.info? elem).map (·.size) = some z)
    (hg : w.heap[g]? = some (.cells cur t (0, 0))) (hn : cs.length = Nat.min sLen dLen * z)
    (hsrc : ∀ j v, cs[j]? = some v → w.cell? (a.add j) = some v) (hfit : o + cs.length ≤ cur.size) (h1 : ∀ v ∈ cs, v.oneCell' = true) :
    (Builtin.copy_ #[dT, sT] ty #[.slice (some ⟨g, o, none⟩) dLen dCap, .slice (some a) sLen sCap]).run P w =
      .ok (goInt (Nat.min sLen dLen)) (w.setRow g (cur.toList.take o ++ cs ++ cur.toList.drop (o + cs.length)).toArray) := by
  have hl := run_loadCells_list (P := P) w a cs hsrc
  have hst := run_storeCells_at P g o t cs 0 cur w hg (by simpa using hfit) h1
  cases hq : P.info? elem with
  | none => simp [hq] at hs
  | some i =>
    have hi : i.size = z := by simpa [hq] using hs
    simp [Builtin.copy_, run_underlying hu, Builtin.lenOf, Builtin.firstCells, sizeOf, typeInfo, hq, hi, ← hn, hl, hst]

/-- The four cells ahead of the spare room, wherever they come from. -/
theorem four_of {L : List Value} (h : L.length = 4) : ∃ y0 y1 y2 y3, L = [y0, y1, y2, y3] := by
  match L, h with
  | [a, b, c, d], _ => exact ⟨_, _, _, _, rfl⟩

/-- The messages behind a place, copied one place ahead. -/
theorem mv_copy {w : World} {g : Nat} {cur : Array Value} {A B : List MsD} {x : MsD} {Z : List Value} (hg : w.heap[g]? = some (.cells cur 72 (0, 0))) (hc : cur.toList = msFlat (A ++ x :: B) ++ Z) (a : Addr) (ha : B ≠ [] → a = ⟨g, (A.length + 1) * 4, none⟩) (dc sc : Nat) :
    ∃ W1 y0 y1 y2 y3, (∀ ty, (Builtin.copy_ #[35, 35] ty #[.slice (some ⟨g, A.length * 4, none⟩) (B.length + 1) dc, .slice (some a) B.length sc]).run Tryd.prog w = .ok (.int .i64 B.length) W1) ∧ W1.heap[g]? = some (.cells (msFlat (A ++ B) ++ y0 :: y1 :: y2 :: y3 :: Z).toArray 72 (0, 0)) ∧ Kept w W1 (· = g) := by
  obtain ⟨i, hi, hz, hs, hby⟩ := infoXl Tryd.infoMs
  have hsz : (Tryd.prog.info? 72).map (·.size) = some 4 := by rw [hi]; simp [hs]
  have hFA := msFlat_len A
  have hFB := msFlat_len B
  have hcl : cur.size = (A.length + 1 + B.length) * 4 + Z.length := by
    have := congrArg List.length hc
    rw [Array.length_toList, List.length_append, msFlat_len] at this
    rw [this]; simp; omega
  have hmin : Nat.min B.length (B.length + 1) = B.length := Nat.min_eq_left (by omega)
  have hrun := fun ty => run_copy_zoL (P := Tryd.prog) w 35 35 ty 72 4 g (A.length * 4) (B.length + 1) dc a B.length sc cur 72 (msFlat B) Tryd.underlying35 hsz hg (by rw [hmin, hFB]) (fun j v hj => by
    have hjl : j < (msFlat B).length := by
      rcases Nat.lt_or_ge j (msFlat B).length with h' | h'
      · exact h'
      · rw [List.getElem?_eq_none h'] at hj; cases hj
    have hB : B ≠ [] := fun e => by subst e; simp [msFlat] at hjl
    rw [ha hB, Addr.add_lit, cell_of_row w g _ _ _ _ hg, ← Array.getElem?_toList, hc, msFlat_app]
    simp only [msFlat]
    rw [List.append_assoc, List.getElem?_append_right (by rw [hFA]; omega), hFA, show (A.length + 1) * 4 + j - A.length * 4 = j + 4 by omega]
    simp only [List.cons_append, List.getElem?_cons_succ]
    rw [List.getElem?_append_left hjl]
    exact hj) (by rw [hFB]; omega) (msFlat_cell B)
  rw [hmin] at hrun
  obtain ⟨y0, y1, y2, y3, hy⟩ := four_of (L := (msFlat (x :: B)).drop (msFlat B).length) (by rw [List.length_drop, msFlat_len, hFB, List.length_cons]; omega)
  refine ⟨_, y0, y1, y2, y3, hrun, ?_, ⟨rfl, rfl, rfl, by simp [World.setRow], fun k _ hn => setRow_other w g k _ hn⟩⟩
  rw [setRow_heap w g cur _ _ _ hg]
  congr 2
  apply congrArg List.toArray
  rw [hc, msFlat_app, msFlat_app, List.append_assoc (msFlat A)]
  rw [List.take_append_of_le_length (by omega), List.take_of_length_le (by omega)]
  rw [List.drop_append, List.drop_eq_nil_of_le (by omega), List.nil_append, hFA, Nat.add_sub_cancel_left]
  rw [List.drop_append_of_le_length (by rw [msFlat_len (x :: B), List.length_cons]; omega), hy]
  rfl

/-- The last of it: the net's list is one shorter. -/
theorem mv_done {w W1 W2 : World} {b g cap : Nat} {n : Int} {A B : List MsD} {x : MsD} {Z : List Value} {N : Nat} (hA : Nt w b n (.slice (some ⟨g, 0, none⟩) N cap) (A ++ x :: B)) (h1 : Kept w W1 (· = g)) (z0 z1 z2 z3 : Value)
    (hS : W2.heap[g]? = some (.cells (msFlat (A ++ B) ++ z0 :: z1 :: z2 :: z3 :: Z).toArray 72 (0, 0))) (h2 : Kept W1 W2 (· = g)) (hc : cap = A.length + B.length + 1 + Z.length / 4) (h4 : Z.length % 4 = 0) :
    Nt (W2.setCell ⟨b, 1, none⟩ (.slice (some ⟨g, 0, none⟩) (A.length + B.length) cap)) b n (.slice (some ⟨g, 0, none⟩) (A.length + B.length) cap) (A ++ B) ∧ Kept w (W2.setCell ⟨b, 1, none⟩ (.slice (some ⟨g, 0, none⟩) (A.length + B.length) cap)) (fun k => k = b ∨ g = k) := by
  have hne := hA.ne
  have hk : Kept w W2 (· = g) := h1.trans h2 (fun _ _ e => e)
  have hgb : g ≠ b := fun e => hne.1 (by subst e; rfl)
  have hcm : cap ≤ maxLen := by
    obtain ⟨_, ⟨h0, _⟩ | ⟨g', cap', cur, e, _, _, _, a5, _⟩⟩ := hA.ho
    · simp at h0
    · simp only [Value.slice.injEq] at e; omega
  have ho : W2.ownsRow 0 72 4 (.slice (some ⟨g, 0, none⟩) (A.length + B.length) cap) (A ++ B).length (msFlat (A ++ B)) := by
    have hl : (A ++ B).length = A.length + B.length := by simp
    rw [hl]
    refine ⟨by rw [msFlat_len, hl], .inr ⟨g, cap, _, rfl, Nat.zero_le _, hS, by omega, hcm, ?_, ?_⟩⟩
    · rw [List.size_toArray, List.length_append, msFlat_len, hl]; simp; omega
    · rw [List.toList_toArray, ← hl, ← msFlat_len, List.take_left]
  have hmm : ∀ m ∈ A ++ B, m ∈ A ++ x :: B := fun m hm => by
    rcases List.mem_append.1 hm with hm | hm
    · exact List.mem_append_left _ hm
    · exact List.mem_append_right _ (List.mem_cons_of_mem _ hm)
  have hm2 : ∀ m ∈ A ++ B, MsOk W2 m := fun m hm => (hA.hm m (hmm m hm)).kept hk (fun e => hne.2.2 m (hmm m hm) (by rw [← e]; rfl))
  have nd : ((A ++ B).map MsD.g).Nodup := by
    have := hA.nd
    simp only [List.map_append, List.map_cons] at this ⊢
    exact (List.Sublist.append_left (List.sublist_cons_self _ _) _).nodup this
  obtain ⟨q1, q2⟩ := Nt.set (hk.heap hA.hb (Ne.symm hgb)) ho hm2 nd hA.n1 hA.n7
  exact ⟨q1, (hk.mono (S' := fun k => k = b ∨ g = k) (fun k _ e => .inr e.symm)).trans q2 (fun _ _ e => .inl e)⟩

set_option maxHeartbeats 8000000 in
theorem moveUp_any {w : World} {b : Nat} {n : Int} {v : Value} {A B : List MsD} {x : MsD} (h : Nt w b n v (A ++ x :: B)) (hl : (A ++ x :: B).length ≤ 100000000) :
    Calls Tryd.prog 53 #[.pointer (some ⟨b, 0, none⟩), .int .i64 (A.length : Nat)] w fun e w' => e = .returned (.tuple #[]) ∧ ∃ v', Nt w' b n v' (A ++ B) ∧ Kept w w' (fun k => k = b ∨ v.ownBlock = some k) ∧ v'.ownBlock = v.ownBlock := by
  obtain ⟨hxl, ⟨rfl, h0⟩ | ⟨g, cap, cur, rfl, a2, a3, a4, a5, a6, a7⟩⟩ := h.ho
  · simp at h0
  obtain ⟨Z, hZ⟩ : ∃ Z, cur.toList = msFlat (A ++ x :: B) ++ Z := ⟨cur.toList.drop ((A ++ x :: B).length * 4), by rw [← a7, List.take_append_drop]⟩
  have hne := h.ne
  have hgb : g ≠ b := fun e => hne.1 (by subst e; rfl)
  have hN : (A ++ x :: B).length = A.length + B.length + 1 := by simp; omega
  obtain ⟨N, hNN⟩ : ∃ N, N = (A ++ x :: B).length := ⟨_, rfl⟩
  obtain ⟨W1, y0, y1, y2, y3, hcp0, hg1, hk1⟩ := mv_copy (w := w.drew) a3 hZ (if cap = A.length + 1 then ⟨g, 0, none⟩ else ⟨g, (A.length + 1) * 4, none⟩) (fun hB => by
    have : 0 < B.length := List.length_pos_iff.2 hB
    rw [if_neg (by omega)]) (cap - A.length) (cap - (A.length + 1))
  rw [show B.length + 1 = N - A.length by omega] at hcp0
  have hcp : ∀ ty, (Builtin.copy_ #[35, 35] ty #[.slice (some ⟨g, A.length * 4, none⟩) (N - A.length) (cap - A.length), .slice (if cap = A.length + 1 then some ⟨g, 0, none⟩ else some ⟨g, (A.length + 1) * 4, none⟩) (N - (A.length + 1)) (cap - (A.length + 1))]).run Tryd.prog w.drew = .ok (.int .i64 B.length) W1 := fun ty => by
    have := hcp0 ty
    rw [show B.length = N - (A.length + 1) by omega] at this ⊢
    by_cases q : cap = A.length + 1
    · rw [if_pos q] at this ⊢; exact this
    · rw [if_neg q] at this ⊢; exact this
  clear hcp0
  have q0 : w.drew.cell? ⟨b, 1, none⟩ = some (.slice (some ⟨g, 0, none⟩) N cap) := by rw [hNN]; exact h.c1
  have q1 : W1.cell? ⟨b, 1, none⟩ = some (.slice (some ⟨g, 0, none⟩) N cap) := hk1.cell q0 (Ne.symm hgb)
  have e1 : IntKind.i64.wrap ((A.length : Int) + (B.length : Int)) = ((A.length + B.length : Nat) : Int) := by rw [IntKind.wrap_i64]; omega
  have e2 : IntKind.i64.wrap ((A.length : Int) + 1) = ((A.length + 1 : Nat) : Int) := by rw [IntKind.wrap_i64]; omega
  have l1 : A.length ≤ N := by omega
  have l2 : A.length + 1 ≤ N := by omega
  have l3 : A.length + B.length < N := by omega
  have l4 : A.length + B.length ≤ N := by omega
  have l5 : N ≤ cap := by omega
  have l6 : ¬ cap = A.length := by omega
  have l7 : (0 : Int) ≤ (A.length : Int) + 1 := by omega
  have l8 : (A.length : Int) + 1 ≤ (N : Int) := by omega
  have hz : b < w.drew.heap.size := lt_of_block h.hb
  have hz1 : b < W1.heap.size := Nat.lt_of_lt_of_le hz hk1.size
  have HN : Hid (N = (A ++ x :: B).length) := hNN
  clear hNN
  have HA : Hid (Nt w b n (.slice (some ⟨g, 0, none⟩) (A ++ x :: B).length cap) (A ++ x :: B)) := h
  have HW : Hid (W1.heap[g]? = some (.cells (msFlat (A ++ B) ++ y0 :: y1 :: y2 :: y3 :: Z).toArray 72 (0, 0)) ∧ Kept w W1 (· = g) ∧ (A ++ B).length = A.length + B.length ∧ cap = A.length + B.length + 1 + Z.length / 4 ∧ Z.length % 4 = 0) := by
    refine ⟨hg1, ⟨hk1.os, hk1.tape, hk1.output, hk1.size, hk1.block⟩, by simp, ?_⟩
    have := congrArg List.length hZ
    rw [Array.length_toList, a6, List.length_append, msFlat_len, hN] at this
    omega
  clear h hxl a2 a3 a4 a5 a6 a7 hZ hg1 hk1 hN hl hne
  go_enter Tryd.func53, Tryd.ntmps53
  go_wp2_with fail
  refine wp_region_held_drew (S := (fun W => W.cell? ⟨b, 1, none⟩ = some (.slice (some ⟨g, 0, none⟩) N cap))) (by kernel_rfl) ?_ (fun hHeld => ?_)
  · exact q0
  refine wpAnyH_take (i := 0) (oi := { dst := some 5, op := Op.move (Operand.tmp 1), type := 3, pos := "link.go:99", after := #[], guard := none }) (v := ?_) rfl (by kernel_rfl) (by kernel_rfl) (by kernel_rfl) (fun _ _ _ h => h) (Or.inl ⟨by rfl, ?_⟩) (by assumption) ?_
  rotate_left
  · (intro w hSw; (try dsimp only at hSw); go_simp) <;> with_reducible rfl
  try simp only [Act.put, List.setIfInBounds_toArray, List.set_cons_zero, List.set_cons_succ]
  refine wpAnyH_take (i := 1) (oi := { dst := some 6, op := Op.move (Operand.tmp 0), type := 28, pos := "link.go:99", after := #[], guard := none }) (v := ?_) rfl (by kernel_rfl) (by kernel_rfl) (by kernel_rfl) (fun _ _ _ h => h) (Or.inl ⟨by rfl, ?_⟩) (by assumption) ?_
  rotate_left
  · (intro w hSw; (try dsimp only at hSw); go_simp) <;> with_reducible rfl
  try simp only [Act.put, List.setIfInBounds_toArray, List.set_cons_zero, List.set_cons_succ]
  refine wpAnyH_take (i := 2) (oi := { dst := some 7, op := Op.nilCheck (Operand.tmp 6), type := 0, pos := "link.go:99", after := #[{ on := 1, ground := Ground.data }], guard := none }) (v := ?_) rfl (by kernel_rfl) (by kernel_rfl) (by kernel_rfl) (fun _ _ _ h => h) (Or.inl ⟨by rfl, ?_⟩) (by assumption) ?_
  rotate_left
  · (intro w hSw; (try dsimp only at hSw); go_simp) <;> with_reducible rfl
  try simp only [Act.put, List.setIfInBounds_toArray, List.set_cons_zero, List.set_cons_succ]
  refine wpAnyH_take (i := 3) (oi := { dst := some 8, op := Op.fieldAddr 78 (Operand.tmp 7) 1, type := 0, pos := "link.go:99", after := #[{ on := 2, ground := Ground.data }], guard := none }) (v := ?_) rfl (by kernel_rfl) (by kernel_rfl) (by kernel_rfl) (fun _ _ _ h => h) (Or.inl ⟨by rfl, ?_⟩) (by assumption) ?_
  rotate_left
  · (intro w hSw; (try dsimp only at hSw); go_simp) <;> with_reducible rfl
  try simp only [Act.put, List.setIfInBounds_toArray, List.set_cons_zero, List.set_cons_succ]
  refine wpAnyH_take (i := 4) (oi := { dst := some 9, op := Op.load 35 (Operand.tmp 8), type := 35, pos := "link.go:99", after := #[{ on := 3, ground := Ground.data }], guard := none }) (v := ?_) rfl (by kernel_rfl) (by kernel_rfl) (by kernel_rfl) (fun _ _ _ h => h) (Or.inl ⟨by rfl, ?_⟩) (by assumption) ?_
  rotate_left
  · (intro w hSw; (try dsimp only at hSw); go_simp) <;> with_reducible rfl
  try simp only [Act.put, List.setIfInBounds_toArray, List.set_cons_zero, List.set_cons_succ]
  refine wpAnyH_take (i := 5) (oi := { dst := some 10, op := Op.move (Operand.tmp 1), type := 3, pos := "link.go:99", after := #[], guard := none }) (v := ?_) rfl (by kernel_rfl) (by kernel_rfl) (by kernel_rfl) (fun _ _ _ h => h) (Or.inl ⟨by rfl, ?_⟩) (by assumption) ?_
  rotate_left
  · (intro w hSw; (try dsimp only at hSw); go_simp) <;> with_reducible rfl
  try simp only [Act.put, List.setIfInBounds_toArray, List.set_cons_zero, List.set_cons_succ]
  refine wpAnyH_take (i := 6) (oi := { dst := some 11, op := Op.slice 35 (Operand.tmp 9) (some (Operand.tmp 10)) none none, type := 35, pos := "link.go:99", after := #[{ on := 4, ground := Ground.data }, { on := 5, ground := Ground.data }], guard := none }) (v := ?_) rfl (by kernel_rfl) (by kernel_rfl) (by kernel_rfl) (fun _ _ _ h => h) (Or.inl ⟨by rfl, ?_⟩) (by assumption) ?_
  rotate_left
  · (intro w hSw; (try dsimp only at hSw); go_simp) <;> with_reducible rfl
  try simp only [Act.put, List.setIfInBounds_toArray, List.set_cons_zero, List.set_cons_succ]
  refine wpAnyH_take (i := 7) (oi := { dst := some 12, op := Op.move (Operand.tmp 0), type := 28, pos := "link.go:99", after := #[], guard := none }) (v := ?_) rfl (by kernel_rfl) (by kernel_rfl) (by kernel_rfl) (fun _ _ _ h => h) (Or.inl ⟨by rfl, ?_⟩) (by assumption) ?_
  rotate_left
  · (intro w hSw; (try dsimp only at hSw); go_simp) <;> with_reducible rfl
  try simp only [Act.put, List.setIfInBounds_toArray, List.set_cons_zero, List.set_cons_succ]
  refine wpAnyH_take (i := 8) (oi := { dst := some 13, op := Op.nilCheck (Operand.tmp 12), type := 0, pos := "link.go:99", after := #[{ on := 7, ground := Ground.data }], guard := none }) (v := ?_) rfl (by kernel_rfl) (by kernel_rfl) (by kernel_rfl) (fun _ _ _ h => h) (Or.inl ⟨by rfl, ?_⟩) (by assumption) ?_
  rotate_left
  · (intro w hSw; (try dsimp only at hSw); go_simp) <;> with_reducible rfl
  try simp only [Act.put, List.setIfInBounds_toArray, List.set_cons_zero, List.set_cons_succ]
  refine wpAnyH_take (i := 9) (oi := { dst := some 14, op := Op.fieldAddr 78 (Operand.tmp 13) 1, type := 0, pos := "link.go:99", after := #[{ on := 8, ground := Ground.data }], guard := none }) (v := ?_) rfl (by kernel_rfl) (by kernel_rfl) (by kernel_rfl) (fun _ _ _ h => h) (Or.inl ⟨by rfl, ?_⟩) (by assumption) ?_
  rotate_left
  · (intro w hSw; (try dsimp only at hSw); go_simp) <;> with_reducible rfl
  try simp only [Act.put, List.setIfInBounds_toArray, List.set_cons_zero, List.set_cons_succ]
  refine wpAnyH_take (i := 10) (oi := { dst := some 15, op := Op.load 35 (Operand.tmp 14), type := 35, pos := "link.go:99", after := #[{ on := 9, ground := Ground.data }], guard := none }) (v := ?_) rfl (by kernel_rfl) (by kernel_rfl) (by kernel_rfl) (fun _ _ _ h => h) (Or.inl ⟨by rfl, ?_⟩) (by assumption) ?_
  rotate_left
  · (intro w hSw; (try dsimp only at hSw); go_simp) <;> with_reducible rfl
  try simp only [Act.put, List.setIfInBounds_toArray, List.set_cons_zero, List.set_cons_succ]
  refine wpAnyH_take (i := 11) (oi := { dst := some 16, op := Op.move (Operand.tmp 1), type := 3, pos := "link.go:99", after := #[], guard := none }) (v := ?_) rfl (by kernel_rfl) (by kernel_rfl) (by kernel_rfl) (fun _ _ _ h => h) (Or.inl ⟨by rfl, ?_⟩) (by assumption) ?_
  rotate_left
  · (intro w hSw; (try dsimp only at hSw); go_simp) <;> with_reducible rfl
  try simp only [Act.put, List.setIfInBounds_toArray, List.set_cons_zero, List.set_cons_succ]
  refine wpAnyH_take (i := 12) (oi := { dst := some 17, op := Op.binOp BinOp.add 3 (Operand.tmp 16) (Operand.const (Value.int IntKind.i64 1)) 3, type := 3, pos := "link.go:99", after := #[{ on := 11, ground := Ground.data }], guard := none }) (v := ?_) rfl (by kernel_rfl) (by kernel_rfl) (by kernel_rfl) (fun _ _ _ h => h) (Or.inl ⟨by rfl, ?_⟩) (by assumption) ?_
  rotate_left
  · (intro w hSw; (try dsimp only at hSw); go_simp) <;> with_reducible rfl
  try simp only [Act.put, List.setIfInBounds_toArray, List.set_cons_zero, List.set_cons_succ]
  refine wpAnyH_take (i := 13) (oi := { dst := some 18, op := Op.slice 35 (Operand.tmp 15) (some (Operand.tmp 17)) none none, type := 35, pos := "link.go:99", after := #[{ on := 10, ground := Ground.data }, { on := 12, ground := Ground.data }], guard := none }) (v := ?_) rfl (by kernel_rfl) (by kernel_rfl) (by kernel_rfl) (fun _ _ _ h => h) (Or.inl ⟨by rfl, ?_⟩) (by assumption) ?_
  rotate_left
  · (intro w hSw; (try dsimp only at hSw); go_simp) <;> with_reducible rfl
  try simp only [Act.put, List.setIfInBounds_toArray, List.set_cons_zero, List.set_cons_succ]
  refine wpAnyH_ready (rs := [14]) (by kernel_rfl) (by simp) ?_
  refine AllReadyH.cons (o := { dst := some 19, op := Op.call { callee := Callee.builtin Builtin.copy, args := #[Operand.tmp 11, Operand.tmp 18], argTypes := #[35, 35] }, type := 3, pos := "link.go:99", after := #[{ on := 6, ground := Ground.data }, { on := 13, ground := Ground.data }], guard := none }) rfl (fun K hK => ?_) AllReadyH.nil
  refine (if_pos (by kernel_rfl)).mpr ?_
  refine wp_copR _ _ 35 rfl _ _ _ W1 rfl rfl (hcp _) ?_
  refine hK.out _ _ q1 (fun hHeld => ?_)
  clear hK K
  refine wpAnyH_take (i := 15) (oi := { dst := some 20, op := Op.binOp BinOp.add 3 (Operand.tmp 5) (Operand.tmp 19) 3, type := 3, pos := "link.go:99", after := #[{ on := 0, ground := Ground.data }, { on := 14, ground := Ground.data }], guard := none }) (v := ?_) rfl (by kernel_rfl) (by kernel_rfl) (by kernel_rfl) (fun _ _ _ h => h) (Or.inl ⟨by rfl, ?_⟩) (by assumption) ?_
  rotate_left
  · (intro w hSw; (try dsimp only at hSw); go_simp) <;> with_reducible rfl
  try simp only [Act.put, List.setIfInBounds_toArray, List.set_cons_zero, List.set_cons_succ]
  refine wpAnyH_take (i := 16) (oi := { dst := some 4, op := Op.assign (Operand.tmp 20), type := 3, pos := "link.go:99", after := #[{ on := 15, ground := Ground.data }, { on := 14, ground := Ground.chain }, { on := 0, ground := Ground.phase }, { on := 1, ground := Ground.phase }, { on := 2, ground := Ground.phase }, { on := 3, ground := Ground.phase }, { on := 4, ground := Ground.phase }, { on := 5, ground := Ground.phase }, { on := 6, ground := Ground.phase }, { on := 7, ground := Ground.phase }, { on := 8, ground := Ground.phase }, { on := 9, ground := Ground.phase }, { on := 10, ground := Ground.phase }, { on := 11, ground := Ground.phase }, { on := 12, ground := Ground.phase }, { on := 13, ground := Ground.phase }, { on := 14, ground := Ground.phase }, { on := 15, ground := Ground.phase }], guard := none }) (v := ?_) rfl (by kernel_rfl) (by kernel_rfl) (by kernel_rfl) (fun _ _ _ h => h) (Or.inl ⟨by rfl, ?_⟩) (by assumption) ?_
  rotate_left
  · (intro w hSw; (try dsimp only at hSw); go_simp) <;> with_reducible rfl
  try simp only [Act.put, List.setIfInBounds_toArray, List.set_cons_zero, List.set_cons_succ]
  refine wpAnyH_done (by kernel_rfl) ?_ _
  clear hHeld q0 hcp
  have hO := HW.out.1
  have hAl : (msFlat (A ++ B)).length = (A.length + B.length) * 4 := by rw [msFlat_len, HW.out.2.2.1]
  have hget : ∀ j, (msFlat (A ++ B) ++ y0 :: y1 :: y2 :: y3 :: Z).toArray[(A.length + B.length) * 4 + j]? = (y0 :: y1 :: y2 :: y3 :: Z)[j]? := fun j => by
    rw [List.getElem?_toArray, List.getElem?_append_right (by omega), hAl]
    congr 1; omega
  have o0 : W1.cell? ⟨g, (A.length + B.length) * 4, none⟩ = some y0 := by rw [cell_of_row W1 g _ _ _ _ hO]; exact hget 0
  have o1 : W1.cell? ⟨g, (A.length + B.length) * 4 + 1, none⟩ = some y1 := by rw [cell_of_row W1 g _ _ _ _ hO]; exact hget 1
  have o2 : W1.cell? ⟨g, (A.length + B.length) * 4 + 2, none⟩ = some y2 := by rw [cell_of_row W1 g _ _ _ _ hO]; exact hget 2
  have o3 : W1.cell? ⟨g, (A.length + B.length) * 4 + 3, none⟩ = some y3 := by rw [cell_of_row W1 g _ _ _ _ hO]; exact hget 3
  have f0 := fun j => frozen_of_row W1 g j _ _ hO
  have fb : W1.frozen? ⟨b, 1, none⟩ = false := frozen_of_row W1 b 1 _ _ (HW.out.2.1.heap HA.out.hb (Ne.symm hgb))
  obtain ⟨hS4, hK4⟩ := set4L hO hAl (.int .i8 0) (.int .i8 0) (.slice none 0 0) (.bool false)
  have HS : Hid _ := hS4
  have HK : Hid _ := hK4
  clear hS4 hK4 hO hAl hget
  have HF := mv_done HA.out HW.out.2.1 _ _ _ _ HS.out HK.out HW.out.2.2.2.1 HW.out.2.2.2.2
  have HE : Hid _ := HF
  clear HF HS HK HA HW
  go_wp2
  all_goals (go_end0; (try (have hcq : cap = A.length + 1 := (by assumption); subst hcq)); refine ⟨rfl, _, HE.out.1, ?_, rfl⟩; exact HE.out.2.mono (fun k _ e => e.imp id (fun e => by show some g = some k; rw [e])))

end Go.Proofs.YtghngopclhhoeaaDoor
