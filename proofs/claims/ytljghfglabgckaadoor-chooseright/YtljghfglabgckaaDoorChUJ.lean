/- What upTo of the statements of layer 14 answers: the transactions up to a zxid, in a list of its own. -/
import Derived.Test.YtljghfglabgckaaDoorChFJ
import Derived.Test.YtljghfglabgckaaDoorCopyFJ
namespace Go.Proofs.YtljghfglabgckaaDoor
open Go.RowKit
set_option maxRecDepth 8000

/-- The transactions up to a zxid. -/
def upL (e n : Int) (l : List TxD) : List TxD := l.filter fun t => decide (zcmp t.ep t.n e n ≤ 0)

/-- The cells es are those of the transactions l, as they lie elsewhere. -/
def HereE (W : World) (es : List (List Value)) (l : List TxD) : Prop := es.length = l.length ∧ ∀ j (hj : j < es.length) (hl : j < l.length), SeesTx W es[j] l[j]

theorem HereE.nil (W : World) : HereE W [] [] := ⟨rfl, fun j hj => by simp at hj⟩
theorem HereE.snoc {W : World} {es : List (List Value)} {l : List TxD} (h : HereE W es l) {t : TxD} {cs : List Value} (hr : SeesTx W cs t) : HereE W (es ++ [cs]) (l ++ [t]) := by
  refine ⟨by simp [h.1], fun j hj hl => ?_⟩
  by_cases hjk : j < es.length
  · rw [List.getElem_append_left hjk, List.getElem_append_left (by rw [← h.1]; exact hjk)]
    exact h.2 j hjk (by rw [← h.1]; exact hjk)
  · have e : j = es.length := by simp at hj; omega
    subst e
    have e2 : (l ++ [t])[es.length] = t := by
      rw [List.getElem_append_right (by rw [h.1]; omega)]
      simp [h.1]
    rw [List.getElem_append_right (by omega), e2]
    simpa using hr
theorem HereE.below {W W' : World} {es : List (List Value)} {l : List TxD} (h : HereE W es l) (hb : Below W.heap.size W W') : HereE W' es l :=
  ⟨h.1, fun j hj hl => (h.2 j hj hl).below hb (Nat.le_refl _)⟩

theorem here_sees {w W : World} {B : Nat} {v : Value} {es : List (List Value)} {l : List TxD} (h : HereE w es l) (hb : Below w.heap.size w W) (ho : W.ownsRow B 49 16 v l.length es.flatten) : SeesTxs W v l := by
  have h' := h.below hb
  refine ⟨es, seesR_own (base := B) (t := 49) (by rw [h.1]; exact ho) (fun c hc => ?_), h.1, fun i h1 h2 => h'.2 i h1 h2⟩
  obtain ⟨j, hj, rfl⟩ := List.getElem_of_mem hc
  exact (h.2 j hj (by rw [← h.1]; exact hj)).len

theorem upL_next (e n : Int) (l : List TxD) (k : Nat) (h : k < l.length) : upL e n (l.take (k + 1)) = upL e n (l.take k) ++ if zcmp l[k].ep l[k].n e n ≤ 0 then [l[k]] else [] := by
  unfold upL
  rw [List.take_succ_eq_append_getElem h, List.filter_append]
  congr 1
  by_cases c : zcmp l[k].ep l[k].n e n ≤ 0
  · simp [c]
  · simp [c]

theorem upL_len (e n : Int) (l : List TxD) : (upL e n l).length ≤ l.length := List.length_filter_le _ _

set_option maxHeartbeats 1500000 in
theorem lawUpTo_any (e n : Int) (v : Value) (l : List TxD) (w : World) (h : SeesTxs w v l) (hl : l.length ≤ 1000000) :
    Calls Tryd.prog 10 #[v, zx e n] w fun r w' => ∃ u, r = .returned u ∧ SeesTxs w' u (upL e n l) ∧ Below w.heap.size w w' := by
  obtain ⟨ao, cap, rfl, hlc, hcm⟩ := txs_shape h
  have H : Hid (SeesTxs w (.slice ao l.length cap) l) := h
  unfold maxLen at hcm
  clear h
  obtain ⟨i0, hi, hz0, hz1, hz2⟩ := info_parts Tryd.infoTxF
  go_enter Tryd.func10, Tryd.ntmps10
  go_wp2_with fail
  go_loopw [5, 6] (fun out i wr => ∃ (k : Nat) (es : List (List Value)), k ≤ l.length ∧ i = .int .i64 k ∧ Hid (HereE w es (upL e n (l.take k))) ∧ Hid (wr.ownsRow (w.heap.size + 1) 49 16 out (upL e n (l.take k)).length es.flatten) ∧ Hid (Below w.heap.size w wr ∧ wr.heap[w.heap.size]? = some (.cells #[.int .u32 e, .int .u32 n] 30 (0, 0)))) (fun _ i _ => l.length - (intOf i).toNat)
  case atStart => exact ⟨0, [], Nat.zero_le _, rfl, HereE.nil _, World.ownsRow_nil _ _ _ _, one_alloc _ _, heap_alloc_new _ _⟩
  case round =>
    obtain ⟨k, es, hk, rfl, HH, HO, HB⟩ := hrel
    by_cases hlt : k < l.length
    · obtain ⟨b, off, cap', rc, hv, _, _, hr, hat⟩ := txs_at (H.out.below HB.out.1 (Nat.le_refl _)) k hlt
      simp at hv
      obtain ⟨rfl, rfl⟩ := hv
      have HS : Hid (∀ W, Below wr.heap.size wr W → W.cell? ⟨b, off + k * 16, none⟩ = some (.int .u32 l[k].ep) ∧ W.cell? ⟨b, off + k * 16 + 1, none⟩ = some (.int .u32 l[k].n) ∧ W.cell? ⟨w.heap.size, 0, none⟩ = some (.int .u32 e) ∧ W.cell? ⟨w.heap.size, 1, none⟩ = some (.int .u32 n)) := fun W hW =>
        ⟨cell_later (hat 0 (by omega)) hW (Nat.le_refl _), cell_later (hat 1 (by omega)) hW (Nat.le_refl _), cell_later (cellAt HB.out.2 rfl) hW (Nat.le_refl _), cell_later (cellAt HB.out.2 rfl) hW (Nat.le_refl _)⟩
      have HAT : Hid (∀ j, j < 16 → wr.cell? ⟨b, off + k * 16 + j, none⟩ = some ((txHead l[k] ++ rc).getD j (.bool false))) := hat
      have HTX : Hid (SeesRq wr rc l[k].rq) := hr
      obtain ⟨s0, s1, s2, rfl⟩ := row_shape HO.out
      clear hat hr
      go_upto_region 5 with fail
      refine wp_region_held_drew (S := (fun W => W.cell? ⟨b, off + k * 16, none⟩ = some (.int .u32 l[k].ep) ∧ W.cell? ⟨b, off + k * 16 + 1, none⟩ = some (.int .u32 l[k].n) ∧ W.cell? ⟨w.heap.size, 0, none⟩ = some (.int .u32 e) ∧ W.cell? ⟨w.heap.size, 1, none⟩ = some (.int .u32 n))) (by kernel_rfl) ?_ (fun hHeld => ?_)
      · exact HS.out _ (below_drewN (Below.refl _ _) 1)
      refine wpAnyH_take (i := 0) (oi := { dst := some 13, op := Op.move (Operand.tmp 0), type := 22, pos := "law.go:106", after := #[], guard := none }) (v := ?_) rfl (by kernel_rfl) (by kernel_rfl) (by kernel_rfl) (fun _ _ _ h => h) (Or.inl ⟨by rfl, ?_⟩) (by assumption) ?_
      rotate_left
      · (intro w hSw; (try dsimp only at hSw); go_simp) <;> with_reducible rfl
      try simp only [Act.put, List.setIfInBounds_toArray, List.set_cons_zero, List.set_cons_succ]
      refine wpAnyH_take (i := 1) (oi := { dst := some 14, op := Op.move (Operand.tmp 6), type := 3, pos := "law.go:106", after := #[], guard := none }) (v := ?_) rfl (by kernel_rfl) (by kernel_rfl) (by kernel_rfl) (fun _ _ _ h => h) (Or.inl ⟨by rfl, ?_⟩) (by assumption) ?_
      rotate_left
      · (intro w hSw; (try dsimp only at hSw); go_simp) <;> with_reducible rfl
      try simp only [Act.put, List.setIfInBounds_toArray, List.set_cons_zero, List.set_cons_succ]
      refine wpAnyH_take (i := 2) (oi := { dst := some 15, op := Op.indexAddr 22 (Operand.tmp 13) (Operand.tmp 14), type := 0, pos := "law.go:106", after := #[{ on := 0, ground := Ground.data }, { on := 1, ground := Ground.data }], guard := none }) (v := ?_) rfl (by kernel_rfl) (by kernel_rfl) (by kernel_rfl) (fun _ _ _ h => h) (Or.inl ⟨by rfl, ?_⟩) (by assumption) ?_
      rotate_left
      · (intro w hSw; (try dsimp only at hSw); go_simp) <;> with_reducible rfl
      try simp only [Act.put, List.setIfInBounds_toArray, List.set_cons_zero, List.set_cons_succ]
      refine wpAnyH_take (i := 3) (oi := { dst := some 16, op := Op.fieldAddr 49 (Operand.tmp 15) 0, type := 0, pos := "law.go:106", after := #[{ on := 2, ground := Ground.data }], guard := none }) (v := ?_) rfl (by kernel_rfl) (by kernel_rfl) (by kernel_rfl) (fun _ _ _ h => h) (Or.inl ⟨by rfl, ?_⟩) (by assumption) ?_
      rotate_left
      · (intro w hSw; (try dsimp only at hSw); go_simp) <;> with_reducible rfl
      try simp only [Act.put, List.setIfInBounds_toArray, List.set_cons_zero, List.set_cons_succ]
      refine wpAnyH_take (i := 4) (oi := { dst := some 17, op := Op.load 30 (Operand.tmp 16), type := 30, pos := "law.go:106", after := #[{ on := 3, ground := Ground.data }], guard := none }) (v := ?_) rfl (by kernel_rfl) (by kernel_rfl) (by kernel_rfl) (fun _ _ _ h => h) (Or.inl ⟨by rfl, ?_⟩) (by assumption) ?_
      rotate_left
      · (intro w hSw; (try dsimp only at hSw); go_simp) <;> with_reducible rfl
      try simp only [Act.put, List.setIfInBounds_toArray, List.set_cons_zero, List.set_cons_succ]
      refine wpAnyH_take (i := 5) (oi := { dst := some 18, op := Op.load 30 (Operand.tmp 3), type := 30, pos := "law.go:106", after := #[], guard := none }) (v := ?_) rfl (by kernel_rfl) (by kernel_rfl) (by kernel_rfl) (fun _ _ _ h => h) (Or.inl ⟨by rfl, ?_⟩) (by assumption) ?_
      rotate_left
      · (intro w hSw; (try dsimp only at hSw); go_simp) <;> with_reducible rfl
      try simp only [Act.put, List.setIfInBounds_toArray, List.set_cons_zero, List.set_cons_succ]
      refine wpAnyH_ready (rs := [6]) (by kernel_rfl) (by simp) ?_
      refine AllReadyH.cons (o := { dst := some 19, op := Op.call { callee := Callee.value (Operand.func 22), args := #[Operand.tmp 17, Operand.tmp 18], argTypes := #[30, 30] }, type := 3, pos := "law.go:106", after := #[{ on := 4, ground := Ground.data }, { on := 5, ground := Ground.data }], guard := none }) rfl (fun K hK => ?_) AllReadyH.nil
      go_simp
      refine (refCompare_any l[k].ep l[k].n e n _).mono ?_
      rintro _ w1 ⟨rfl, b1⟩
      have HB1 : Hid (Below wr.heap.size wr w1) := (below_drewN (Below.refl wr.heap.size wr) 1).trans b1
      clear b1
      refine hK.out _ _ (HS.out _ HB1.out) (fun hHeld => ?_)
      clear hK K
      refine wpAnyH_take (i := 7) (oi := { dst := some 20, op := Op.binOp BinOp.leq 3 (Operand.tmp 19) (Operand.const (Value.int IntKind.i64 0)) 3, type := 4, pos := "law.go:106", after := #[{ on := 6, ground := Ground.data }], guard := none }) (v := ?_) rfl (by kernel_rfl) (by kernel_rfl) (by kernel_rfl) (fun _ _ _ h => h) (Or.inl ⟨by rfl, ?_⟩) (by assumption) ?_
      rotate_left
      · (intro w hSw; (try dsimp only at hSw); go_simp) <;> with_reducible rfl
      try simp only [Act.put, List.setIfInBounds_toArray, List.set_cons_zero, List.set_cons_succ]
      refine wpAnyH_done (by kernel_rfl) ?_ _
      clear hHeld
      have HF : Hid (Below w.heap.size w w1 ∧ w1.heap[w.heap.size]? = some (.cells #[.int .u32 e, .int .u32 n] 30 (0, 0))) := ⟨HB.out.1.trans (HB1.out.mono HB.out.1.size), (Below.kept HB1.out).heap HB.out.2 (by have := lt_of_block HB.out.2; omega)⟩
      by_cases hc : zcmp l[k].ep l[k].n e n ≤ 0
      · have HU : Hid (upL e n (l.take (k + 1)) = upL e n (l.take k) ++ [l[k]]) := by show upL e n (l.take (k + 1)) = _; rw [upL_next e n l k hlt, if_pos hc]
        have hc' : decide (zcmp l[k].ep l[k].n e n ≤ 0) = true := decide_eq_true hc
        clear hc
        generalize hZ : decide (zcmp l[k].ep l[k].n e n ≤ 0) = Z at *
        clear hZ
        subst hc'
        have hln : (upL e n (l.take k)).length ≤ k := by have := upL_len e n (l.take k); rw [List.length_take] at this; omega
        have HTW : Hid (SeesTx w (txHead l[k] ++ rc) l[k]) := by
          obtain ⟨b2, off2, cap2, rc2, hv2, _, _, hr2, hat2⟩ := txs_at H.out k hlt
          simp at hv2
          obtain ⟨⟨rfl, rfl⟩, rfl⟩ := hv2
          have e : rc2 = rc := by
            have l1 := hr2.len
            have l2 := HTX.out.len
            refine List.ext_getElem (by omega) (fun j h1 h2 => ?_)
            have a := cell_later (hat2 (5 + j) (by omega)) HB.out.1 (Nat.le_refl _)
            have b := HAT.out (5 + j) (by omega)
            rw [a] at b
            have hd : ∀ r : List Value, r.length = 11 → (txHead l[k] ++ r).getD (5 + j) (.bool false) = r.getD j (.bool false) := fun r hr => by
              rw [List.getD_eq_getElem?_getD, List.getElem?_append_right (by simp [txHead]), List.getD_eq_getElem?_getD]
              simp [txHead]
            rw [hd rc2 l1, hd rc l2] at b
            have := Option.some.inj b
            rw [List.getD_eq_getElem?_getD, List.getD_eq_getElem?_getD, List.getElem?_eq_getElem h1, List.getElem?_eq_getElem h2] at this
            exact this
          subst e
          exact ⟨rc2, rfl, hr2⟩
        obtain ⟨qx0, qx1, dx0, dx1, dx2, ax0, ax1, ax2, qx4, qx5, qx6, qx7, qx8, ex0, ex1, ex2, ox0, ox1, ox2, rfl⟩ := rq_forms HTX.out
        have hh : txHead l[k] = [.int .u32 l[k].ep, .int .u32 l[k].n, .int .i8 l[k].srv, .int .u32 l[k].boot, .int .i64 l[k].num] := rfl
        rw [hh] at HAT
        clear hh HTX HS
        generalize l[k] = t at *
        have g0 : w1.cell? ⟨b, off + k * 16, none⟩ = some (.int .u32 t.ep) := cell_later (HAT.out 0 (by omega)) HB1.out (Nat.le_refl _)
        have g1 : w1.cell? ⟨b, off + k * 16 + 1, none⟩ = some (.int .u32 t.n) := cell_later (HAT.out 1 (by omega)) HB1.out (Nat.le_refl _)
        have g2 : w1.cell? ⟨b, off + k * 16 + 2, none⟩ = some (.int .i8 t.srv) := cell_later (HAT.out 2 (by omega)) HB1.out (Nat.le_refl _)
        have g3 : w1.cell? ⟨b, off + k * 16 + 3, none⟩ = some (.int .u32 t.boot) := cell_later (HAT.out 3 (by omega)) HB1.out (Nat.le_refl _)
        have g4 : w1.cell? ⟨b, off + k * 16 + 4, none⟩ = some (.int .i64 t.num) := cell_later (HAT.out 4 (by omega)) HB1.out (Nat.le_refl _)
        have g5 : w1.cell? ⟨b, off + k * 16 + 5, none⟩ = some (.int .i8 qx0) := cell_later (HAT.out 5 (by omega)) HB1.out (Nat.le_refl _)
        have g6 : w1.cell? ⟨b, off + k * 16 + 6, none⟩ = some (.string qx1) := cell_later (HAT.out 6 (by omega)) HB1.out (Nat.le_refl _)
        have g7 : w1.cell? ⟨b, off + k * 16 + 7, none⟩ = some (.slice dx0 dx1 dx2) := cell_later (HAT.out 7 (by omega)) HB1.out (Nat.le_refl _)
        have g8 : w1.cell? ⟨b, off + k * 16 + 8, none⟩ = some (.slice ax0 ax1 ax2) := cell_later (HAT.out 8 (by omega)) HB1.out (Nat.le_refl _)
        have g9 : w1.cell? ⟨b, off + k * 16 + 9, none⟩ = some (.int .i32 qx4) := cell_later (HAT.out 9 (by omega)) HB1.out (Nat.le_refl _)
        have g10 : w1.cell? ⟨b, off + k * 16 + 10, none⟩ = some (.bool qx5) := cell_later (HAT.out 10 (by omega)) HB1.out (Nat.le_refl _)
        have g11 : w1.cell? ⟨b, off + k * 16 + 11, none⟩ = some (.bool qx6) := cell_later (HAT.out 11 (by omega)) HB1.out (Nat.le_refl _)
        have g12 : w1.cell? ⟨b, off + k * 16 + 12, none⟩ = some (.int .i64 qx7) := cell_later (HAT.out 12 (by omega)) HB1.out (Nat.le_refl _)
        have g13 : w1.cell? ⟨b, off + k * 16 + 13, none⟩ = some (.int .i32 qx8) := cell_later (HAT.out 13 (by omega)) HB1.out (Nat.le_refl _)
        have g14 : w1.cell? ⟨b, off + k * 16 + 14, none⟩ = some (.slice ex0 ex1 ex2) := cell_later (HAT.out 14 (by omega)) HB1.out (Nat.le_refl _)
        have g15 : w1.cell? ⟨b, off + k * 16 + 15, none⟩ = some (.slice ox0 ox1 ox2) := cell_later (HAT.out 15 (by omega)) HB1.out (Nat.le_refl _)
        have HO1 : Hid (w1.ownsRow (w.heap.size + 1) 49 16 (.slice s0 s1 s2) (upL e n (l.take k)).length es.flatten) := ownsRow_kept HO.out (Below.kept HB1.out) (fun q hq h => by have := (HO.out.lt q hq).2; omega)
        have hsz : w.heap.size + 1 ≤ w1.heap.size := by have := lt_of_block HF.out.2; omega
        obtain ⟨L, hL⟩ : ∃ L, L = (upL e n (l.take k)).length := ⟨_, rfl⟩
        rw [← hL] at HO1 hln
        have HLE : Hid _ := hL
        clear HAT HO HB HB1 hL
        go_wp2_with (at_builtin; refine wpList_append_own_at _ rfl _ _ 22 rfl (w.heap.size + 1) 49 i0 _ 16 168 Tryd.underlying22 hi hz0 hz1 hz2 rfl (by decide) _ _ _ rfl (ownsRow_kept HO1.out ((Kept.refl w1 (fun _ => False)).alloc _) (fun q hq h => h)) ⟨w1.heap.size, 0, none⟩ 1 1 (txHead t ++ ([.int .i8 qx0, .string qx1, .slice dx0 dx1 dx2, .slice ax0 ax1 ax2, .int .i32 qx4, .bool qx5, .bool qx6, .int .i64 qx7, .int .i32 qx8, .slice ex0 ex1 ex2, .slice ox0 ox1 ox2] : List Value)) rfl rfl ?c1 ?c2 ?c3 ?c4 ?c5 ?_)
        case c1 =>
          intro j u hj
          rw [addrAdd, Nat.zero_add, cell_of_row _ _ _ _ _ _ (heap_alloc_new _ _)]
          rw [← hj]
          simp [txHead]
        case c2 =>
          intro u hu
          simp only [txHead, List.cons_append, List.nil_append, List.mem_cons, List.not_mem_nil, or_false] at hu
          rcases hu with rfl | rfl | rfl | rfl | rfl | rfl | rfl | rfl | rfl | rfl | rfl | rfl | rfl | rfl | rfl | rfl <;> rfl
        case c3 => unfold maxLen; omega
        case c4 => omega
        case c5 => simp; omega
        intro v' w6 hown' hgrow _ hat'
        have HR : Hid (HereE w (es ++ [txHead t ++ ([.int .i8 qx0, .string qx1, .slice dx0 dx1 dx2, .slice ax0 ax1 ax2, .int .i32 qx4, .bool qx5, .bool qx6, .int .i64 qx7, .int .i32 qx8, .slice ex0 ex1 ex2, .slice ox0 ox1 ox2] : List Value)]) (upL e n (l.take (k + 1))) ∧ w6.ownsRow (w.heap.size + 1) 49 16 v' (upL e n (l.take (k + 1))).length (es ++ [txHead t ++ ([.int .i8 qx0, .string qx1, .slice dx0 dx1 dx2, .slice ax0 ax1 ax2, .int .i32 qx4, .bool qx5, .bool qx6, .int .i64 qx7, .int .i32 qx8, .slice ex0 ex1 ex2, .slice ox0 ox1 ox2] : List Value)]).flatten ∧ Below w.heap.size w w6 ∧ w6.heap[w.heap.size]? = some (.cells #[.int .u32 e, .int .u32 n] 30 (0, 0))) := by
          have hlo : ∀ q, (Value.slice s0 s1 s2).ownBlock = some q → w.heap.size + 1 ≤ q := fun q hq => (HO1.out.lt q hq).1
          refine ⟨by rw [HU.out]; exact HH.out.snoc HTW.out, ?_, (HF.out.1.alloc HF.out.1.size _).grown hgrow (by have := HF.out.1.size; simp; omega) (fun q hq => by have := hlo q hq; omega), ?_⟩
          · rw [HU.out, List.length_append, ← HLE.out, List.flatten_append]
            simp only [List.flatten_cons, List.flatten_nil, List.append_nil, List.length_singleton]
            exact hown'
          · have hk : Kept w1 w6 (fun q => (Value.slice s0 s1 s2).ownBlock = some q) := ((Kept.refl w1 (fun q => (Value.slice s0 s1 s2).ownBlock = some q)).alloc _).grown hgrow (fun q _ h => h)
            exact hk.heap HF.out.2 (fun h => by have := hlo _ h; omega)
        clear hown' hgrow hat' HO1 HF HH HTW HU g0 g1 g2 g3 g4 g5 g6 g7 g8 g9 g10 g11 g12 g13 g14 g15
        go_wp2
        go_roundw
        case rel => exact ⟨k + 1, _, by omega, by go_num, HR.out.1, HR.out.2.1, HR.out.2.2.1, HR.out.2.2.2⟩
        case measure => simp [intOf]; omega
      · have HU : Hid (upL e n (l.take (k + 1)) = upL e n (l.take k)) := by show upL e n (l.take (k + 1)) = _; rw [upL_next e n l k hlt, if_neg hc, List.append_nil]
        have hc' : decide (zcmp l[k].ep l[k].n e n ≤ 0) = false := decide_eq_false hc
        have HO1 : Hid (w1.ownsRow (w.heap.size + 1) 49 16 (.slice s0 s1 s2) (upL e n (l.take k)).length es.flatten) := ownsRow_kept HO.out (Below.kept HB1.out) (fun q hq h => by have := (HO.out.lt q hq).2; omega)
        clear hc HO HB HB1 HS HAT HTX
        generalize hZ : decide (zcmp l[k].ep l[k].n e n ≤ 0) = Z at *
        clear hZ
        subst hc'
        go_wp2_with fail
        go_roundw
        case rel => exact ⟨k + 1, es, by omega, by go_num, by rw [HU.out]; exact HH, by rw [HU.out]; exact HO1, HF⟩
        case measure => simp [intOf]; omega
    · obtain rfl : k = l.length := by omega
      rw [List.take_length] at HH HO
      have HR : Hid _ := And.intro (here_sees HH.out HB.out.1 HO.out) HB.out.1
      clear HH HO HB
      go_wp2_with fail
      go_ret
      exact ⟨_, rfl, HR.out.1, HR.out.2⟩
end Go.Proofs.YtljghfglabgckaaDoor
