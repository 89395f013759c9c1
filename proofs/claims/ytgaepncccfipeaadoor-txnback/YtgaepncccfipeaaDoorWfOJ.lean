/- TxnBack of the statements of layer 4, walked: true for every transaction. -/
import Derived.Test.YtgaepncccfipeaaDoorWfLJ
import Derived.Test.YtgaepncccfipeaaDoorWfNJ
import Derived.Test.YtgaepncccfipeaaDoorLargeTJ
import Derived.Deep.RegionHeld
namespace Go.Proofs.YtgaepncccfipeaaDoor
open Go.RowKit
set_option maxRecDepth 8000

theorem tx_cell1 {w : World} {cs : List Value} {t : TxD} (h : SeesTx w cs t) : cs.toArray.all (·.oneCell') = true := by
  obtain ⟨rc, rfl, hr⟩ := h
  obtain ⟨q0, q1, d0, d1, d2, a0, a1, a2, q4, q5, q6, q7, q8, e0, e1, e2, o0, o1, o2, rfl⟩ := rq_forms hr
  simp [Value.oneCell', txHead]

/-- A load of a whole row, its guard saying yes. -/
theorem wpList_load_rowG {P : Program} {ops : Array Oper} {rest : List Oper} {o : Oper} {a : Act} {w : World} {Q : Exit → Act → World → Prop} (hw : Region.wanted o (yielded ops a.tmps) = true) (ty : TypeId) (x : Operand) (ho : o.op = .load ty x)
    (g : Nat) (hx : a.eval x = .pointer (some ⟨g, 0, none⟩)) (t : TypeId) (cs : Array Value) (fr : Nat × Nat) (d : TypeDesc) (hg : w.heap[g]? = some (.cells cs t fr))
    (hu : P.underlying ty = some d) (hd : (match d with | .struct _ | .array _ _ => true | _ => false) = true) (hi : (P.info? ty).map (·.size) = some cs.size)
    (h : wpList P ops Q rest (a.put o.dst (.agg cs)) w) : wpList P ops Q (o :: rest) a w :=
  BigFrame.wpList_want hw fun _ hK => wp_load_row ty x ho g hx t cs fr d hg hu hd hi (hK _ _ h)

/-- What holds of the box of the parameter in every later world. -/
structure BkIn (w : World) (cs rc : List Value) (t : TxD) (W : World) : Prop where
  row : W.heap[w.heap.size]? = some (.cells cs.toArray 35 (0, 0))
  at5 : W.rangeAt w.heap.size 5 rc
  nam : Nam W
  tx : SeesTx W cs t
  rq : SeesRq W rc t.rq
  bel : Below w.heap.size w W

theorem BkIn.later {w : World} {cs rc : List Value} {t : TxD} {W W' : World} (h : BkIn w cs rc t W) (hb : Below W.heap.size W W') : BkIn w cs rc t W' :=
  ⟨(Below.kept hb).heap h.row (by have := lt_of_block h.row; omega), fun j v hj => cell_later (h.at5 j v hj) hb (Nat.le_refl _), h.nam.below hb h.nam.lt, h.tx.below hb (Nat.le_refl _), h.rq.later hb (Nat.le_refl _), h.bel.trans (hb.mono h.bel.size)⟩

set_option maxHeartbeats 8000000 in
theorem txnBack_walk (cs : List Value) (t : TxD) (w : World) (hn : Nam w) (h : SeesTx w cs t) (hg : t.good) :
    Calls Tryd.prog 3 #[.agg cs.toArray] w fun r w' => r = .returned (.bool true) ∧ Below w.heap.size w w' := by
  have hl16 := h.len
  have h1 := tx_cell1 h
  obtain ⟨rc, hrc, hr⟩ := id h
  have hl11 := hr.len
  have HG : Hid _ := hg
  have HIN : Hid (BkIn w cs rc t (w.alloc (.cells cs.toArray 35))) := by
    have b := one_alloc w (.cells cs.toArray 35)
    refine ⟨heap_alloc_new _ _, fun j v hj => ?_, hn.below b hn.lt, h.below b (Nat.le_refl _), hr.later b (Nat.le_refl _), b⟩
    rw [cell_of_row _ _ _ _ _ _ (heap_alloc_new _ _), hrc]
    have e : (txHead t ++ rc).toArray[5 + j]? = rc[j]? := by
      rw [List.getElem?_toArray, List.getElem?_append_right (by simp [txHead])]
      simp [txHead]
    rw [e]
    exact hj
  have q11 : (Tryd.prog.info? 33).map (·.size) = some rc.length := by rw [hl11]; exact rq_size
  have q16 : (Tryd.prog.info? 35).map (·.size) = some cs.toArray.size := by rw [List.size_toArray, hl16]; exact tx_size
  clear h hg hr hn hrc
  go_enter Tryd.func3, Tryd.ntmps3
  go_wp2_with fail
  refine (works4_any _ HIN.out.nam).mono ?_
  rintro _ w1 ⟨rfl, b⟩
  have H1 : Hid (BkIn w cs rc t w1) := HIN.out.later b
  clear b HIN
  have l5 := H1.out.at5
  go_wp2_with (refine wpList_load_mid rfl 33 _ rfl w.heap.size 5 rfl rc _ l5 Tryd.underlying33 rfl q11 ?_)
  clear l5
  refine (large_any t.rq rc w1 H1.out.rq HG.out.rq).mono ?_
  rintro _ w2 ⟨bl, rfl, hbl, b⟩
  have H2 : Hid (BkIn w cs rc t w2) := H1.out.later b
  clear b H1
  cases bl
  · have HP : Hid (t.rq.parts ≤ 20000) := hbl rfl
    clear hbl
    have l16 := H2.out.row
    go_wp2_with (refine wpList_load_row rfl 35 _ rfl w.heap.size rfl 35 _ (0, 0) _ l16 Tryd.underlying35 rfl q16 ?_)
    clear l16
    refine (copyTxn_any cs t w2 H2.out.tx HP.out).mono ?_
    rintro _ w3 ⟨ds, rfl, hds, b⟩
    have H3 : Hid (BkIn w cs rc t w3 ∧ RqIn w3 (· < w3.heap.size) ds t.rq) := ⟨H2.out.later b, RqIn.kept (F' := (· < w3.heap.size)) (Kept.refl w3 (fun _ => False)) (fun k hk => ⟨fun e => e, hk.2⟩) hds⟩
    clear b H2 hds
    cases hok : txOk t with
    | false =>
      go_wp2_with fail
      refine (write_no t ds w3 H3.out.2.sees HG.out H3.out.1.nam hok).mono ?_
      rintro _ w4 ⟨rfl, b⟩
      have H4 : Hid (BkIn w cs rc t w4) := H3.out.1.later b
      clear b H3
      have l16 := H4.out.row
      go_wp2_with (refine wpList_load_row rfl 35 _ rfl w.heap.size rfl 35 _ (0, 0) _ l16 Tryd.underlying35 rfl q16 ?_)
      clear l16
      refine (copyTxn_any cs t w4 H4.out.tx HP.out).mono ?_
      rintro _ w5 ⟨es, rfl, hes, b⟩
      have H5 : Hid (BkIn w cs rc t w5 ∧ SeesRq w5 es t.rq) := ⟨H4.out.later b, hes.sees⟩
      clear b H4 hes
      go_wp2_with fail
      refine (check_any (txHead t ++ es) t w5 ⟨es, rfl, H5.out.2⟩ HG.out H5.out.1.nam).mono ?_
      rintro _ w6 ⟨rfl, b⟩
      have H6 : Hid (BkIn w cs rc t w6) := H5.out.1.later b
      clear b H5
      rw [hok]
      go_wp2_with fail
      go_ret
      exact ⟨rfl, H6.out.bel⟩
    | true =>
      have HLN : Hid ((txB t).length ≤ 4096) := txB_t t hok
      go_wp2_with fail
      refine (write_good t ds w3 H3.out.2 HG.out H3.out.1.nam hok).mono ?_
      rintro _ w4 ⟨v, rfl, hv, b⟩
      have H4 : Hid (BkIn w cs rc t w4 ∧ Sees w4 v (txB t)) := ⟨H3.out.1.later b, Sees.own hv⟩
      obtain ⟨vb, vc, rfl⟩ : ∃ vb vc, v = .slice vb (txB t).length vc := by obtain ⟨vb, vc, rfl, _⟩ := Sees.own hv; exact ⟨vb, vc, rfl⟩
      clear b H3 hv
      obtain ⟨L, hL⟩ : ∃ L, L = (txB t).length := ⟨_, rfl⟩
      rw [← hL] at H4 HLN ⊢
      have HLL : Hid _ := hL
      clear hL
      have l16 := H4.out.1.row
      go_wp2_with (refine wpList_load_row rfl 35 _ rfl w.heap.size rfl 35 _ (0, 0) _ l16 Tryd.underlying35 rfl q16 ?_)
      clear l16
      refine (copyTxn_any cs t w4 H4.out.1.tx HP.out).mono ?_
      rintro _ w5 ⟨es, rfl, hes, b⟩
      have H5 : Hid (BkIn w cs rc t w5 ∧ SeesRq w5 es t.rq ∧ Sees w5 (.slice vb L vc) (txB t)) := ⟨H4.out.1.later b, hes.sees, H4.out.2.below b (Nat.le_refl _)⟩
      clear b H4 hes
      go_wp2_with fail
      refine (check_any (txHead t ++ es) t w5 ⟨es, rfl, H5.out.2.1⟩ HG.out H5.out.1.nam).mono ?_
      rintro _ w6 ⟨rfl, b⟩
      have H6 : Hid (BkIn w cs rc t w6 ∧ Sees w6 (.slice vb L vc) (txB t)) := ⟨H5.out.1.later b, H5.out.2.2.below b (Nat.le_refl _)⟩
      clear b H5
      rw [hok]
      go_wp2_with fail
      refine (read_bk t hok HG.out _ w6 H6.out.2 H6.out.1.nam).mono ?_
      rintro _ w7 ⟨uc, rfl, huc, b⟩
      obtain ⟨us, hus⟩ : ∃ us, us = txHead t ++ uc := ⟨_, rfl⟩
      rw [← hus]
      have hu7 : SeesTx w7 us t := ⟨uc, hus, huc.sees⟩
      have ul := hu7.len
      have u1 := tx_cell1 hu7
      have q16' : (Tryd.prog.info? 35).map (·.size) = some us.toArray.size := by rw [List.size_toArray, ul]; exact tx_size
      have s1 : (w7.alloc (.cells #[.int .u32 0, .int .u32 0, .int .i8 0, .int .u32 0, .int .i64 0, .int .i8 0, .string ⟨#[]⟩, .slice none 0 0, .slice none 0 0, .int .i32 0, .bool false, .bool false, .int .i64 0, .int .i32 0, .slice none 0 0, .slice none 0 0] 35)).heap[w7.heap.size]? = some (.cells #[.int .u32 0, .int .u32 0, .int .i8 0, .int .u32 0, .int .i64 0, .int .i8 0, .string ⟨#[]⟩, .slice none 0 0, .slice none 0 0, .int .i32 0, .bool false, .bool false, .int .i64 0, .int .i32 0, .slice none 0 0, .slice none 0 0] 35 (0, 0)) := heap_alloc_new _ _
      have hbk : Below w7.heap.size w7 ((w7.alloc (.cells #[.int .u32 0, .int .u32 0, .int .i8 0, .int .u32 0, .int .i64 0, .int .i8 0, .string ⟨#[]⟩, .slice none 0 0, .slice none 0 0, .int .i32 0, .bool false, .bool false, .int .i64 0, .int .i32 0, .slice none 0 0, .slice none 0 0] 35)).setRow w7.heap.size us.toArray) := by
        have k2 : Kept (w7.alloc (.cells #[.int .u32 0, .int .u32 0, .int .i8 0, .int .u32 0, .int .i64 0, .int .i8 0, .string ⟨#[]⟩, .slice none 0 0, .slice none 0 0, .int .i32 0, .bool false, .bool false, .int .i64 0, .int .i32 0, .slice none 0 0, .slice none 0 0] 35)) ((w7.alloc (.cells #[.int .u32 0, .int .u32 0, .int .i8 0, .int .u32 0, .int .i64 0, .int .i8 0, .string ⟨#[]⟩, .slice none 0 0, .slice none 0 0, .int .i32 0, .bool false, .bool false, .int .i64 0, .int .i32 0, .slice none 0 0, .slice none 0 0] 35)).setRow w7.heap.size us.toArray) (fun k => k = w7.heap.size) := ⟨rfl, rfl, rfl, by simp, fun k _ hn => setRow_other _ _ _ _ hn⟩
        exact (one_alloc w7 _).trans (k2.below (by simp) (fun k e => by omega))
      have H8 : Hid (BkIn w cs rc t ((w7.alloc (.cells #[.int .u32 0, .int .u32 0, .int .i8 0, .int .u32 0, .int .i64 0, .int .i8 0, .string ⟨#[]⟩, .slice none 0 0, .slice none 0 0, .int .i32 0, .bool false, .bool false, .int .i64 0, .int .i32 0, .slice none 0 0, .slice none 0 0] 35)).setRow w7.heap.size us.toArray) ∧ SeesTx ((w7.alloc (.cells #[.int .u32 0, .int .u32 0, .int .i8 0, .int .u32 0, .int .i64 0, .int .i8 0, .string ⟨#[]⟩, .slice none 0 0, .slice none 0 0, .int .i32 0, .bool false, .bool false, .int .i64 0, .int .i32 0, .slice none 0 0, .slice none 0 0] 35)).setRow w7.heap.size us.toArray) us t ∧ ((w7.alloc (.cells #[.int .u32 0, .int .u32 0, .int .i8 0, .int .u32 0, .int .i64 0, .int .i8 0, .string ⟨#[]⟩, .slice none 0 0, .slice none 0 0, .int .i32 0, .bool false, .bool false, .int .i64 0, .int .i32 0, .slice none 0 0, .slice none 0 0] 35)).setRow w7.heap.size us.toArray).heap[w7.heap.size]? = some (.cells us.toArray 35 (0, 0))) :=
        ⟨(H6.out.1.later b).later hbk, hu7.below hbk (Nat.le_refl _), setRow_heap _ _ _ _ _ _ s1⟩
      clear b H6 huc hus hu7 hbk
      go_upto_region 9 with (refine wpList_store_row rfl 35 _ _ rfl w7.heap.size us.toArray rfl rfl 35 _ s1 q16' (by simp [ul]) u1 ?_)
      clear s1
      generalize ((w7.alloc (.cells #[.int .u32 0, .int .u32 0, .int .i8 0, .int .u32 0, .int .i64 0, .int .i8 0, .string ⟨#[]⟩, .slice none 0 0, .slice none 0 0, .int .i32 0, .bool false, .bool false, .int .i64 0, .int .i32 0, .slice none 0 0, .slice none 0 0] 35)).setRow w7.heap.size us.toArray) = w8 at *
      have hSx : ∀ W, BkIn w cs rc t W → W.heap[w7.heap.size]? = some (.cells us.toArray 35 (0, 0)) → (W.rangeAt w.heap.size 0 cs ∧ W.rangeAt w7.heap.size 0 us) := fun W h1 h2 => by
        refine ⟨fun j v hj => ?_, fun j v hj => ?_⟩
        · rw [Nat.zero_add, cell_of_row _ _ _ _ _ _ h1.row, List.getElem?_toArray]; exact hj
        · rw [Nat.zero_add, cell_of_row _ _ _ _ _ _ h2, List.getElem?_toArray]; exact hj
      have HSX : Hid _ := hSx
      have HD8 : Hid (BkIn w cs rc t w8.drew ∧ SeesTx w8.drew us t ∧ w8.drew.heap[w7.heap.size]? = some (.cells us.toArray 35 (0, 0))) := ⟨H8.out.1.later (below_drewN (Below.refl _ _) 1), H8.out.2.1.below (below_drewN (Below.refl _ _) 1) (Nat.le_refl _), H8.out.2.2⟩
      have qc : (Tryd.prog.info? 35).map (·.size) = some cs.length := by rw [hl16]; exact tx_size
      have qu : (Tryd.prog.info? 35).map (·.size) = some us.length := by rw [ul]; exact tx_size
      clear hSx H8
      refine wp_region_held_drew (S := fun W => W.rangeAt w.heap.size 0 cs ∧ W.rangeAt w7.heap.size 0 us) (by kernel_rfl) ?_ (fun hHeld => ?_)
      · exact HSX.out _ HD8.out.1 HD8.out.2.2
      refine wpAnyH_take (i := 0) (oi := { dst := some 42, op := Op.load 35 (Operand.tmp 1), type := 35, pos := "law.go:151", after := #[], guard := none }) (v := .agg cs.toArray) rfl (by kernel_rfl) (by kernel_rfl) (by kernel_rfl) (fun _ _ _ h => h) (yieldsIf_load_mid rfl 35 _ rfl w.heap.size 0 rfl cs _ (fun _ h => h.1) Tryd.underlying35 rfl qc) (by assumption) ?_
      try simp only [Act.put, List.setIfInBounds_toArray, List.set_cons_zero, List.set_cons_succ]
      refine wpAnyH_take (i := 2) (oi := { dst := some 44, op := Op.load 35 (Operand.tmp 7), type := 35, pos := "law.go:151", after := #[], guard := none }) (v := .agg us.toArray) rfl (by kernel_rfl) (by kernel_rfl) (by kernel_rfl) (fun _ _ _ h => h) (yieldsIf_load_mid rfl 35 _ rfl w7.heap.size 0 rfl us _ (fun _ h => h.2) Tryd.underlying35 rfl qu) (by assumption) ?_
      try simp only [Act.put, List.setIfInBounds_toArray, List.set_cons_zero, List.set_cons_succ]
      clear hHeld
      refine wpAnyH_ready (rs := [1]) (by kernel_rfl) (by simp) ?_
      refine AllReadyH.cons (o := { dst := some 43, op := Op.call { callee := Callee.value (Operand.func 7), args := #[Operand.tmp 42], argTypes := #[35] }, type := 35, pos := "law.go:151", after := #[{ on := 0, ground := Ground.data }], guard := none }) rfl (fun K hK => ?_) AllReadyH.nil
      go_simp
      refine (copyTxn_any cs t _ HD8.out.1.tx HP.out).mono ?_
      rintro _ w9 ⟨fs, rfl, hfs, b⟩
      have H9 : Hid (BkIn w cs rc t w9 ∧ SeesTx w9 us t ∧ w9.heap[w7.heap.size]? = some (.cells us.toArray 35 (0, 0)) ∧ SeesTx w9 (txHead t ++ fs) t) := ⟨HD8.out.1.later b, HD8.out.2.1.below b (Nat.le_refl _), (Below.kept b).heap HD8.out.2.2 (by have := lt_of_block HD8.out.2.2; omega), ⟨fs, rfl, hfs.sees⟩⟩
      clear b hfs HD8
      refine hK.out _ _ (HSX.out _ H9.out.1 H9.out.2.2.1) (fun _ => ?_)
      clear hK K
      refine wpAnyH_ready (rs := [3]) (by kernel_rfl) (by simp) ?_
      refine AllReadyH.cons (o := { dst := some 45, op := Op.call { callee := Callee.value (Operand.func 10), args := #[Operand.tmp 43, Operand.tmp 44], argTypes := #[35, 35] }, type := 4, pos := "law.go:151", after := #[{ on := 1, ground := Ground.data }, { on := 2, ground := Ground.data }, { on := 1, ground := Ground.chain }], guard := none }) rfl (fun K hK => ?_) AllReadyH.nil
      go_simp
      refine (same_same (txHead t ++ fs) us t _ H9.out.2.2.2 H9.out.2.1).mono ?_
      rintro _ w10 ⟨rfl, b⟩
      have H10 : Hid (BkIn w cs rc t w10 ∧ SeesTx w10 us t ∧ w10.heap[w7.heap.size]? = some (.cells us.toArray 35 (0, 0))) := ⟨H9.out.1.later b, H9.out.2.1.below b (Nat.le_refl _), (Below.kept b).heap H9.out.2.2.1 (by have := lt_of_block H9.out.2.2.1; omega)⟩
      clear b H9
      refine hK.out _ _ (HSX.out _ H10.out.1 H10.out.2.2) (fun hHeld => ?_)
      clear hK K
      refine wpAnyH_take (i := 4) (oi := { dst := some 9, op := Op.assign (Operand.tmp 45), type := 4, pos := "law.go:151", after := #[{ on := 3, ground := Ground.data }, { on := 3, ground := Ground.chain }, { on := 0, ground := Ground.phase }, { on := 1, ground := Ground.phase }, { on := 2, ground := Ground.phase }, { on := 3, ground := Ground.phase }], guard := none }) (v := ?_) rfl (by kernel_rfl) (by kernel_rfl) (by kernel_rfl) (fun _ _ _ h => h) (Or.inl ⟨by rfl, ?_⟩) (by assumption) ?_
      rotate_left
      · (intro w hSw; (try dsimp only at hSw); go_simp) <;> with_reducible rfl
      try simp only [Act.put, List.setIfInBounds_toArray, List.set_cons_zero, List.set_cons_succ]
      clear hHeld
      refine wpAnyH_done (by kernel_rfl) ?_ _
      have l16 := H10.out.1.row
      have l16' := H10.out.2.2
      go_wp2_with (first | (refine wpList_load_rowG (by rfl) 35 _ rfl w.heap.size rfl 35 _ (0, 0) _ l16 Tryd.underlying35 rfl q16 ?_) | (refine wpList_load_rowG (by rfl) 35 _ rfl w7.heap.size rfl 35 _ (0, 0) _ l16' Tryd.underlying35 rfl q16' ?_))
      clear l16 l16'
      refine (eqTxn_same cs us t _ H10.out.1.tx H10.out.2.1).mono ?_
      rintro _ w11 ⟨rfl, b⟩
      have HF : Hid (Below w.heap.size w w11) := (H10.out.1.later b).bel
      clear b H10
      have hlen := HLN.out
      go_wp2_with fail
      rw [show decide ((L : Int) ≤ 4096) = true from decide_eq_true (by omega)]
      go_ret
      exact ⟨rfl, HF.out⟩
  · clear hbl
    go_wp2_with fail
    go_ret
    exact ⟨rfl, H2.out.bel⟩
end Go.Proofs.YtgaepncccfipeaaDoor
