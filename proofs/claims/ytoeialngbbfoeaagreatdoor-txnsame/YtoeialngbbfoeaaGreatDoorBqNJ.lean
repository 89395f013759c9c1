/- TxnSame of the statements of layer 4, its first part. -/
import Derived.Test.YtoeialngbbfoeaaGreatDoorBqMJ
import Derived.Test.YtoeialngbbfoeaaGreatDoorBqDJ
import Derived.Test.YtoeialngbbfoeaaGreatDoorBqEJ
import Derived.Test.YtoeialngbbfoeaaGreatDoorWdHJ
import Derived.Test.YtoeialngbbfoeaaGreatDoorWdGJ
import Derived.Test.YtoeialngbbfoeaaGreatDoorChCJ
import Derived.Test.YtoeialngbbfoeaaGreatDoorCopyXJ
import Derived.Test.YtoeialngbbfoeaaGreatDoorWorks4J
import Derived.Deep.CutRange
import Derived.Deep.MidRow
namespace Go.Proofs.YtoeialngbbfoeaaGreatDoor
open Go.RowKit Go.Shelf
set_option maxRecDepth 8000

theorem tx_cell1 {w : World} {cs : List Value} {t : TxD} (h : SeesTx w cs t) : cs.toArray.all (·.oneCell') = true ∧ cs.length = 16 := by
  obtain ⟨rc, rfl, hr⟩ := h
  obtain ⟨q0, q1, d0, d1, d2, a0, a1, a2, q4, q5, q6, q7, q8, e0, e1, e2, o0, o1, o2, rfl⟩ := rq_forms hr
  exact ⟨by simp [txHead, Value.oneCell'], rfl⟩
theorem tx_qsz {w : World} {cs : List Value} {t : TxD} (h : SeesTx w cs t) : (Tryz.prog.info? 35).map (·.size) = some cs.toArray.size := by
  rw [List.size_toArray, (tx_cell1 h).2]; exact tx_size

theorem tx_len {w : World} {cs : List Value} {t : TxD} (h : SeesTx w cs t) : (Tryz.prog.info? 35).map (·.size) = some cs.length := by
  rw [(tx_cell1 h).2]; exact tx_size
theorem row_mid {W : World} {b : Nat} {T : TypeId} {cs : List Value} (h : W.heap[b]? = some (.cells cs.toArray T (0, 0))) : W.rangeAt b 0 cs := fun j y hj => by
  rw [cell_of_row _ _ _ _ _ _ h, List.getElem?_toArray, Nat.zero_add]
  exact hj

theorem rq_len {w : World} {cs : List Value} {r : Rq} (h : SeesRq w cs r) : (Tryz.prog.info? 33).map (·.size) = some cs.length := by
  rw [h.len]; exact rq_size

/-- A Bag and its lists stand where only new memory is made. -/
theorem bagLater {W W' : World} {g B lo hi : Nat} {V : QV} {L : QL} (h : BagQ W g V L B) (hl : LiesQ W lo hi L) (hB : B ≤ W.heap.size) (ho : ∀ k, V.own k → B ≤ k) (hh : hi ≤ g) (hb : Below W.heap.size W W') : BagQ W' g V L B ∧ LiesQ W' lo hi L ∧ B ≤ W'.heap.size ∧ ∀ k, V.own k → B ≤ k := by
  have hg := lt_of_block h.row
  exact ⟨h.kept (Below.kept hb) (fun e => by have e1 : W.heap.size ≤ g := e; omega) (fun k e e' => by have e1 : W.heap.size ≤ k := e'; have := (h.owns e).2; omega), hl.kept (Below.kept hb) (fun k _ k2 e => by have e1 : W.heap.size ≤ k := e; omega), Nat.le_trans hB hb.size, ho⟩

/-- The request of a box: where its cells lie. -/
theorem tx_mid {W : World} {b : Nat} {t : TxD} {rc : List Value} (h : W.heap[b]? = some (.cells (txHead t ++ rc).toArray 35 (0, 0))) : W.rangeAt b 5 rc := fun j y hj => by
  rw [cell_of_row _ _ _ _ _ _ h, List.getElem?_toArray, List.getElem?_append_right (by simp [txHead])]
  simpa [txHead] using hj

abbrev zTxA : Array Value := #[.int .u32 0, .int .u32 0, .int .i8 0, .int .u32 0, .int .i64 0, .int .i8 0, .string ⟨#[]⟩, .slice none 0 0, .slice none 0 0, .int .i32 0, .bool false, .bool false, .int .i64 0, .int .i32 0, .slice none 0 0, .slice none 0 0]
/-- A new row, written whole. -/
structure RowT (W U : World) (C : Array Value) : Prop where
  bel : Below W.heap.size W U
  box : U.heap[W.heap.size]? = some (.cells C 35 (0, 0))
  size : U.heap.size = W.heap.size + 1
theorem rowT (W : World) (C : Array Value) : RowT W ((W.alloc (.cells zTxA 35)).setRow W.heap.size C) C ∧ (W.alloc (.cells zTxA 35)).heap[W.heap.size]? = some (.cells zTxA 35 (0, 0)) := by
  have s1 : (W.alloc (.cells zTxA 35)).heap[W.heap.size]? = some (.cells zTxA 35 (0, 0)) := heap_alloc_new _ _
  have k2 : Kept (W.alloc (.cells zTxA 35)) ((W.alloc (.cells zTxA 35)).setRow W.heap.size C) (fun k => k = W.heap.size) := ⟨rfl, rfl, rfl, by simp, fun k _ hn => setRow_other _ _ _ _ hn⟩
  exact ⟨⟨(one_alloc W _).trans (k2.below (by simp) (fun k e => by omega)), setRow_heap _ _ _ _ _ _ s1, by simp⟩, s1⟩
theorem RowT.wx {W0 W U : World} {t : TxD} {xs : List Value} (h : RowT W U (txHead t ++ xs).toArray) (hq : WidQ W (fun k => W0.heap.size ≤ k ∧ k < W.heap.size) xs t.rq) : Wx U W0.heap.size W.heap.size t xs :=
  ⟨WidQ.kept (F' := fun k => W0.heap.size ≤ k ∧ k < W.heap.size) (Below.kept h.bel) (fun k hq => ⟨fun e => by have e1 : W.heap.size ≤ k := e; omega, hq⟩) hq, h.box⟩
theorem RowT.cx {W0 W U : World} {t : TxD} {xs : List Value} (h : RowT W U (txHead t ++ xs).toArray) (hq : OwnQ W W0.heap.size W.heap.size xs t.rq) : Cx U W0.heap.size W.heap.size t xs :=
  ⟨OwnQ.kept (Below.kept h.bel) hq (fun k _ k2 e => by have e1 : W.heap.size ≤ k := e; omega), h.box⟩

/-- Behind turned: the same box, its request another one in the same blocks. -/
structure Rx (W : World) (p M : Nat) (t : TxD) (xs : List Value) : Prop where
  q : RqIn W (fun k => p ≤ k ∧ k < M) xs t.rq
  box : W.heap[M]? = some (.cells (txHead t ++ xs).toArray 35 (0, 0))
theorem Rx.later {W W' : World} {p M : Nat} {t : TxD} {xs : List Value} (h : Rx W p M t xs) (hb : Below W.heap.size W W') : Rx W' p M t xs :=
  ⟨RqIn.kept (F' := fun k => p ≤ k ∧ k < M) (Below.kept hb) (fun k hq => ⟨fun e => by have e1 : W.heap.size ≤ k := e; have := lt_of_block h.box; omega, hq⟩) h.q, (Below.kept hb).heap h.box (fun e => by have e1 : W.heap.size ≤ M := e; have := lt_of_block h.box; omega)⟩
theorem Rx.sees {W : World} {p M : Nat} {t : TxD} {xs : List Value} (h : Rx W p M t xs) : SeesTx W (txHead t ++ xs) t := ⟨_, rfl, h.q.sees⟩
theorem RowT.rx {W0 W U : World} {t : TxD} {xs : List Value} (h : RowT W U (txHead t ++ xs).toArray) (hq : RqIn W (fun k => W0.heap.size ≤ k ∧ k < W.heap.size) xs t.rq) : Rx U W0.heap.size W.heap.size t xs :=
  ⟨RqIn.kept (F' := fun k => W0.heap.size ≤ k ∧ k < W.heap.size) (Below.kept h.bel) (fun k hq => ⟨fun e => by have e1 : W.heap.size ≤ k := e; omega, hq⟩) hq, h.box⟩
theorem turned_rq (F : Nat → Prop) (r : Rq) (cs : List Value) (w : World) (h : WidQ w F cs r) (hp : r.parts ≤ 20000) (hg : r.good) (hF : ∀ k, F k → k < w.heap.size) :
    Calls Tryz.prog 13 #[.agg cs.toArray] w fun e w' => e = .returned (.tuple #[]) ∧ Turns w w' ∧ Kept w w' F := by
  cases r with
  | mk f n ops => exact turned_any F f n ops cs w h hp hg.1 hF

theorem take_addQ (l m : List Value) : (l ++ m).take 600 = (l.take 600 ++ m).take 600 := by
  by_cases h : l.length ≤ 600
  · rw [List.take_of_length_le h]
  · rw [List.take_append_of_le_length (by omega), List.take_append_of_le_length (by rw [List.length_take]; omega), List.take_take]; simp
theorem QL.cut_add (L M N : QL) : ((L.add M).add N).cut = ((L.cut.add M).add N).cut := by
  simp only [QL.add, QL.cut, List.append_assoc]
  rw [take_addQ L.b, take_addQ L.i, take_addQ L.a, take_addQ L.r, take_addQ L.t]

/-- A load behind a guard that lets it by. -/
theorem wpList_load_midG {P : Program} {ops : Array Oper} {rest : List Oper} {op : Oper} {a : Act} {w : World} {Q : Exit → Act → World → Prop} (hwt : Region.wanted op (yielded ops a.tmps) = true) (ty : TypeId) (x : Operand) (ho : op.op = .load ty x)
    (b o : Nat) (hx : a.eval x = .pointer (some ⟨b, o, none⟩)) (cs : List Value) (d : TypeDesc) (hc : w.rangeAt b o cs)
    (hu : P.underlying ty = some d) (hd : d.isRow = true) (hi : (P.info? ty).map (·.size) = some cs.length)
    (h : wpList P ops Q rest (a.put op.dst (.agg cs.toArray)) w) : wpList P ops Q (op :: rest) a w :=
  wpList_step fun K hK => by rw [if_pos hwt]; exact wp_load_mid ty x ho b o hx cs d hc hu hd hi (hK _ _ h)

set_option maxHeartbeats 4000000 in
theorem txnSame_walk (cs ds : List Value) (t t' : TxD) (w : World) (hn : Nam w) (ht : Tab w) (hg0 : 1 < w.heap.size) (h : SeesTx w cs t) (h' : SeesTx w ds t') (hg : t.good) (hg' : t'.good) :
    Calls Tryz.prog 3 #[.agg cs.toArray, .agg ds.toArray] w fun r w' => r = .returned (.bool true) ∧ Below w.heap.size w w' := by
  have HLA : Hid (∀ (t : TxD) (hg : t.good) W rc, SeesRq W rc t.rq → Calls Tryz.prog 5 #[.agg rc.toArray] W fun e w' => ∃ b : Bool, e = .returned (.bool b) ∧ (b = false → t.rq.parts ≤ 20000) ∧ Below W.heap.size W w') := fun t hg W rc hh => large_any t.rq rc W hh hg.rq
  have HG : Hid _ := And.intro hg hg'
  have qx := tx_qsz h
  have qy := tx_qsz h'
  obtain ⟨rc, rfl, hr⟩ := h
  obtain ⟨rd, rfl, hr'⟩ := h'
  have ql : (Tryz.prog.info? 33).map (·.size) = some rc.length := by rw [hr.len]; exact rq_size
  have ql' : (Tryz.prog.info? 33).map (·.size) = some rd.length := by rw [hr'.len]; exact rq_size
  obtain ⟨V, eV⟩ : ∃ V, V = (w.alloc (.cells (txHead t ++ rc).toArray 35)).alloc (.cells (txHead t' ++ rd).toArray 35) := ⟨_, rfl⟩
  have HV : Hid (Below w.heap.size w V ∧ V.heap.size = w.heap.size + 2) := by subst eV; exact ⟨two_alloc _ _ _, by simp⟩
  have HR : Hid (∀ W, Below V.heap.size V W → W.heap[w.heap.size]? = some (.cells (txHead t ++ rc).toArray 35 (0, 0)) ∧ W.heap[w.heap.size + 1]? = some (.cells (txHead t' ++ rd).toArray 35 (0, 0))) := fun W hW => by
    have hs := HV.out.2
    have r1 : V.heap[w.heap.size]? = some (.cells (txHead t ++ rc).toArray 35 (0, 0)) := by subst eV; exact two_rowsQ1 _ _ _
    have r2 : V.heap[w.heap.size + 1]? = some (.cells (txHead t' ++ rd).toArray 35 (0, 0)) := by subst eV; exact two_rowsQ2 _ _ _
    exact ⟨(Below.kept hW).heap r1 (fun e => by have e1 : V.heap.size ≤ w.heap.size := e; omega), (Below.kept hW).heap r2 (fun e => by have e1 : V.heap.size ≤ w.heap.size + 1 := e; omega)⟩
  have HD : Hid (∀ W', Below V.heap.size V W' → Below w.heap.size w W' ∧ Nam W' ∧ Tab W' ∧ 1 < W'.heap.size ∧ SeesRq W' rc t.rq ∧ SeesRq W' rd t'.rq) := fun W' hW => by
    have hb := HV.out.1.trans (hW.mono HV.out.1.size)
    exact ⟨hb, hn.below hb hn.lt, ht.below hb hg0, Nat.lt_of_lt_of_le hg0 hb.size, hr.later hb (Nat.le_refl _), hr'.later hb (Nat.le_refl _)⟩
  have HE : Hid _ := eV
  clear eV hn ht hg0 hr hr' hg hg'
  go_enter Tryz.func3, Tryz.ntmps3
  go_upto_region 1 with fail
  rw [← HE.out]
  clear HE
  go_wp2_with fail
  refine (works4_any _ (HD.out _ (Below.refl _ _)).2.1).mono ?_
  rintro _ w1 ⟨rfl, b⟩
  have HB1 : Hid (Below V.heap.size V w1) := b
  clear b
  have k1 := tx_mid (HR.out _ HB1.out).1
  go_wp2_with (refine wpList_load_mid rfl 33 _ rfl w.heap.size 5 rfl rc _ k1 Tryz.underlying33 rfl ql ?_)
  refine (HLA.out t HG.out.1 _ rc (HD.out _ HB1.out).2.2.2.2.1).mono ?_
  rintro _ w2 ⟨bl, rfl, hbl, b⟩
  have HB2 : Hid (Below V.heap.size V w2) := HB1.out.trans (b.mono HB1.out.size)
  clear b HB1 k1
  cases bl
  · have HP : Hid (t.rq.parts ≤ 20000) := hbl rfl
    clear hbl
    have k1 := tx_mid (HR.out _ HB2.out).2
    go_wp2_with (refine wpList_load_midG (by kernel_rfl) 33 _ rfl (w.heap.size + 1) 5 rfl rd _ k1 Tryz.underlying33 rfl ql' ?_)
    refine (HLA.out t' HG.out.2 _ rd (HD.out _ HB2.out).2.2.2.2.2).mono ?_
    rintro _ w3 ⟨bl, rfl, hbl, b⟩
    have HB3 : Hid (Below V.heap.size V w3) := HB2.out.trans (b.mono HB2.out.size)
    clear b HB2 k1
    cases bl
    · have HP' : Hid (t'.rq.parts ≤ 20000) := hbl rfl
      clear hbl HLA
      have HB : Hid (Below V.heap.size V w3) := HB3.out
      clear HB3
      have hr_a := (HR.out _ HB.out).1
      have hq_a := (tx_len ⟨_, rfl, (HD.out _ HB.out).2.2.2.2.1⟩)
      go_wp2_with (refine wpList_load_midG (by kernel_rfl) 35 _ rfl w.heap.size 0 rfl (txHead t ++ rc) _ (row_mid hr_a) Tryz.underlying35 rfl hq_a ?_)
      clear hr_a hq_a
      refine (wideTxn_any _ t _ ⟨_, rfl, (HD.out _ HB.out).2.2.2.2.1⟩ HP.out (HD.out _ HB.out).2.2.1 (HD.out _ HB.out).2.2.2.1).mono ?_
      rintro _ w4 ⟨xs, rfl, hq, b⟩
      have hsx : SeesTx w4 (txHead t ++ xs) t := ⟨_, rfl, hq.sees HP.out⟩
      have x1 := (tx_cell1 hsx).1
      have xl : zTxA.size = (txHead t ++ xs).toArray.size := by
        show 16 = _
        rw [List.size_toArray, (tx_cell1 hsx).2]
      have q4 := tx_qsz hsx
      obtain ⟨R4, s1⟩ := rowT w4 (txHead t ++ xs).toArray
      go_upto_region 5 with (refine wpList_store_row rfl 35 _ _ rfl w4.heap.size (txHead t ++ xs).toArray rfl rfl 35 _ s1 q4 (by first | exact xl | exact xl.symm) x1 ?_)
      obtain ⟨U4, e4⟩ : ∃ U, U = (w4.alloc (.cells zTxA 35)).setRow w4.heap.size (txHead t ++ xs).toArray := ⟨_, rfl⟩
      rw [← e4]
      rw [← e4] at R4
      obtain ⟨p0, hp0⟩ : ∃ p, p = w3.heap.size := ⟨_, rfl⟩
      obtain ⟨M0, hm0⟩ : ∃ M, M = w4.heap.size := ⟨_, rfl⟩
      have hnew : Wx U4 w3.heap.size w4.heap.size t xs := R4.wx hq
      have bb := b.trans (R4.bel.mono b.size)
      have hor : V.heap.size ≤ w3.heap.size ∧ w3.heap.size ≤ w4.heap.size ∧ w4.heap.size < U4.heap.size := ⟨HB.out.size, b.size, by rw [R4.size]; omega⟩
      replace HB : Hid (Below V.heap.size V U4) := HB.out.trans (bb.mono HB.out.size)
      rw [← hp0, ← hm0] at hnew hor
      rw [← hm0]
      have HX : Hid (Wx U4 p0 M0 t xs) := hnew
      have HOx : Hid (V.heap.size ≤ p0 ∧ p0 ≤ M0 ∧ M0 < U4.heap.size) := by
        have := hor
        exact ⟨hor.1, hor.2.1, hor.2.2⟩
      clear hp0 hm0 hnew bb hor e4 R4 s1 hsx x1 xl q4 hq b
      have HLTx : Hid (M0 < U4.heap.size) := lt_of_block HX.out.box
      have hr_b := (HR.out _ HB.out).2
      have hq_b := (tx_len ⟨_, rfl, (HD.out _ HB.out).2.2.2.2.2⟩)
      go_wp2_with (refine wpList_load_midG (by kernel_rfl) 35 _ rfl (w.heap.size + 1) 0 rfl (txHead t' ++ rd) _ (row_mid hr_b) Tryz.underlying35 rfl hq_b ?_)
      clear hr_b hq_b
      refine (wideTxn_any _ t' _ ⟨_, rfl, (HD.out _ HB.out).2.2.2.2.2⟩ HP'.out (HD.out _ HB.out).2.2.1 (HD.out _ HB.out).2.2.2.1).mono ?_
      rintro _ w5 ⟨ys, rfl, hq, b⟩
      have hsx : SeesTx w5 (txHead t' ++ ys) t' := ⟨_, rfl, hq.sees HP'.out⟩
      have x1 := (tx_cell1 hsx).1
      have xl : zTxA.size = (txHead t' ++ ys).toArray.size := by
        show 16 = _
        rw [List.size_toArray, (tx_cell1 hsx).2]
      have q4 := tx_qsz hsx
      obtain ⟨R4, s1⟩ := rowT w5 (txHead t' ++ ys).toArray
      go_upto_region 6 with (refine wpList_store_row rfl 35 _ _ rfl w5.heap.size (txHead t' ++ ys).toArray rfl rfl 35 _ s1 q4 (by first | exact xl | exact xl.symm) x1 ?_)
      obtain ⟨U5, e4⟩ : ∃ U, U = (w5.alloc (.cells zTxA 35)).setRow w5.heap.size (txHead t' ++ ys).toArray := ⟨_, rfl⟩
      rw [← e4]
      rw [← e4] at R4
      obtain ⟨p1, hp0⟩ : ∃ p, p = U4.heap.size := ⟨_, rfl⟩
      obtain ⟨M1, hm0⟩ : ∃ M, M = w5.heap.size := ⟨_, rfl⟩
      have hnew : Wx U5 U4.heap.size w5.heap.size t' ys := R4.wx hq
      have bb := b.trans (R4.bel.mono b.size)
      have hor : V.heap.size ≤ U4.heap.size ∧ U4.heap.size ≤ w5.heap.size ∧ w5.heap.size < U5.heap.size := ⟨HB.out.size, b.size, by rw [R4.size]; omega⟩
      replace HB : Hid (Below V.heap.size V U5) := HB.out.trans (bb.mono HB.out.size)
      replace HX : Hid (Wx U5 p0 M0 t xs) := HX.out.later bb
      rw [← hp0, ← hm0] at hnew hor
      rw [← hm0]
      have HY : Hid (Wx U5 p1 M1 t' ys) := hnew
      have HOy : Hid (V.heap.size ≤ p1 ∧ p1 ≤ M1 ∧ M1 < U5.heap.size ∧ M0 < p1) := by
        have := hor
        have hlast := HOx.out
        have hl2 := lt_of_block HX.out.box
        exact ⟨hor.1, hor.2.1, hor.2.2, by rw [hp0]; exact HLTx.out⟩
      clear hp0 hm0 hnew bb hor e4 R4 s1 hsx x1 xl q4 hq b HLTx
      have HLTy : Hid (M1 < U5.heap.size) := lt_of_block HY.out.box
      have hr_x := HX.out.box
      have hq_x := (tx_len (HX.out.sees HP.out))
      have hr_y := HY.out.box
      have hq_y := (tx_len (HY.out.sees HP'.out))
      go_wp2_with (first | (refine wpList_load_midG (by kernel_rfl) 35 _ rfl M0 0 rfl (txHead t ++ xs) _ (row_mid hr_x) Tryz.underlying35 rfl hq_x ?_) | (refine wpList_load_midG (by kernel_rfl) 35 _ rfl M1 0 rfl (txHead t' ++ ys) _ (row_mid hr_y) Tryz.underlying35 rfl hq_y ?_))
      clear hr_x hq_x hr_y hq_y
      refine (same_anyT t t' _ _ _ (HX.out.sees HP.out) (HY.out.sees HP'.out) HG.out.1.rq HG.out.2.rq).mono ?_
      rintro _ w6 ⟨bs, rfl, hbs, b⟩
      replace HB : Hid (Below V.heap.size V w6) := HB.out.trans (b.mono HB.out.size)
      replace HX : Hid (Wx w6 p0 M0 t xs) := HX.out.later b
      replace HY : Hid (Wx w6 p1 M1 t' ys) := HY.out.later b
      replace HLTy : Hid (M1 < w6.heap.size) := lt_of_block HY.out.box
      clear b
      have HBS : Hid (bs = true ↔ t = t') := hbs
      clear hbs
      go_upto_region 7 with fail
      have hr_x := HX.out.box
      have hq_x := (tx_len (HX.out.sees HP.out))
      go_wp2_with (refine wpList_load_midG (by kernel_rfl) 35 _ rfl M0 0 rfl (txHead t ++ xs) _ (row_mid hr_x) Tryz.underlying35 rfl hq_x ?_)
      clear hr_x hq_x
      refine (txClone_own _ t _ (HX.out.sees HP.out) HP.out).mono ?_
      rintro _ w7 ⟨cs, rfl, hq, b⟩
      have hsx : SeesTx w7 (txHead t ++ cs) t := ⟨_, rfl, hq.sees⟩
      have x1 := (tx_cell1 hsx).1
      have xl : zTxA.size = (txHead t ++ cs).toArray.size := by
        show 16 = _
        rw [List.size_toArray, (tx_cell1 hsx).2]
      have q4 := tx_qsz hsx
      obtain ⟨R4, s1⟩ := rowT w7 (txHead t ++ cs).toArray
      go_upto_region 8 with (refine wpList_store_row rfl 35 _ _ rfl w7.heap.size (txHead t ++ cs).toArray rfl rfl 35 _ s1 q4 (by first | exact xl | exact xl.symm) x1 ?_)
      obtain ⟨U7, e4⟩ : ∃ U, U = (w7.alloc (.cells zTxA 35)).setRow w7.heap.size (txHead t ++ cs).toArray := ⟨_, rfl⟩
      rw [← e4]
      rw [← e4] at R4
      obtain ⟨p2, hp0⟩ : ∃ p, p = w6.heap.size := ⟨_, rfl⟩
      obtain ⟨M2, hm0⟩ : ∃ M, M = w7.heap.size := ⟨_, rfl⟩
      have hnew : Cx U7 w6.heap.size w7.heap.size t cs := R4.cx hq
      have bb := b.trans (R4.bel.mono b.size)
      have hor : V.heap.size ≤ w6.heap.size ∧ w6.heap.size ≤ w7.heap.size ∧ w7.heap.size < U7.heap.size := ⟨HB.out.size, b.size, by rw [R4.size]; omega⟩
      replace HB : Hid (Below V.heap.size V U7) := HB.out.trans (bb.mono HB.out.size)
      replace HX : Hid (Wx U7 p0 M0 t xs) := HX.out.later bb
      replace HY : Hid (Wx U7 p1 M1 t' ys) := HY.out.later bb
      rw [← hp0, ← hm0] at hnew hor
      rw [← hm0]
      have HCC : Hid (Cx U7 p2 M2 t cs) := hnew
      have HOc : Hid (V.heap.size ≤ p2 ∧ p2 ≤ M2 ∧ M2 < U7.heap.size ∧ M1 < p2) := by
        have := hor
        have hlast := HOy.out
        have hl2 := lt_of_block HY.out.box
        exact ⟨hor.1, hor.2.1, hor.2.2, by rw [hp0]; exact HLTy.out⟩
      clear hp0 hm0 hnew bb hor e4 R4 s1 hsx x1 xl q4 hq b HLTy
      have HLTc : Hid (M2 < U7.heap.size) := lt_of_block HCC.out.box
      have hr_x := HX.out.box
      have hq_x := (tx_len (HX.out.sees HP.out))
      go_wp2_with (refine wpList_load_midG (by kernel_rfl) 35 _ rfl M0 0 rfl (txHead t ++ xs) _ (row_mid hr_x) Tryz.underlying35 rfl hq_x ?_)
      clear hr_x hq_x
      refine (txClone_own _ t _ (HX.out.sees HP.out) HP.out).mono ?_
      rintro _ w8 ⟨ds, rfl, hq, b⟩
      have hsx : SeesTx w8 (txHead t ++ ds) t := ⟨_, rfl, hq.sees⟩
      have x1 := (tx_cell1 hsx).1
      have xl : zTxA.size = (txHead t ++ ds).toArray.size := by
        show 16 = _
        rw [List.size_toArray, (tx_cell1 hsx).2]
      have q4 := tx_qsz hsx
      obtain ⟨R4, s1⟩ := rowT w8 (txHead t ++ ds).toArray
      go_upto_region 9 with (refine wpList_store_row rfl 35 _ _ rfl w8.heap.size (txHead t ++ ds).toArray rfl rfl 35 _ s1 q4 (by first | exact xl | exact xl.symm) x1 ?_)
      obtain ⟨U8, e4⟩ : ∃ U, U = (w8.alloc (.cells zTxA 35)).setRow w8.heap.size (txHead t ++ ds).toArray := ⟨_, rfl⟩
      rw [← e4]
      rw [← e4] at R4
      obtain ⟨p3, hp0⟩ : ∃ p, p = U7.heap.size := ⟨_, rfl⟩
      obtain ⟨M3, hm0⟩ : ∃ M, M = w8.heap.size := ⟨_, rfl⟩
      have hnew : Cx U8 U7.heap.size w8.heap.size t ds := R4.cx hq
      have bb := b.trans (R4.bel.mono b.size)
      have hor : V.heap.size ≤ U7.heap.size ∧ U7.heap.size ≤ w8.heap.size ∧ w8.heap.size < U8.heap.size := ⟨HB.out.size, b.size, by rw [R4.size]; omega⟩
      replace HB : Hid (Below V.heap.size V U8) := HB.out.trans (bb.mono HB.out.size)
      replace HX : Hid (Wx U8 p0 M0 t xs) := HX.out.later bb
      replace HY : Hid (Wx U8 p1 M1 t' ys) := HY.out.later bb
      replace HCC : Hid (Cx U8 p2 M2 t cs) := HCC.out.later bb
      rw [← hp0, ← hm0] at hnew hor
      rw [← hm0]
      have HDD : Hid (Cx U8 p3 M3 t ds) := hnew
      have HOd : Hid (V.heap.size ≤ p3 ∧ p3 ≤ M3 ∧ M3 < U8.heap.size ∧ M2 < p3) := by
        have := hor
        have hlast := HOc.out
        have hl2 := lt_of_block HCC.out.box
        exact ⟨hor.1, hor.2.1, hor.2.2, by rw [hp0]; exact HLTc.out⟩
      clear hp0 hm0 hnew bb hor e4 R4 s1 hsx x1 xl q4 hq b HLTc
      have HLTd : Hid (M3 < U8.heap.size) := lt_of_block HDD.out.box
      have hr_x := HX.out.box
      have hq_x := (tx_len (HX.out.sees HP.out))
      have hr_c := HCC.out.box
      have hq_c := (tx_len (HCC.out.sees))
      go_wp2_with (first | (refine wpList_load_midG (by kernel_rfl) 35 _ rfl M0 0 rfl (txHead t ++ xs) _ (row_mid hr_x) Tryz.underlying35 rfl hq_x ?_) | (refine wpList_load_midG (by kernel_rfl) 35 _ rfl M2 0 rfl (txHead t ++ cs) _ (row_mid hr_c) Tryz.underlying35 rfl hq_c ?_))
      clear hr_x hq_x hr_c hq_c
      refine (same_anyT t t _ _ _ (HX.out.sees HP.out) (HCC.out.sees) HG.out.1.rq HG.out.1.rq).mono ?_
      rintro _ w9 ⟨bm, rfl, hbm, b⟩
      replace HB : Hid (Below V.heap.size V w9) := HB.out.trans (b.mono HB.out.size)
      replace HX : Hid (Wx w9 p0 M0 t xs) := HX.out.later b
      replace HY : Hid (Wx w9 p1 M1 t' ys) := HY.out.later b
      replace HCC : Hid (Cx w9 p2 M2 t cs) := HCC.out.later b
      replace HDD : Hid (Cx w9 p3 M3 t ds) := HDD.out.later b
      replace HLTd : Hid (M3 < w9.heap.size) := lt_of_block HDD.out.box
      clear b
      obtain rfl : bm = true := hbm.2 rfl
      clear hbm
      go_upto_region 10 with fail
      have hr_x := HX.out.box
      have hq_x := (tx_len (HX.out.sees HP.out))
      have hr_a := (HR.out _ HB.out).1
      have hq_a := (tx_len ⟨_, rfl, (HD.out _ HB.out).2.2.2.2.1⟩)
      go_wp2_with (first | (refine wpList_load_midG (by kernel_rfl) 35 _ rfl M0 0 rfl (txHead t ++ xs) _ (row_mid hr_x) Tryz.underlying35 rfl hq_x ?_) | (refine wpList_load_midG (by kernel_rfl) 35 _ rfl w.heap.size 0 rfl (txHead t ++ rc) _ (row_mid hr_a) Tryz.underlying35 rfl hq_a ?_))
      clear hr_x hq_x hr_a hq_a
      refine (eqTxn_same _ _ t _ (HX.out.sees HP.out) ⟨_, rfl, (HD.out _ HB.out).2.2.2.2.1⟩).mono ?_
      rintro _ w10 ⟨rfl, b⟩
      replace HB : Hid (Below V.heap.size V w10) := HB.out.trans (b.mono HB.out.size)
      replace HX : Hid (Wx w10 p0 M0 t xs) := HX.out.later b
      replace HY : Hid (Wx w10 p1 M1 t' ys) := HY.out.later b
      replace HCC : Hid (Cx w10 p2 M2 t cs) := HCC.out.later b
      replace HDD : Hid (Cx w10 p3 M3 t ds) := HDD.out.later b
      replace HLTd : Hid (M3 < w10.heap.size) := lt_of_block HDD.out.box
      clear b
      have hr_y := HY.out.box
      have hq_y := (tx_len (HY.out.sees HP'.out))
      have hr_b := (HR.out _ HB.out).2
      have hq_b := (tx_len ⟨_, rfl, (HD.out _ HB.out).2.2.2.2.2⟩)
      go_wp2_with (first | (refine wpList_load_midG (by kernel_rfl) 35 _ rfl M1 0 rfl (txHead t' ++ ys) _ (row_mid hr_y) Tryz.underlying35 rfl hq_y ?_) | (refine wpList_load_midG (by kernel_rfl) 35 _ rfl (w.heap.size + 1) 0 rfl (txHead t' ++ rd) _ (row_mid hr_b) Tryz.underlying35 rfl hq_b ?_))
      clear hr_y hq_y hr_b hq_b
      refine (eqTxn_same _ _ t' _ (HY.out.sees HP'.out) ⟨_, rfl, (HD.out _ HB.out).2.2.2.2.2⟩).mono ?_
      rintro _ w11 ⟨rfl, b⟩
      replace HB : Hid (Below V.heap.size V w11) := HB.out.trans (b.mono HB.out.size)
      replace HX : Hid (Wx w11 p0 M0 t xs) := HX.out.later b
      replace HY : Hid (Wx w11 p1 M1 t' ys) := HY.out.later b
      replace HCC : Hid (Cx w11 p2 M2 t cs) := HCC.out.later b
      replace HDD : Hid (Cx w11 p3 M3 t ds) := HDD.out.later b
      replace HLTd : Hid (M3 < w11.heap.size) := lt_of_block HDD.out.box
      clear b
      have hr_x := HX.out.box
      have hq_x := rq_len (HX.out.q.sees HP.out)
      go_wp2_with (refine wpList_load_midG (by kernel_rfl) 33 _ rfl M0 5 rfl xs _ (tx_mid hr_x) Tryz.underlying33 rfl hq_x ?_)
      clear hr_x hq_x
      refine (spareRequest_any t.rq _ xs _ HX.out.q (fun k hk => by have := lt_of_block HX.out.box; omega) HP.out (HD.out _ HB.out).2.2.1 (HD.out _ HB.out).2.2.2.1).mono ?_
      rintro _ w12 ⟨rfl, b⟩
      replace HB : Hid (Below V.heap.size V w12) := HB.out.trans (b.mono HB.out.size)
      replace HX : Hid (Wx w12 p0 M0 t xs) := HX.out.later b
      replace HY : Hid (Wx w12 p1 M1 t' ys) := HY.out.later b
      replace HCC : Hid (Cx w12 p2 M2 t cs) := HCC.out.later b
      replace HDD : Hid (Cx w12 p3 M3 t ds) := HDD.out.later b
      replace HLTd : Hid (M3 < w12.heap.size) := lt_of_block HDD.out.box
      clear b
      have hr_y := HY.out.box
      have hq_y := rq_len (HY.out.q.sees HP'.out)
      go_wp2_with (refine wpList_load_midG (by kernel_rfl) 33 _ rfl M1 5 rfl ys _ (tx_mid hr_y) Tryz.underlying33 rfl hq_y ?_)
      clear hr_y hq_y
      refine (spareRequest_any t'.rq _ ys _ HY.out.q (fun k hk => by have := lt_of_block HY.out.box; omega) HP'.out (HD.out _ HB.out).2.2.1 (HD.out _ HB.out).2.2.2.1).mono ?_
      rintro _ w13 ⟨rfl, b⟩
      replace HB : Hid (Below V.heap.size V w13) := HB.out.trans (b.mono HB.out.size)
      replace HX : Hid (Wx w13 p0 M0 t xs) := HX.out.later b
      replace HY : Hid (Wx w13 p1 M1 t' ys) := HY.out.later b
      replace HCC : Hid (Cx w13 p2 M2 t cs) := HCC.out.later b
      replace HDD : Hid (Cx w13 p3 M3 t ds) := HDD.out.later b
      replace HLTd : Hid (M3 < w13.heap.size) := lt_of_block HDD.out.box
      clear b
      go_upto_region 11 with fail
      have hr_c := HCC.out.box
      have hq_c := (tx_len (HCC.out.sees))
      have hr_a := (HR.out _ HB.out).1
      have hq_a := (tx_len ⟨_, rfl, (HD.out _ HB.out).2.2.2.2.1⟩)
      go_wp2_with (first | (refine wpList_load_midG (by kernel_rfl) 35 _ rfl M2 0 rfl (txHead t ++ cs) _ (row_mid hr_c) Tryz.underlying35 rfl hq_c ?_) | (refine wpList_load_midG (by kernel_rfl) 35 _ rfl w.heap.size 0 rfl (txHead t ++ rc) _ (row_mid hr_a) Tryz.underlying35 rfl hq_a ?_))
      clear hr_c hq_c hr_a hq_a
      refine (eqTxn_same _ _ t _ (HCC.out.sees) ⟨_, rfl, (HD.out _ HB.out).2.2.2.2.1⟩).mono ?_
      rintro _ w14 ⟨rfl, b⟩
      replace HB : Hid (Below V.heap.size V w14) := HB.out.trans (b.mono HB.out.size)
      replace HX : Hid (Wx w14 p0 M0 t xs) := HX.out.later b
      replace HY : Hid (Wx w14 p1 M1 t' ys) := HY.out.later b
      replace HCC : Hid (Cx w14 p2 M2 t cs) := HCC.out.later b
      replace HDD : Hid (Cx w14 p3 M3 t ds) := HDD.out.later b
      replace HLTd : Hid (M3 < w14.heap.size) := lt_of_block HDD.out.box
      clear b
      have hr_d := HDD.out.box
      have hq_d := (tx_len (HDD.out.sees))
      have hr_a := (HR.out _ HB.out).1
      have hq_a := (tx_len ⟨_, rfl, (HD.out _ HB.out).2.2.2.2.1⟩)
      go_wp2_with (first | (refine wpList_load_midG (by kernel_rfl) 35 _ rfl M3 0 rfl (txHead t ++ ds) _ (row_mid hr_d) Tryz.underlying35 rfl hq_d ?_) | (refine wpList_load_midG (by kernel_rfl) 35 _ rfl w.heap.size 0 rfl (txHead t ++ rc) _ (row_mid hr_a) Tryz.underlying35 rfl hq_a ?_))
      clear hr_d hq_d hr_a hq_a
      refine (eqTxn_same _ _ t _ (HDD.out.sees) ⟨_, rfl, (HD.out _ HB.out).2.2.2.2.1⟩).mono ?_
      rintro _ w15 ⟨rfl, b⟩
      replace HB : Hid (Below V.heap.size V w15) := HB.out.trans (b.mono HB.out.size)
      replace HX : Hid (Wx w15 p0 M0 t xs) := HX.out.later b
      replace HY : Hid (Wx w15 p1 M1 t' ys) := HY.out.later b
      replace HCC : Hid (Cx w15 p2 M2 t cs) := HCC.out.later b
      replace HDD : Hid (Cx w15 p3 M3 t ds) := HDD.out.later b
      replace HLTd : Hid (M3 < w15.heap.size) := lt_of_block HDD.out.box
      clear b
      go_upto_region 12 with fail
      have HOO : Hid (V.heap.size ≤ p0 ∧ p0 ≤ M0 ∧ M0 < p1 ∧ p1 ≤ M1 ∧ M1 < p2 ∧ p2 ≤ M2 ∧ M2 < p3 ∧ p3 ≤ M3 ∧ M3 < w15.heap.size) := by
        have h1 := HOx.out
        have h2 := HOy.out
        have h3 := HOc.out
        have h4 := HOd.out
        have h5 := HLTd.out
        exact ⟨h1.1, h1.2.1, h2.2.2.2, h2.2.1, h3.2.2.2, h3.2.1, h4.2.2.2, h4.2.1, h5⟩
      clear HOx HOy HOc HOd HLTd
      go_upto_region 13 with fail
      obtain ⟨g, hgg⟩ : ∃ g, g = w15.heap.size := ⟨_, rfl⟩
      obtain ⟨WB, eB⟩ : ∃ W, W = w15.alloc (.cells #[nilQ, nilQ, nilQ, nilQ, nilQ, nilQ, nilQ, nilQ, nilQ, nilQ, nilQ, nilQ, nilQ, nilQ, nilQ, nilQ, nilQ, nilQ, nilQ, nilQ, nilQ] 63) := ⟨_, rfl⟩
      rw [← eB, ← hgg]
      have hbw : Below w15.heap.size w15 WB := by rw [eB]; exact one_alloc _ _
      have hgs : WB.heap.size = g + 1 := by rw [eB, hgg]; simp
      have HG0 : Hid (WB.heap.size = g + 1 ∧ M3 < g) := ⟨hgs, by have := HOO.out; omega⟩
      have HF0 : Hid (FarQ WB g WB.heap.size p2 M2 QV.nil QL.nil) := by
        have hrow : WB.heap[g]? = some (.cells (bagQ QV.nil) 63 (0, 0)) := by rw [eB, hgg]; exact heap_alloc_new _ _
        refine ⟨BagQ.new hrow, Nat.le_refl _, by have := HOO.out; have := HG0.out; omega, fun k k1 k2 => ⟨by have := HOO.out; have := HG0.out; omega, ?_⟩⟩
        rintro (e | e | e | e | e) <;> cases e
      replace HB : Hid (Below V.heap.size V WB) := HB.out.trans (hbw.mono HB.out.size)
      replace HX : Hid (Wx WB p0 M0 t xs) := HX.out.later hbw
      replace HY : Hid (Wx WB p1 M1 t' ys) := HY.out.later hbw
      replace HCC : Hid (Cx WB p2 M2 t cs) := HCC.out.later hbw
      replace HDD : Hid (Cx WB p3 M3 t ds) := HDD.out.later hbw
      clear eB hgg hbw hgs
      have hr_c := HCC.out.box
      have hq_c := rq_len (HCC.out.q.sees)
      go_wp2_with (refine wpList_load_midG (by kernel_rfl) 33 _ rfl M2 5 rfl cs _ (tx_mid hr_c) Tryz.underlying33 rfl hq_c ?_)
      clear hr_c hq_c
      refine (addRequest_any g WB.heap.size t.rq p2 M2 cs WB QV.nil QL.nil HF0.out HCC.out.q).mono ?_
      rintro _ w16 ⟨rfl, V1, D1, bg, st, ls⟩
      have hS : ∀ k, (k = g ∨ QV.nil.own k) → M3 < k := by
        rintro k (e | e | e | e | e | e)
        · have := HG0.out; omega
        all_goals cases e
      have HST : Hid (FarQ w16 g WB.heap.size p2 M2 V1 (QL.nil.add D1) ∧ BagStep WB w16 g QV.nil V1 ∧ LiesQ w16 p2 M2 D1 ∧ WB.heap.size ≤ w16.heap.size) := ⟨HF0.out.step st bg, st, ls, st.kept.size⟩
      replace HB : Hid (Below V.heap.size V w16) := HB.out.trans (st.kept.below HB.out.size (fun k e => by have := hS k e; have := HOO.out; omega))
      replace HX : Hid (Wx w16 p0 M0 t xs) := HX.out.kept st.kept (fun k _ _ e => by have := hS k e; have := HOO.out; omega) (fun e => by have := hS _ e; have := HOO.out; omega)
      replace HY : Hid (Wx w16 p1 M1 t' ys) := HY.out.kept st.kept (fun k _ _ e => by have := hS k e; have := HOO.out; omega) (fun e => by have := hS _ e; have := HOO.out; omega)
      replace HCC : Hid (Cx w16 p2 M2 t cs) := HCC.out.kept st.kept (fun k _ _ e => by have := hS k e; have := HOO.out; omega) (fun e => by have := hS _ e; have := HOO.out; omega)
      replace HDD : Hid (Cx w16 p3 M3 t ds) := HDD.out.kept st.kept (fun k _ _ e => by have := hS k e; have := HOO.out; omega) (fun e => by have := hS _ e; have := HOO.out; omega)
      clear bg st ls hS HF0
      go_upto_region 14 with fail
      have hpow : 1 < p2 := by have := (HD.out V (Below.refl _ _)).2.2.2.1; have := HOO.out; omega
      go_wp2_with fail
      refine (bagApart_q g WB.heap.size p2 M2 V1 (QL.nil.add D1).cut w16 HST.out.1.bag (by rw [QL.nil_add]; exact HST.out.2.2.1.cut) (List.length_take_le _ _) (List.length_take_le _ _) (List.length_take_le _ _) (List.length_take_le _ _) (List.length_take_le _ _) (HD.out _ HB.out).2.2.1 (HD.out _ HB.out).2.2.2.1 hpow).mono ?_
      rintro _ w17 ⟨rfl, sq⟩
      replace HB : Hid (Below V.heap.size V w17) := HB.out.trans (sq.kept.below HB.out.size (fun k e => by have e1 : p2 ≤ k ∧ k < M2 := e; have := HOO.out; omega))
      replace HX : Hid (Wx w17 p0 M0 t xs) := HX.out.kept sq.kept (fun k k1 k2 e => by have e1 : p2 ≤ k ∧ k < M2 := e; have := HOO.out; omega) (fun e => by have e1 : p2 ≤ M0 ∧ M0 < M2 := e; have := HOO.out; omega)
      replace HY : Hid (Wx w17 p1 M1 t' ys) := HY.out.kept sq.kept (fun k k1 k2 e => by have e1 : p2 ≤ k ∧ k < M2 := e; have := HOO.out; omega) (fun e => by have e1 : p2 ≤ M1 ∧ M1 < M2 := e; have := HOO.out; omega)
      replace HDD : Hid (Cx w17 p3 M3 t ds) := HDD.out.kept sq.kept (fun k k1 k2 e => by have e1 : p2 ≤ k ∧ k < M2 := e; have := HOO.out; omega) (fun e => by have e1 : p2 ≤ M3 ∧ M3 < M2 := e; have := HOO.out; omega)
      have HAP : Hid (BagQ w17 g V1 (QL.nil.add D1).cut WB.heap.size ∧ LiesQ w17 p2 M2 (QL.nil.add D1).cut ∧ WB.heap.size ≤ w17.heap.size ∧ ∀ k, V1.own k → WB.heap.size ≤ k) := ⟨sq.bag, sq.lies, Nat.le_trans HST.out.2.2.2 sq.kept.size, fun k e => (HST.out.1.bag.owns e).1⟩
      clear sq HST HCC hpow
      go_upto_region 15 with fail
      have hr_d := HDD.out.box
      have hq_d := (tx_len (HDD.out.sees))
      have hr_a := (HR.out _ HB.out).1
      have hq_a := (tx_len ⟨_, rfl, (HD.out _ HB.out).2.2.2.2.1⟩)
      go_wp2_with (first | (refine wpList_load_midG (by kernel_rfl) 35 _ rfl M3 0 rfl (txHead t ++ ds) _ (row_mid hr_d) Tryz.underlying35 rfl hq_d ?_) | (refine wpList_load_midG (by kernel_rfl) 35 _ rfl w.heap.size 0 rfl (txHead t ++ rc) _ (row_mid hr_a) Tryz.underlying35 rfl hq_a ?_))
      clear hr_d hq_d hr_a hq_a
      refine (eqTxn_same _ _ t _ (HDD.out.sees) ⟨_, rfl, (HD.out _ HB.out).2.2.2.2.1⟩).mono ?_
      rintro _ w18 ⟨rfl, b⟩
      replace HB : Hid (Below V.heap.size V w18) := HB.out.trans (b.mono HB.out.size)
      replace HX : Hid (Wx w18 p0 M0 t xs) := HX.out.later b
      replace HY : Hid (Wx w18 p1 M1 t' ys) := HY.out.later b
      replace HDD : Hid (Cx w18 p3 M3 t ds) := HDD.out.later b
      replace HAP : Hid (BagQ w18 g V1 (QL.nil.add D1).cut WB.heap.size ∧ LiesQ w18 p2 M2 (QL.nil.add D1).cut ∧ WB.heap.size ≤ w18.heap.size ∧ ∀ k, V1.own k → WB.heap.size ≤ k) := bagLater HAP.out.1 HAP.out.2.1 HAP.out.2.2.1 HAP.out.2.2.2 (by have := HOO.out; have := HG0.out; omega) b
      clear b
      have hr_x := HX.out.box
      have hq_x := (tx_len (HX.out.sees HP.out))
      have hr_a := (HR.out _ HB.out).1
      have hq_a := (tx_len ⟨_, rfl, (HD.out _ HB.out).2.2.2.2.1⟩)
      go_wp2_with (first | (refine wpList_load_midG (by kernel_rfl) 35 _ rfl M0 0 rfl (txHead t ++ xs) _ (row_mid hr_x) Tryz.underlying35 rfl hq_x ?_) | (refine wpList_load_midG (by kernel_rfl) 35 _ rfl w.heap.size 0 rfl (txHead t ++ rc) _ (row_mid hr_a) Tryz.underlying35 rfl hq_a ?_))
      clear hr_x hq_x hr_a hq_a
      refine (eqTxn_same _ _ t _ (HX.out.sees HP.out) ⟨_, rfl, (HD.out _ HB.out).2.2.2.2.1⟩).mono ?_
      rintro _ w19 ⟨rfl, b⟩
      replace HB : Hid (Below V.heap.size V w19) := HB.out.trans (b.mono HB.out.size)
      replace HX : Hid (Wx w19 p0 M0 t xs) := HX.out.later b
      replace HY : Hid (Wx w19 p1 M1 t' ys) := HY.out.later b
      replace HDD : Hid (Cx w19 p3 M3 t ds) := HDD.out.later b
      replace HAP : Hid (BagQ w19 g V1 (QL.nil.add D1).cut WB.heap.size ∧ LiesQ w19 p2 M2 (QL.nil.add D1).cut ∧ WB.heap.size ≤ w19.heap.size ∧ ∀ k, V1.own k → WB.heap.size ≤ k) := bagLater HAP.out.1 HAP.out.2.1 HAP.out.2.2.1 HAP.out.2.2.2 (by have := HOO.out; have := HG0.out; omega) b
      clear b
      have hr_x := HX.out.box
      have hq_x := rq_len (HX.out.q.sees HP.out)
      go_wp2_with (refine wpList_load_midG (by kernel_rfl) 33 _ rfl M0 5 rfl xs _ (tx_mid hr_x) Tryz.underlying33 rfl hq_x ?_)
      clear hr_x hq_x
      refine (spareRequest_any t.rq _ xs _ HX.out.q (fun k hk => by have := lt_of_block HX.out.box; omega) HP.out (HD.out _ HB.out).2.2.1 (HD.out _ HB.out).2.2.2.1).mono ?_
      rintro _ w20 ⟨rfl, b⟩
      replace HB : Hid (Below V.heap.size V w20) := HB.out.trans (b.mono HB.out.size)
      replace HX : Hid (Wx w20 p0 M0 t xs) := HX.out.later b
      replace HY : Hid (Wx w20 p1 M1 t' ys) := HY.out.later b
      replace HDD : Hid (Cx w20 p3 M3 t ds) := HDD.out.later b
      replace HAP : Hid (BagQ w20 g V1 (QL.nil.add D1).cut WB.heap.size ∧ LiesQ w20 p2 M2 (QL.nil.add D1).cut ∧ WB.heap.size ≤ w20.heap.size ∧ ∀ k, V1.own k → WB.heap.size ≤ k) := bagLater HAP.out.1 HAP.out.2.1 HAP.out.2.2.1 HAP.out.2.2.2 (by have := HOO.out; have := HG0.out; omega) b
      clear b
      go_upto_region 16 with fail
      have hr_x := HX.out.box
      have hq_x := rq_len (HX.out.q.sees HP.out)
      go_wp2_with (refine wpList_load_midG (by kernel_rfl) 33 _ rfl M0 5 rfl xs _ (tx_mid hr_x) Tryz.underlying33 rfl hq_x ?_)
      clear hr_x hq_x
      refine (turned_rq _ t.rq xs w20 HX.out.q HP.out HG.out.1.rq (fun k hk => by have := lt_of_block HX.out.box; omega)).mono ?_
      rintro _ w21 ⟨rfl, htn, hkn⟩
      obtain ⟨r2, hq2, hg2, hp2⟩ := RqIn.turns htn (HX.out.q.rqIn HP.out) HG.out.1.rq xs (HX.out.q.sees HP.out).len (fun _ _ => .same _)
      have hS : ∀ k, (p0 ≤ k ∧ k < M0) → k < M0 := fun k e => e.2
      replace HB : Hid (Below V.heap.size V w21) := HB.out.trans (hkn.below HB.out.size (fun k e => by have e1 : p0 ≤ k ∧ k < M0 := e; have := HOO.out; omega))
      have HRX : Hid (Rx w21 p0 M0 { t with rq := r2 } xs) := ⟨hq2, hkn.heap HX.out.box (fun e => by have e1 : p0 ≤ M0 ∧ M0 < M0 := e; omega)⟩
      have HG2 : Hid (r2.good ∧ r2.parts ≤ 20000) := ⟨hg2, by rw [hp2]; exact HP.out⟩
      replace HDD : Hid (Cx w21 p3 M3 t ds) := HDD.out.kept hkn (fun k k1 k2 e => by have e1 : p0 ≤ k ∧ k < M0 := e; have := HOO.out; omega) (fun e => by have e1 : p0 ≤ M3 ∧ M3 < M0 := e; have := HOO.out; omega)
      replace HAP : Hid (BagQ w21 g V1 (QL.nil.add D1).cut WB.heap.size ∧ LiesQ w21 p2 M2 (QL.nil.add D1).cut ∧ WB.heap.size ≤ w21.heap.size ∧ ∀ k, V1.own k → WB.heap.size ≤ k) := ⟨HAP.out.1.kept hkn (fun e => by have e1 : p0 ≤ g ∧ g < M0 := e; have := HOO.out; have := HG0.out; omega) (fun k k1 e => by have e1 : p0 ≤ k ∧ k < M0 := e; have := HAP.out.2.2.2 k k1; have := HOO.out; have := HG0.out; omega), HAP.out.2.1.kept hkn (fun k k1 k2 e => by have e1 : p0 ≤ k ∧ k < M0 := e; have := HOO.out; omega), Nat.le_trans HAP.out.2.2.1 hkn.size, HAP.out.2.2.2⟩
      clear htn hkn hq2 hg2 hp2 hS HX HY
      go_upto_region 17 with fail
      have hr_HRX := HRX.out.box
      have hq_HRX := tx_len HRX.out.sees
      go_wp2_with (refine wpList_load_midG (by kernel_rfl) 35 _ rfl M0 0 rfl (txHead { t with rq := r2 } ++ xs) _ (row_mid hr_HRX) Tryz.underlying35 rfl hq_HRX ?_)
      clear hr_HRX hq_HRX
      refine (copyTxn_any _ { t with rq := r2 } _ HRX.out.sees HG2.out.2).mono ?_
      rintro _ w22 ⟨os, rfl, hq, b⟩
      have hsx : SeesTx w22 (txHead { t with rq := r2 } ++ os) { t with rq := r2 } := ⟨_, rfl, hq.sees⟩
      have x1 := (tx_cell1 hsx).1
      have xl : zTxA.size = (txHead { t with rq := r2 } ++ os).toArray.size := by
        show 16 = _
        rw [List.size_toArray, (tx_cell1 hsx).2]
      have q4 := tx_qsz hsx
      obtain ⟨R4, s1⟩ := rowT w22 (txHead { t with rq := r2 } ++ os).toArray
      go_upto_region 18 with (refine wpList_store_row rfl 35 _ _ rfl w22.heap.size (txHead { t with rq := r2 } ++ os).toArray rfl rfl 35 _ s1 q4 (by first | exact xl | exact xl.symm) x1 ?_)
      obtain ⟨U22, e4⟩ : ∃ U, U = (w22.alloc (.cells zTxA 35)).setRow w22.heap.size (txHead { t with rq := r2 } ++ os).toArray := ⟨_, rfl⟩
      rw [← e4]
      rw [← e4] at R4
      obtain ⟨p4, hp0⟩ : ∃ p, p = w21.heap.size := ⟨_, rfl⟩
      obtain ⟨M4, hm0⟩ : ∃ M, M = w22.heap.size := ⟨_, rfl⟩
      have hnew : Rx U22 w21.heap.size w22.heap.size { t with rq := r2 } os := R4.rx hq
      have hol : ∀ k, V1.own k → k < p4 := fun k e => by rw [hp0]; exact (HAP.out.1.owns e).2
      have hgl := lt_of_block HAP.out.1.row
      have hpm : p4 ≤ M4 := by rw [hp0, hm0]; exact b.size
      have bb := b.trans (R4.bel.mono b.size)
      replace HB : Hid (Below V.heap.size V U22) := HB.out.trans (bb.mono HB.out.size)
      replace HRX : Hid (Rx U22 p0 M0 { t with rq := r2 } xs) := HRX.out.later bb
      replace HDD : Hid (Cx U22 p3 M3 t ds) := HDD.out.later bb
      replace HAP : Hid (BagQ U22 g V1 (QL.nil.add D1).cut WB.heap.size ∧ LiesQ U22 p2 M2 (QL.nil.add D1).cut ∧ WB.heap.size ≤ U22.heap.size ∧ ∀ k, V1.own k → WB.heap.size ≤ k) := bagLater HAP.out.1 HAP.out.2.1 HAP.out.2.2.1 HAP.out.2.2.2 (by have := HOO.out; have := HG0.out; omega) bb
      rw [← hp0, ← hm0] at hnew
      rw [← hp0] at hgl
      rw [← hm0]
      have HOT : Hid (Rx U22 p4 M4 { t with rq := r2 } os) := hnew
      have HQHOT : Hid ((∀ k, V1.own k → k < p4) ∧ g < p4 ∧ p4 ≤ M4) := ⟨hol, hgl, hpm⟩
      clear hp0 hm0 hnew bb hol hgl hpm e4 R4 s1 hsx x1 xl q4 hq b
      have hr_HRX := HRX.out.box
      have hq_HRX := tx_len HRX.out.sees
      go_wp2_with (refine wpList_load_midG (by kernel_rfl) 35 _ rfl M0 0 rfl (txHead { t with rq := r2 } ++ xs) _ (row_mid hr_HRX) Tryz.underlying35 rfl hq_HRX ?_)
      clear hr_HRX hq_HRX
      refine (txClone_own _ { t with rq := r2 } _ HRX.out.sees HG2.out.2).mono ?_
      rintro _ w23 ⟨es, rfl, hq, b⟩
      have hsx : SeesTx w23 (txHead { t with rq := r2 } ++ es) { t with rq := r2 } := ⟨_, rfl, hq.sees⟩
      have x1 := (tx_cell1 hsx).1
      have xl : zTxA.size = (txHead { t with rq := r2 } ++ es).toArray.size := by
        show 16 = _
        rw [List.size_toArray, (tx_cell1 hsx).2]
      have q4 := tx_qsz hsx
      obtain ⟨R4, s1⟩ := rowT w23 (txHead { t with rq := r2 } ++ es).toArray
      go_upto_region 19 with (refine wpList_store_row rfl 35 _ _ rfl w23.heap.size (txHead { t with rq := r2 } ++ es).toArray rfl rfl 35 _ s1 q4 (by first | exact xl | exact xl.symm) x1 ?_)
      obtain ⟨U23, e4⟩ : ∃ U, U = (w23.alloc (.cells zTxA 35)).setRow w23.heap.size (txHead { t with rq := r2 } ++ es).toArray := ⟨_, rfl⟩
      rw [← e4]
      rw [← e4] at R4
      obtain ⟨p5, hp0⟩ : ∃ p, p = U22.heap.size := ⟨_, rfl⟩
      obtain ⟨M5, hm0⟩ : ∃ M, M = w23.heap.size := ⟨_, rfl⟩
      have hnew : Cx U23 U22.heap.size w23.heap.size { t with rq := r2 } es := R4.cx hq
      have hol : ∀ k, V1.own k → k < p5 := fun k e => by rw [hp0]; exact (HAP.out.1.owns e).2
      have hgl := lt_of_block HAP.out.1.row
      have hpm : p5 ≤ M5 := by rw [hp0, hm0]; exact b.size
      have bb := b.trans (R4.bel.mono b.size)
      replace HB : Hid (Below V.heap.size V U23) := HB.out.trans (bb.mono HB.out.size)
      replace HRX : Hid (Rx U23 p0 M0 { t with rq := r2 } xs) := HRX.out.later bb
      replace HDD : Hid (Cx U23 p3 M3 t ds) := HDD.out.later bb
      replace HOT : Hid (Rx U23 p4 M4 { t with rq := r2 } os) := HOT.out.later bb
      replace HAP : Hid (BagQ U23 g V1 (QL.nil.add D1).cut WB.heap.size ∧ LiesQ U23 p2 M2 (QL.nil.add D1).cut ∧ WB.heap.size ≤ U23.heap.size ∧ ∀ k, V1.own k → WB.heap.size ≤ k) := bagLater HAP.out.1 HAP.out.2.1 HAP.out.2.2.1 HAP.out.2.2.2 (by have := HOO.out; have := HG0.out; omega) bb
      rw [← hp0, ← hm0] at hnew
      rw [← hp0] at hgl
      rw [← hm0]
      have HEE : Hid (Cx U23 p5 M5 { t with rq := r2 } es) := hnew
      have HQHEE : Hid ((∀ k, V1.own k → k < p5) ∧ g < p5 ∧ p5 ≤ M5) := ⟨hol, hgl, hpm⟩
      clear hp0 hm0 hnew bb hol hgl hpm e4 R4 s1 hsx x1 xl q4 hq b
      have hr_HEE := HEE.out.box
      have hq_HEE := tx_len HEE.out.sees
      have hr_HOT := HOT.out.box
      have hq_HOT := tx_len HOT.out.sees
      go_wp2_with (first | (refine wpList_load_midG (by kernel_rfl) 35 _ rfl M5 0 rfl (txHead { t with rq := r2 } ++ es) _ (row_mid hr_HEE) Tryz.underlying35 rfl hq_HEE ?_) | (refine wpList_load_midG (by kernel_rfl) 35 _ rfl M4 0 rfl (txHead { t with rq := r2 } ++ os) _ (row_mid hr_HOT) Tryz.underlying35 rfl hq_HOT ?_))
      clear hr_HEE hq_HEE hr_HOT hq_HOT
      refine (eqTxn_same _ _ { t with rq := r2 } _ HEE.out.sees HOT.out.sees).mono ?_
      rintro _ w24 ⟨rfl, b⟩
      replace HB : Hid (Below V.heap.size V w24) := HB.out.trans (b.mono HB.out.size)
      replace HRX : Hid (Rx w24 p0 M0 { t with rq := r2 } xs) := HRX.out.later b
      replace HDD : Hid (Cx w24 p3 M3 t ds) := HDD.out.later b
      replace HOT : Hid (Rx w24 p4 M4 { t with rq := r2 } os) := HOT.out.later b
      replace HEE : Hid (Cx w24 p5 M5 { t with rq := r2 } es) := HEE.out.later b
      replace HAP : Hid (BagQ w24 g V1 (QL.nil.add D1).cut WB.heap.size ∧ LiesQ w24 p2 M2 (QL.nil.add D1).cut ∧ WB.heap.size ≤ w24.heap.size ∧ ∀ k, V1.own k → WB.heap.size ≤ k) := bagLater HAP.out.1 HAP.out.2.1 HAP.out.2.2.1 HAP.out.2.2.2 (by have := HOO.out; have := HG0.out; omega) b
      clear b
      have hr_HDD := HDD.out.box
      have hq_HDD := tx_len HDD.out.sees
      have hr_a := (HR.out _ HB.out).1
      have hq_a := tx_len (cs := txHead t ++ rc) ⟨_, rfl, (HD.out _ HB.out).2.2.2.2.1⟩
      go_wp2_with (first | (refine wpList_load_midG (by kernel_rfl) 35 _ rfl M3 0 rfl (txHead t ++ ds) _ (row_mid hr_HDD) Tryz.underlying35 rfl hq_HDD ?_) | (refine wpList_load_midG (by kernel_rfl) 35 _ rfl w.heap.size 0 rfl (txHead t ++ rc) _ (row_mid hr_a) Tryz.underlying35 rfl hq_a ?_))
      clear hr_HDD hq_HDD hr_a hq_a
      refine (eqTxn_same _ _ t _ HDD.out.sees ⟨_, rfl, (HD.out _ HB.out).2.2.2.2.1⟩).mono ?_
      rintro _ w25 ⟨rfl, b⟩
      replace HB : Hid (Below V.heap.size V w25) := HB.out.trans (b.mono HB.out.size)
      replace HRX : Hid (Rx w25 p0 M0 { t with rq := r2 } xs) := HRX.out.later b
      replace HDD : Hid (Cx w25 p3 M3 t ds) := HDD.out.later b
      replace HOT : Hid (Rx w25 p4 M4 { t with rq := r2 } os) := HOT.out.later b
      replace HEE : Hid (Cx w25 p5 M5 { t with rq := r2 } es) := HEE.out.later b
      replace HAP : Hid (BagQ w25 g V1 (QL.nil.add D1).cut WB.heap.size ∧ LiesQ w25 p2 M2 (QL.nil.add D1).cut ∧ WB.heap.size ≤ w25.heap.size ∧ ∀ k, V1.own k → WB.heap.size ≤ k) := bagLater HAP.out.1 HAP.out.2.1 HAP.out.2.2.1 HAP.out.2.2.2 (by have := HOO.out; have := HG0.out; omega) b
      clear b
      go_upto_region 20 with fail
      clear HOT HRX HQHOT
      have HF1 : Hid (FarQ w25 g WB.heap.size p3 M3 V1 (QL.nil.add D1)) := ⟨HAP.out.1, HAP.out.2.2.1, by have := lt_of_block HDD.out.box; omega, fun k k1 k2 => ⟨by have := HOO.out; have := HG0.out; omega, fun e => by have := HAP.out.2.2.2 k e; have := HOO.out; have := HG0.out; omega⟩⟩
      have hr_HDD := HDD.out.box
      have hq_HDD := rq_len HDD.out.q.sees
      go_wp2_with (refine wpList_load_midG (by kernel_rfl) 33 _ rfl M3 5 rfl ds _ (tx_mid hr_HDD) Tryz.underlying33 rfl hq_HDD ?_)
      clear hr_HDD hq_HDD
      refine (addRequest_any g WB.heap.size t.rq p3 M3 ds w25 V1 (QL.nil.add D1) HF1.out HDD.out.q).mono ?_
      rintro _ w26 ⟨rfl, V2, D2, bg, st, ls⟩
      have hlo : ∀ k, (k = g ∨ V1.own k) → M3 < k ∧ k < p5 := by
        rintro k (e | e)
        · have := HG0.out; have := HQHEE.out.2.1; omega
        · have := HAP.out.2.2.2 k e; have := HG0.out; have := HQHEE.out.1 k e; omega
      have hm5 := lt_of_block HEE.out.box
      have hsz := st.kept.size
      replace HB : Hid (Below V.heap.size V w26) := HB.out.trans (st.kept.below HB.out.size (fun k e => by have := (hlo k e).1; have := HOO.out; omega))
      have HA2 : Hid (FarQ w26 g WB.heap.size p5 M5 V2 ((QL.nil.add D1).add D2) ∧ LiesQ w26 p2 M2 (QL.nil.add D1).cut ∧ LiesQ w26 p3 M3 D2 ∧ ∀ k, V2.own k → M3 < k) := by
        refine ⟨⟨bg, Nat.le_trans HAP.out.2.2.1 hsz, by omega, fun k k1 k2 => ⟨by have := HQHEE.out.2.1; omega, fun e => ?_⟩⟩, HAP.out.2.1.kept st.kept (fun k k1 k2 e => by have := (hlo k e).1; have := HOO.out; omega), ls, fun k e => ?_⟩
        · rcases st.own k e with e | e
          · have := HQHEE.out.1 k e; omega
          · omega
        · rcases st.own k e with e | e
          · exact (hlo k (.inr e)).1
          · have := HAP.out.2.2.1; have := HG0.out; omega
      replace HEE : Hid (Cx w26 p5 M5 { t with rq := r2 } es) := HEE.out.kept st.kept (fun k k1 k2 e => by have := (hlo k e).2; omega) (fun e => by have := (hlo _ e).2; have := HQHEE.out.2.2; omega)
      clear bg st ls hlo hm5 hsz HF1 HAP HDD
      go_upto_region 21 with fail
      have hr_HEE := HEE.out.box
      have hq_HEE := rq_len HEE.out.q.sees
      go_wp2_with (refine wpList_load_midG (by kernel_rfl) 33 _ rfl M5 5 rfl es _ (tx_mid hr_HEE) Tryz.underlying33 rfl hq_HEE ?_)
      clear hr_HEE hq_HEE
      refine (addRequest_any g WB.heap.size r2 p5 M5 es w26 V2 ((QL.nil.add D1).add D2) HA2.out.1 HEE.out.q).mono ?_
      rintro _ w27 ⟨rfl, V3, D3, bg, st, ls⟩
      have hlo : ∀ k, (k = g ∨ V2.own k) → M3 < k := by
        rintro k (e | e)
        · have := HG0.out; omega
        · exact HA2.out.2.2.2 k e
      replace HB : Hid (Below V.heap.size V w27) := HB.out.trans (st.kept.below HB.out.size (fun k e => by have := hlo k e; have := HOO.out; omega))
      have HA3 : Hid (BagQ w27 g V3 (((QL.nil.add D1).add D2).add D3).cut WB.heap.size ∧ LiesQ w27 p2 M5 (((QL.nil.add D1).add D2).add D3).cut) := by
        refine ⟨bg, ?_⟩
        have h1 := (HA2.out.2.1.kept st.kept (fun k k1 k2 e => by have := hlo k e; have := HOO.out; omega)).mono (hi' := p3) (Nat.le_refl _) (by have := HOO.out; omega)
        have h2 := (HA2.out.2.2.1.kept st.kept (fun k k1 k2 e => by have := hlo k e; omega)).mono (hi' := p5) (Nat.le_refl _) (by have := HQHEE.out; have := HG0.out; omega)
        rw [QL.cut_add]
        exact ((h1.add h2 (by have := HOO.out; omega) (by have := HOO.out; have := HQHEE.out; have := HG0.out; omega)).add ls (by have := HOO.out; have := HQHEE.out; have := HG0.out; omega) HQHEE.out.2.2).cut
      clear bg st ls hlo HA2 HEE
      go_upto_region 22 with fail
      have hpow : 1 < p2 := by have := (HD.out V (Below.refl _ _)).2.2.2.1; have := HOO.out; omega
      go_wp2_with fail
      refine (bagApart_q g WB.heap.size p2 M5 V3 (((QL.nil.add D1).add D2).add D3).cut w27 HA3.out.1 HA3.out.2 (List.length_take_le _ _) (List.length_take_le _ _) (List.length_take_le _ _) (List.length_take_le _ _) (List.length_take_le _ _) (HD.out _ HB.out).2.2.1 (HD.out _ HB.out).2.2.2.1 hpow).mono ?_
      rintro _ w28 ⟨rfl, sq⟩
      replace HB : Hid (Below V.heap.size V w28) := HB.out.trans (sq.kept.below HB.out.size (fun k e => by have e1 : p2 ≤ k ∧ k < M5 := e; have := HOO.out; omega))
      clear sq HA3 hpow
      go_upto_region 23 with fail
      have hr_a := (HR.out _ HB.out).1
      have hq_a := tx_len (cs := txHead t ++ rc) ⟨_, rfl, (HD.out _ HB.out).2.2.2.2.1⟩
      have hr_b := (HR.out _ HB.out).2
      have hq_b := tx_len (cs := txHead t' ++ rd) ⟨_, rfl, (HD.out _ HB.out).2.2.2.2.2⟩
      go_wp2_with (first | (refine wpList_load_midG (by kernel_rfl) 35 _ rfl w.heap.size 0 rfl (txHead t ++ rc) _ (row_mid hr_a) Tryz.underlying35 rfl hq_a ?_) | (refine wpList_load_midG (by kernel_rfl) 35 _ rfl (w.heap.size + 1) 0 rfl (txHead t' ++ rd) _ (row_mid hr_b) Tryz.underlying35 rfl hq_b ?_))
      clear hr_a hq_a hr_b hq_b
      refine (eqTxn_anyT t t' _ _ _ ⟨_, rfl, (HD.out _ HB.out).2.2.2.2.1⟩ ⟨_, rfl, (HD.out _ HB.out).2.2.2.2.2⟩).mono ?_
      rintro _ w29 ⟨be, rfl, hbe, b⟩
      obtain rfl : be = bs := by
        have h1 := HBS.out
        cases be <;> cases bs <;> simp_all
      replace HB : Hid (Below V.heap.size V w29) := HB.out.trans (b.mono HB.out.size)
      clear b hbe HBS
      go_wp2_with fail
      go_ret
      exact ⟨by simp, (HD.out _ HB.out).1⟩
    · clear HLA HG HP
      go_wp2_with fail
      go_ret
      exact ⟨rfl, (HD.out _ HB3.out).1⟩
  · clear HLA HG hbl
    go_wp2_with fail
    go_ret
    exact ⟨rfl, (HD.out _ HB2.out).1⟩
end Go.Proofs.YtoeialngbbfoeaaGreatDoor
