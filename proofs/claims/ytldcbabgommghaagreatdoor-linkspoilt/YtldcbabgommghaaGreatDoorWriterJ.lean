/- isTxnRight of package packet, and the twelve rows' tests in one form. -/
import Derived.Test.YtldcbabgommghaaGreatDoorPkAJ
import Derived.Test.YtldcbabgommghaaGreatDoorCopyXJ
import Derived.Deep.Onto
import Derived.Test.YtldcbabgommghaaGreatDoorProg
import Derived.Test.YtldcbabgommghaaGreatDoorLeafSumJ
import Derived.Lib.SliceRun
namespace Go.Proofs.YtldcbabgommghaaGreatDoor
open Go.RowKit
set_option maxRecDepth 8000

theorem txSz : (Tryz.prog.info? 37).map (·.size) = some 16 := by kernel_rfl

def txB15 (p : PkD) : Bool := txOk p.tx && (if p.kind = 13 then decide ((p.tx.ep = 0 ∧ p.tx.n = 0) ∧ 1 ≤ p.tx.num) else decide (0 < zcmp p.tx.ep p.tx.n p.pe p.pn))

/-- The transaction's own numbers, in a packet. -/
theorem PkAt.txHead {W : World} {g : Nat} {p : PkD} {tc : List Value} {bv : Value} (h : PkAt W g p tc bv) {w : World} (hs : SeesTx w tc p.tx) : W.cell? ⟨g, 14, none⟩ = some (.int .u32 p.tx.ep) ∧ W.cell? ⟨g, 15, none⟩ = some (.int .u32 p.tx.n) ∧ W.cell? ⟨g, 18, none⟩ = some (.int .i64 p.tx.num) := by
  have ht := (h.tail hs.len).1
  obtain ⟨rc, rfl, _⟩ := hs
  exact ⟨ht 0 _ rfl, ht 1 _ rfl, ht 4 _ rfl⟩

set_option maxHeartbeats 1000000 in
theorem rtTxn (p : PkD) (tc : List Value) (bv : Value) (w : World) (hg : p.good) (hs : SeesTx w tc p.tx) (hn : Nam w) :
    Calls Tryz.prog 108 #[.agg (pkL p tc bv).toArray] w fun r w' => r = .returned (.bool (txB15 p)) ∧ Below w.heap.size w w' := by
  obtain ⟨W, HE, HW⟩ := pk_box p tc bv w
  have HS : Hid (SeesTx w tc p.tx ∧ Nam w ∧ p.good) := ⟨hs, hn, hg⟩
  have l14 := (HW.out.2.tail hs.len).1
  have q16 : (Tryz.prog.info? 37).map (·.size) = some tc.length := by rw [hs.len]; exact txSz
  have hgt : Tryz.prog.eqGuardType Tryz.prog.depth 27 = false := by kernel_rfl
  have HZ := eqZx p.tx.ep p.tx.n 0 0
  clear hs hn hg
  go_enter Tryz.func108, Tryz.ntmps108
  go_upto_region 1 with fail
  rw [← HE.out]
  clear HE
  go_wp2_with (refine wpList_load_mid rfl 37 _ rfl w.heap.size 14 rfl tc _ l14 Tryz.underlying37 rfl q16 ?_)
  clear l14
  refine (check_any tc p.tx _ (HS.out.1.below HW.out.1 (Nat.le_refl _)) HS.out.2.2.tx (HS.out.2.1.below HW.out.1 HS.out.2.1.lt)).mono ?_
  rintro _ w1 ⟨rfl, b1⟩
  have HB : Hid (Below w.heap.size w w1 ∧ PkAt w1 w.heap.size p tc bv) := ⟨HW.out.1.trans (b1.mono HW.out.1.size), HW.out.2.later b1 HW.out.2.lt⟩
  clear b1
  obtain ⟨c14, c15, c18⟩ := HB.out.2.txHead HS.out.1
  have c0 : w1.cell? ⟨w.heap.size, 0, none⟩ = some (.int .i8 p.kind) := pk_at HB.out.2 rfl
  have c10 : w1.cell? ⟨w.heap.size, 10, none⟩ = some (.int .u32 p.pe) := pk_at HB.out.2 rfl
  have c11 : w1.cell? ⟨w.heap.size, 11, none⟩ = some (.int .u32 p.pn) := pk_at HB.out.2 rfl
  cases hok : txOk p.tx
  · have HR : Hid (txB15 p = false) := by show txB15 p = false; unfold txB15; rw [hok]; rfl
    go_wp2_with fail
    all_goals (go_ret; exact ⟨by rw [HR.out]; rfl, HB.out.1⟩)
  · by_cases k : p.kind = 13
    · have HR : Hid (txB15 p = decide ((p.tx.ep = 0 ∧ p.tx.n = 0) ∧ 1 ≤ p.tx.num)) := by show txB15 p = _; unfold txB15; rw [hok, if_pos k]; rfl
      rw [k] at c0
      clear k hok
      by_cases hz : p.tx.ep = 0 ∧ p.tx.n = 0
      · rw [decide_eq_true hz] at HZ
        have HD : Hid (decide ((p.tx.ep = 0 ∧ p.tx.n = 0) ∧ 1 ≤ p.tx.num) = decide (1 ≤ p.tx.num)) := by show decide _ = decide _; simp [hz]
        clear hz
        go_wp2_with fail
        all_goals (go_ret; exact ⟨by rw [HR.out, HD.out]; rfl, HB.out.1⟩)
      · rw [decide_eq_false hz] at HZ
        have HD : Hid (decide ((p.tx.ep = 0 ∧ p.tx.n = 0) ∧ 1 ≤ p.tx.num) = false) := decide_eq_false (fun h => hz h.1)
        clear hz
        go_wp2_with fail
        all_goals (go_ret; exact ⟨by rw [HR.out, HD.out]; rfl, HB.out.1⟩)
    · have HR : Hid (txB15 p = decide (0 < zcmp p.tx.ep p.tx.n p.pe p.pn)) := by show txB15 p = _; unfold txB15; rw [hok, if_neg k]; rfl
      have k' : (p.kind == 13) = false := by simp [k]
      clear k hok
      go_wp2_with fail
      refine (compare_any _ _ _ _ _).mono ?_
      rintro _ w2 ⟨rfl, b2⟩
      have HF : Hid (Below w.heap.size w w2) := HB.out.1.trans (b2.mono HB.out.1.size)
      clear b2 c14 c15 c18 c0 c10 c11
      go_wp2_with fail
      all_goals (go_ret; exact ⟨by rw [HR.out]; rfl, HF.out⟩)
end Go.Proofs.YtldcbabgommghaaGreatDoor

/- The rows of package packet: rows, rowsOf, namedBy. -/
namespace Go.Proofs.YtldcbabgommghaaGreatDoor
open Go.RowKit
set_option maxRecDepth 8000

/-- A field's bit. -/
def pw (k : Nat) : Int := ((2 ^ k : Nat) : Int)
abbrev fv (n : Nat) : Value := .func (.func n) #[] #[]
/-- The functions of the row of each field. -/
def fRt : Nat → Nat
  | 0 => 74 | 1 => 80 | 2 => 83 | 3 => 88 | 4 => 91 | 5 => 94 | 6 => 97 | 7 => 101 | 8 => 101 | 9 => 108 | 10 => 111 | _ => 116
def fPt : Nat → Nat
  | 0 => 76 | 1 => 81 | 2 => 84 | 3 => 89 | 4 => 92 | 5 => 95 | 6 => 99 | 7 => 102 | 8 => 106 | 9 => 109 | 10 => 112 | _ => 117
def fGt : Nat → Nat
  | 0 => 78 | 1 => 82 | 2 => 86 | 3 => 90 | 4 => 93 | 5 => 96 | 6 => 100 | 7 => 104 | 8 => 107 | 9 => 110 | 10 => 114 | _ => 118
def rowC (j : Nat) : List Value := [Value.int .u16 (pw j), fv (fRt j), fv (fPt j), fv (fGt j)]
def rowsF (l : List Nat) : List Value := l.flatMap rowC

set_option maxHeartbeats 4000000 in
theorem rows_any (w : World) : Calls Tryz.prog 65 #[] w fun r w' => r = .returned (.slice (some ⟨w.heap.size, 0, none⟩) 12 12) ∧ w'.heap[w.heap.size]? = some (.cells (rowsF (List.range 12)).toArray 101 (0, 0)) ∧ Below w.heap.size w w' := by
  go_enter Tryz.func65, Tryz.ntmps65
  go_wp2
  go_ret
  exact ⟨rfl, heap_alloc_new _ _, one_alloc _ _⟩

theorem rowsF_at : ∀ (l : List Nat) (k : Nat) (hk : k < l.length) (i : Nat), i < 4 → (rowsF l)[k * 4 + i]? = (rowC l[k])[i]?
  | [], k, hk, _, _ => by simp at hk
  | j :: l, 0, _, i, hi => by
    show (rowC j ++ rowsF l)[0 * 4 + i]? = _
    rw [List.getElem?_append_left (by simp [rowC]; omega)]
    simp
  | j :: l, k + 1, hk, i, hi => by
    show (rowC j ++ rowsF l)[(k + 1) * 4 + i]? = _
    rw [List.getElem?_append_right (by simp [rowC]; omega), show (k + 1) * 4 + i - (rowC j).length = k * 4 + i by simp [rowC]; omega]
    exact rowsF_at l k (by simpa using hk) i hi
theorem rowsF_app (l : List Nat) (j : Nat) : rowsF (l ++ [j]) = rowsF l ++ rowC j := by simp [rowsF]

/-- The fields among the first k whose bits are on. -/
def flN (names : Int) (k : Nat) : List Nat := (List.range k).filter (fun j => bits .and .u16 names (pw j) != 0)
theorem flN_next (names : Int) (k : Nat) : flN names (k + 1) = if (bits .and .u16 names (pw k) != 0) = true then flN names k ++ [k] else flN names k := by
  unfold flN
  rw [List.range_succ, List.filter_append]
  split
  · next h => simp only [List.filter, h]
  · next h => rw [Bool.not_eq_true] at h; simp only [List.filter, h, List.append_nil]
theorem flN_len (names : Int) (k : Nat) : (flN names k).length ≤ k := by
  unfold flN
  exact Nat.le_trans (List.length_filter_le _ _) (by simp)

theorem Tryz.infoRow15 : (Tryz.prog.info? 101).map (fun i => (i.zero, i.size, i.bytes)) = some (some (.agg #[.int .u16 0, .nilFunc, .nilFunc, .nilFunc]), 4, 32) := by kernel_rfl

theorem app_row15 {w : World} {base m : Nat} {v : Value} {l : List Nat} {j : Nat} (ty : TypeId) (ho : w.ownsRow base 101 4 v l.length (rowsF l)) (hm : w.heap[m]? = some (.cells (rowC j).toArray 101 (0, 0))) (hl : l.length ≤ 1000) (hb : base ≤ w.heap.size) :
    ∃ v' w', (Builtin.append_ #[95, 95] ty #[v, .slice (some ⟨m, 0, none⟩) 1 1]).run Tryz.prog w = .ok v' w' ∧ w'.ownsRow base 101 4 v' (l ++ [j]).length (rowsF (l ++ [j])) ∧ w.grownBy w' v.ownBlock := by
  obtain ⟨i, hi, hz, hs, hby⟩ := info_parts Tryz.infoRow15
  obtain ⟨v', w', h1, h2, h3, _⟩ := run_append_own (P := Tryz.prog) w base 95 ty 101 i _ 4 32 Tryz.underlying95 hi hz hs hby rfl (by decide) v l.length (rowsF l) ho ⟨m, 0, none⟩ 1 1 (rowC j) rfl (fun k u hk => by
    rw [Addr.add_lit, Nat.zero_add, cell_of_row w m k _ _ _ hm, ← Array.getElem?_toList]
    exact hk) (by intro u hu; simp only [rowC, List.mem_cons, List.not_mem_nil, or_false] at hu; rcases hu with rfl | rfl | rfl | rfl <;> rfl) (by unfold maxLen; omega) (by omega) hb
  refine ⟨v', w', h1, ?_, h3⟩
  rw [List.length_append, rowsF_app]
  exact h2

/-- At the operation: append, where its run is known. -/
theorem app_at {P : Program} {w : World} {ops : Array Oper} {rest : List Oper} {o : Oper} {a : Act} {Q : Exit → Act → World → Prop} (hgd : o.guard = none) (s x : Operand) (t : TypeId)
    (ho : o.op = .call { callee := .builtin .append, args := #[s, x], argTypes := #[t, t] }) (v u : Value) (hs : a.eval s = v) (hx : a.eval x = u) {v' : Value} {w' : World}
    (hr : (Builtin.append_ #[t, t] o.type #[v, u]).run P w = .ok v' w') (h : wpList P ops Q rest (a.put o.dst v') w') : wpList P ops Q (o :: rest) a w := by
  refine wpList_plain hgd fun K hK => ?_
  unfold Oper.wp execOp
  simp only [ho, resolve, invoke, builtin, Sem.run_bind, Sem.run_pure, Result.andThen_ok, List.map_toArray, List.map_cons, List.map_nil, hs, hx, hr]
  exact hK _ _ h

def rgB (j : Nat) (p : PkD) : Bool := match j with
  | 0 => connB p.cb p.ct | 1 => connB p.lb p.lt | 2 => decide (0 ≤ p.place) | 3 => epB p | 4 => decide (p.cur ≤ 2147483647) | 5 => zxB p | 6 => zxOk p.pe p.pn | 7 => true | 8 => true | 9 => txB15 p | 10 => decide (1 ≤ p.bys.length ∧ p.bys.length ≤ 4096) | _ => decide (1 ≤ p.ses)

theorem right_any (j : Nat) (p : PkD) (tc : List Value) (bv : Value) (w : World) (hg : p.good) (hs : SeesPk w tc bv p) (hn : Nam w) :
    Calls Tryz.prog (fRt j) #[.agg (pkL p tc bv).toArray] w fun r w' => r = .returned (.bool (rgB j p)) ∧ Below w.heap.size w w' := by
  match j with
  | 0 => exact rtConn p tc bv w
  | 1 => exact rtLead p tc bv w
  | 2 => exact rtPlace p tc bv w
  | 3 => exact rtEpoch p tc bv w
  | 4 => exact rtCur p tc bv w
  | 5 => exact rtZxid p tc bv w hg
  | 6 => exact rtPrev p tc bv w hg
  | 7 => exact rtAny p tc bv w
  | 8 => exact rtAny p tc bv w
  | 9 => exact rtTxn p tc bv w hg hs.tx hn
  | 10 => exact rtBytes p tc bv w hs.bys hs.tx.len
  | _ + 11 => exact rtSes p tc bv w hs.tx.len
end Go.Proofs.YtldcbabgommghaaGreatDoor

/- rowsOf of package packet: the rows of the fields that are named. -/
namespace Go.Proofs.YtldcbabgommghaaGreatDoor
open Go.RowKit
set_option maxRecDepth 8000

theorem store_fn15 (P : Program) (w : World) (a : Addr) (m : Mode) (f : Fn) (x y : Array Value) : (store a (.func f x y) m).run P w = stored P w a (.func f x y) m := run_store P w a _ m rfl

def RowsA (W : World) (b : Nat) : Prop := W.heap[b]? = some (.cells (rowsF (List.range 12)).toArray 101 (0, 0))

set_option maxHeartbeats 2000000 in
theorem rowsOf_any (names : Int) (w : World) : Calls Tryz.prog 48 #[.int .u16 names] w fun r w' => ∃ v, r = .returned v ∧ w'.ownsRow w.heap.size 101 4 v (flN names 12).length (rowsF (flN names 12)) ∧ Below w.heap.size w w' := by
  go_enter Tryz.func48, Tryz.ntmps48
  go_wp2_with fail
  refine (rows_any _).mono ?_
  rintro _ w1 ⟨rfl, hr, hb⟩
  have H1 : Hid (Below w.heap.size w w1 ∧ RowsA w1 w.heap.size) := ⟨hb, hr⟩
  clear hr hb
  go_wp2_with fail
  go_loopw [3, 8] (fun v i wr => ∃ k : Nat, k ≤ 12 ∧ i = .int .i64 k ∧ Hid (wr.ownsRow (w.heap.size + 1) 101 4 v (flN names k).length (rowsF (flN names k)) ∧ Below w.heap.size w wr ∧ RowsA wr w.heap.size)) (fun _ i _ => 12 - (intOf i).toNat)
  case atStart => exact ⟨0, Nat.zero_le _, rfl, World.ownsRow_nil _ _ _ _, H1.out.1, H1.out.2⟩
  case round =>
    clear H1
    obtain ⟨k, hk, rfl, H⟩ := hrel
    by_cases hlt : k < 12
    · have hsz := lt_of_block H.out.2.2
      have c0 : wr.cell? ⟨w.heap.size, k * 4, none⟩ = some (.int .u16 (pw k)) := by rw [cell_of_row _ _ _ _ _ _ H.out.2.2, List.getElem?_toArray, show k * 4 = k * 4 + 0 from rfl, rowsF_at _ k (by simpa using hlt) 0 (by omega)]; simp [rowC]
      have c1 : wr.cell? ⟨w.heap.size, k * 4 + 1, none⟩ = some (fv (fRt k)) := by rw [cell_of_row _ _ _ _ _ _ H.out.2.2, List.getElem?_toArray, rowsF_at _ k (by simpa using hlt) 1 (by omega)]; simp [rowC]
      have c2 : wr.cell? ⟨w.heap.size, k * 4 + 2, none⟩ = some (fv (fPt k)) := by rw [cell_of_row _ _ _ _ _ _ H.out.2.2, List.getElem?_toArray, rowsF_at _ k (by simpa using hlt) 2 (by omega)]; simp [rowC]
      have c3 : wr.cell? ⟨w.heap.size, k * 4 + 3, none⟩ = some (fv (fGt k)) := by rw [cell_of_row _ _ _ _ _ _ H.out.2.2, List.getElem?_toArray, rowsF_at _ k (by simpa using hlt) 3 (by omega)]; simp [rowC]
      have hsf := store_fn15
      obtain ⟨V, HV⟩ : ∃ V, Hid (V = wr.alloc (.cells #[.int .u16 (pw k), .func (.func (fRt k)) #[] #[], .func (.func (fPt k)) #[] #[], .func (.func (fGt k)) #[] #[]] 101)) := ⟨_, rfl⟩
      have HVV : Hid (Below w.heap.size w V ∧ RowsA V w.heap.size ∧ V.ownsRow (w.heap.size + 1) 101 4 u3 (flN names k).length (rowsF (flN names k)) ∧ V.heap[wr.heap.size]? = some (.cells (rowC k).toArray 101 (0, 0))) := by
        rw [HV.out]
        exact ⟨H.out.2.1.alloc H.out.2.1.size _, (Below.kept (one_alloc wr _)).heap H.out.2.2 (by omega), ownsRow_kept H.out.1 ((Kept.refl wr (fun _ => False)).alloc _) (fun _ _ h => h), heap_alloc_new _ _⟩
      go_upto_region 5 with fail
      rw [← HV.out]
      clear HV c0 c1 c2 c3 H hsf
      have d0 : V.cell? ⟨wr.heap.size, 0, none⟩ = some (.int .u16 (pw k)) := pk_at HVV.out.2.2.2 rfl
      have d1 : V.cell? ⟨wr.heap.size, 1, none⟩ = some (fv (fRt k)) := pk_at HVV.out.2.2.2 rfl
      have d2 : V.cell? ⟨wr.heap.size, 2, none⟩ = some (fv (fPt k)) := pk_at HVV.out.2.2.2 rfl
      have d3 : V.cell? ⟨wr.heap.size, 3, none⟩ = some (fv (fGt k)) := pk_at HVV.out.2.2.2 rfl
      cases hb : (bits .and .u16 names (pw k) != 0) with
      | true =>
        have hvs := lt_of_block HVV.out.2.1
        obtain ⟨v', w', hrun, hown, hgr⟩ := app_row15 (w := V.alloc (.cells #[.int .u16 (pw k), .func (.func (fRt k)) #[] #[], .func (.func (fPt k)) #[] #[], .func (.func (fGt k)) #[] #[]] 101)) (m := V.heap.size) (j := k) 95 (ownsRow_kept HVV.out.2.2.1 ((Kept.refl V (fun _ => False)).alloc _) (fun _ _ h => h)) (heap_alloc_new _ _) (by have := flN_len names k; omega) (by simp; omega)
        have HN : Hid (w'.ownsRow (w.heap.size + 1) 101 4 v' (flN names (k + 1)).length (rowsF (flN names (k + 1))) ∧ Below w.heap.size w w' ∧ RowsA w' w.heap.size) := by
          rw [show flN names (k + 1) = flN names k ++ [k] from by rw [flN_next, if_pos hb]]
          exact ⟨hown, (HVV.out.1.alloc HVV.out.1.size _).grown hgr (by simp; omega) (fun q hq => by have := (HVV.out.2.2.1.lt q hq).1; omega), ((Kept.refl V (fun q => q = w.heap.size + 1 ∨ w.heap.size < q)).alloc _ |>.grown hgr (fun q _ hq => .inr (by have := (HVV.out.2.2.1.lt q hq).1; omega))).heap HVV.out.2.1 (by omega)⟩
        clear hown hgr HVV
        go_wp2_with (at_builtin; refine app_at rfl _ _ 95 rfl u3 (.slice (some ⟨V.heap.size, 0, none⟩) 1 1) rfl rfl hrun ?_)
        clear hrun d0 d1 d2 d3
        go_wp2_with fail
        go_roundw
        case rel => exact ⟨k + 1, by omega, by go_num, HN⟩
        case measure => simp [intOf]; omega
      | false =>
        have HN : Hid (V.ownsRow (w.heap.size + 1) 101 4 u3 (flN names (k + 1)).length (rowsF (flN names (k + 1))) ∧ Below w.heap.size w V ∧ RowsA V w.heap.size) := by
          rw [show flN names (k + 1) = flN names k from by rw [flN_next, if_neg (by rw [hb]; decide)]]
          exact ⟨HVV.out.2.2.1, HVV.out.1, HVV.out.2.1⟩
        clear HVV
        go_wp2_with fail
        go_roundw
        case rel => exact ⟨k + 1, by omega, by go_num, HN⟩
        case measure => simp [intOf]; omega
    · obtain rfl : k = 12 := by omega
      go_wp2_with fail
      go_ret
      exact ⟨_, rfl, World.ownsRow.mono H.out.1 (by omega), H.out.2.1⟩

end Go.Proofs.YtldcbabgommghaaGreatDoor

/- What the Writer's calls of package pack do: each puts the bytes of its value behind those that the Writer has. -/
namespace Go.Proofs.YtldcbabgommghaaGreatDoor
open Go.RowKit
set_option maxRecDepth 8000

theorem Tryz.infoByte' : (Tryz.prog.info? 5).map (fun i => (i.zero, i.size, i.bytes)) = some (some (.int .u8 0), 1, 1) := by kernel_rfl

/-- What a call that puts bytes leaves: the Writer at g with the bytes xs; all else but its row is as it was. -/
def Puts (w : World) (g : Nat) (v : Value) (xs : List Int) (w' : World) : Prop :=
  ∃ v', IsW w' g v' xs ∧ NewRow w v v' ∧ Kept w w' (fun k => k = g ∨ v.ownBlock = some k)

/-- Behind an append to the field and the store of what it answers. -/
theorem puts_mk {w w1 : World} {g : Nat} {v v' : Value} {xs ys : List Int} (h : IsW w g v xs) (hown : Owns w1 0 v' (xs ++ ys)) (hgrow : w.grownBy w1 v.ownBlock) (hnew : NewRow w v v') :
    Puts w g v (xs ++ ys) (w1.setCell ⟨g, 0, none⟩ v') := by
  have hk : Kept w w1 (fun k => k = g ∨ v.ownBlock = some k) := (Kept.refl w _).grown hgrow (fun k _ e => .inr e)
  have hg1 : w1.heap[g]? = some (.cells #[v] 73 (0, 0)) := by
    rw [hgrow.block g (lt_of_block h.1) (fun e => h.apart e.symm)]; exact h.1
  have hap : v'.ownBlock ≠ some g := by
    rcases hnew with e | ⟨k, e, hk⟩
    · rw [e]; exact h.apart
    · rw [e]; intro e2; simp at e2; subst e2; have := lt_of_block h.1; omega
  exact ⟨v', ⟨one_setCell hg1, ownsRow_setCell_other hown hap _⟩, hnew, hk.setCell _ _ (fun _ => .inl rfl)⟩

theorem Puts.next {w w1 w2 : World} {g : Nat} {v v1 : Value} {ys : List Int} (hnew : NewRow w v v1) (hk : Kept w w1 (fun k => k = g ∨ v.ownBlock = some k)) (h2 : Puts w1 g v1 ys w2) : Puts w g v ys w2 := by
  obtain ⟨v2, k1, k2, k3⟩ := h2
  refine ⟨v2, k1, ?_, hk.trans k3 ?_⟩
  · rcases k2 with e | ⟨b, e, hb⟩
    · rcases hnew with e' | ⟨b, e', hb⟩
      · exact .inl (e.trans e')
      · exact .inr ⟨b, e.trans e', hb⟩
    · exact .inr ⟨b, e, by have := hk.size; omega⟩
  · intro b hb hs
    rcases hs with hs | hs
    · exact .inl hs
    · rcases hnew with e' | ⟨b', e', hb'⟩
      · exact .inr (by rw [← e']; exact hs)
      · rw [e'] at hs; simp at hs; omega

set_option maxHeartbeats 400000 in
theorem add_any (g : Nat) (v u : Value) (xs ys : List Int) (w : World) (h : IsW w g v xs) (hu : Sees w u ys) (hb : xs.length + ys.length ≤ 140737488355328) :
    Calls Tryz.prog 50 #[.pointer (some ⟨g, 0, none⟩), u] w fun e w' => e = .returned (.tuple #[]) ∧ Puts w g v (xs ++ ys) w' := by
  obtain ⟨i0, hi, hz0, hz1, hz2⟩ := info_parts Tryz.infoByte'
  have hc := cell_of_one h.1
  have hf := free_of_one h.1
  have H : Hid (IsW w g v xs) := h
  have HU : Hid (Sees w u ys) := hu
  clear h hu
  go_enter Tryz.func50, Tryz.ntmps50
  go_wp2_with (at_builtin; refine wpList_app _ rfl _ _ 30 rfl i0 Tryz.underlying30 hi hz0 hz1 hz2 v u xs ys rfl rfl H.out.2 HU.out hb ?_)
  intro v' w1 hown hgrow hnew
  have R := puts_mk H.out hown hgrow hnew
  have hc1 : w1.cell? ⟨g, 0, none⟩ = some v := hgrow.cell hc (fun e => H.out.apart e.symm)
  have hf1 : w1.frozen? ⟨g, 0, none⟩ = false := by
    rw [World.frozen?_of_block (hgrow.block g (lt_of_block H.out.1) (fun e => H.out.apart e.symm))]; exact hf
  have HR : Hid (Puts w g v (xs ++ ys) (w1.setCell ⟨g, 0, none⟩ v')) := R
  obtain ⟨ao', n', c', hv'⟩ := owns_shape hown
  clear R hown hgrow hnew hc hf
  subst hv'
  go_wp2
  go_end0
  exact ⟨rfl, HR.out⟩

/-- A list of bytes that has just been laid in a new block. -/
theorem sees_new {w : World} (cs : Array Value) (ys : List Int) (hl : ys.length ≤ 4096) (h : cs.toList = ys.map (Value.int .u8)) : Sees (w.alloc (.cells cs 5)) (.slice (some ⟨w.heap.size, 0, none⟩) ys.length ys.length) ys := by
  refine ⟨_, _, rfl, Nat.le_refl _, by unfold maxLen; omega, fun e => by simp at e, .inr ⟨_, _, rfl, fun i hi => ?_⟩⟩
  rw [Nat.zero_add, cell_of_row _ w.heap.size i cs 5 (0, 0) (heap_alloc_new w _), ← Array.getElem?_toList, h]
  simp [hi, List.getD_eq_getElem?_getD]

theorem IsW.alloc {w : World} {g : Nat} {v : Value} {xs : List Int} (h : IsW w g v xs) (o : Obj) : IsW (w.alloc o) g v xs := h.kept ((Kept.refl w (fun _ => False)).alloc o) (fun h => h) (fun _ _ h => h)

theorem Puts.of_alloc {w w' : World} {o : Obj} {g : Nat} {v : Value} {xs : List Int} (h : Puts (w.alloc o) g v xs w') : Puts w g v xs w' := by
  obtain ⟨v', h1, h2, h3⟩ := h
  refine ⟨v', h1, ?_, ((Kept.refl w _).alloc o).trans h3 (fun _ _ h => h)⟩
  rcases h2 with e | ⟨k, e, hk⟩
  · exact .inl e
  · exact .inr ⟨k, e, by simp at hk; omega⟩

/-- The bytes of a number from 0 on, the highest first. -/
def be4 (n : Int) : List Int := [n / 16777216, n / 65536 % 256, n / 256 % 256, n % 256]

set_option maxHeartbeats 400000 in
theorem wUint32_any (g : Nat) (v : Value) (xs : List Int) (n : Int) (w : World) (h : IsW w g v xs) (hn : 0 ≤ n) (hn' : n < 4294967296) (hb : xs.length + 4 ≤ 140737488355328) :
    Calls Tryz.prog 28 #[.pointer (some ⟨g, 0, none⟩), .int .u32 n] w fun e w' => e = .returned (.tuple #[]) ∧ Puts w g v (xs ++ be4 n) w' := by
  have H : Hid (IsW w g v xs) := h
  clear h
  go_enter Tryz.func28, Tryz.ntmps28
  go_wp2_with fail
  refine (add_any g v _ xs (be4 n) _ (H.out.alloc _) (sees_new _ (be4 n) (by simp [be4]) (by simp [be4])) (by simp [be4]; omega)).mono ?_
  rintro e w1 ⟨rfl, hp⟩
  have HP : Hid (Puts w g v (xs ++ be4 n) w1) := hp.of_alloc
  clear hp
  go_wp2
  go_end0
  exact ⟨rfl, HP.out⟩

/-- An int32's number in its four bytes: below 0 2^32 more. -/
def up32 (n : Int) : Int := n % 4294967296

set_option maxHeartbeats 400000 in
theorem wInt32_any (g : Nat) (v : Value) (xs : List Int) (n : Int) (w : World) (h : IsW w g v xs) (hb : xs.length + 4 ≤ 140737488355328) :
    Calls Tryz.prog 132 #[.pointer (some ⟨g, 0, none⟩), .int .i32 n] w fun e w' => e = .returned (.tuple #[]) ∧ Puts w g v (xs ++ be4 (up32 n)) w' := by
  have H : Hid (IsW w g v xs) := h
  clear h
  go_enter Tryz.func132, Tryz.ntmps132
  go_wp2_with fail
  refine (wUint32_any g v xs (up32 n) _ H.out (by unfold up32; omega) (by unfold up32; omega) hb).mono ?_
  rintro e w1 ⟨rfl, hp⟩
  have HP : Hid (Puts w g v (xs ++ be4 (up32 n)) w1) := hp
  clear hp
  go_wp2
  go_end0
  exact ⟨rfl, HP.out⟩

/-- bytes.Clone: nil of nil; else the bytes in a new row. -/
theorem clone_any (u : Value) (ys : List Int) (w : World) (hu : Sees w u ys) (hb : ys.length ≤ 140737488355328) :
    Calls Tryz.prog 51 #[u] w fun e w' => ∃ v', e = .returned v' ∧ Owns w' w.heap.size v' ys ∧ Below w.heap.size w w' := by
  obtain ⟨i0, hi, hz0, hz1, hz2⟩ := info_parts Tryz.infoByte'
  have HU : Hid (Sees w u ys) := hu
  obtain ⟨ao, cap, rfl, h1, h2, h0, h3⟩ := hu
  cases ao with
  | none =>
    have hy : ys = [] := List.eq_nil_of_length_eq_zero (by have := h0 rfl; omega)
    subst hy
    obtain rfl := h0 rfl
    clear HU h3
    have hnil : ∀ w, (binOp .eql 30 (.slice none 0 0) (.slice none 0 0)).run Tryz.prog w = .ok (.bool true) w := fun w => Lib.run_eql_slice_nil w 30 5 none 0 0 0 0 Tryz.underlying30
    go_enter Tryz.func51, Tryz.ntmps51
    go_wp2
    go_ret
    exact ⟨_, rfl, World.ownsRow_nil _ _ _ _, Below.refl _ _⟩
  | some ad =>
    clear h3 h0
    have hnil : ∀ w, (binOp .eql 30 (.slice (some ad) ys.length cap) (.slice none 0 0)).run Tryz.prog w = .ok (.bool false) w := fun w => Lib.run_eql_slice_nil w 30 5 (some ad) ys.length cap 0 0 Tryz.underlying30
    have hown0 : Owns (w.alloc (.cells #[] 5)) 0 (.slice (some ⟨w.heap.size, 0, none⟩) 0 0) [] := World.ownsRow_lit w #[] 0 (Nat.zero_le _) (Nat.zero_le _) rfl
    have HO : Hid (Owns (w.alloc (.cells #[] 5)) 0 (.slice (some ⟨w.heap.size, 0, none⟩) 0 0) []) := hown0
    clear hown0
    go_enter Tryz.func51, Tryz.ntmps51
    go_wp2_with (at_builtin; refine wpList_app _ rfl (.tmp 5) (.tmp 6) 30 rfl i0 Tryz.underlying30 hi hz0 hz1 hz2 _ _ [] ys rfl rfl HO.out (HU.out.below ((Below.refl w.heap.size _).alloc (Nat.le_refl _) _) (Nat.le_refl _)) (by simpa using hb) ?_)
    intro v' w1 hown hgrow hnew
    have hbel : Below w.heap.size w w1 := ((Below.refl w.heap.size w).alloc (Nat.le_refl _) _).grown hgrow (by simp) (fun k hk => by simp [Value.ownBlock] at hk; omega)
    have hown' : Owns w1 w.heap.size v' ys := owns_base hown (fun k hk => by
      rcases hnew with e | ⟨j, e, hj⟩
      · rw [e] at hk; simp [Value.ownBlock] at hk; omega
      · rw [e] at hk; simp at hk hj; omega)
    have HR : Hid (Owns w1 w.heap.size v' ys) := hown'
    clear hown hgrow hnew HO HU hown'
    go_wp2
    go_ret
    exact ⟨_, rfl, HR.out, hbel⟩

set_option maxHeartbeats 400000 in
theorem wBytes_any (g : Nat) (v : Value) (xs : List Int) (w : World) (h : IsW w g v xs) (hb : xs.length ≤ 140737488355328) :
    Calls Tryz.prog 31 #[.pointer (some ⟨g, 0, none⟩)] w fun e w' => ∃ v', e = .returned v' ∧ Owns w' w.heap.size v' xs ∧ Below w.heap.size w w' := by
  have hc := cell_of_one h.1
  have H : Hid (IsW w g v xs) := h
  clear h
  go_enter Tryz.func31, Tryz.ntmps31
  go_wp2_with fail
  refine (clone_any v xs _ (Sees.own H.out.2) hb).mono ?_
  rintro e w1 ⟨v', rfl, hp⟩
  have HP : Hid (Owns w1 w.heap.size v' xs ∧ Below w.heap.size w w1) := hp
  clear hp
  go_wp2
  go_ret
  exact ⟨_, rfl, HP.out⟩

end Go.Proofs.YtldcbabgommghaaGreatDoor
