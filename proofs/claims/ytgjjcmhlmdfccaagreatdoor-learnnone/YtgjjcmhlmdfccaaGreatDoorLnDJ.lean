/- A list that rises does so from each place; a part of a list, as Go cuts it. No Go function is walked here. -/
import Derived.Test.YtgjjcmhlmdfccaaGreatDoorRisesTJ
import Derived.Test.YtgjjcmhlmdfccaaGreatDoorCopyXJ
import Derived.Test.YtgjjcmhlmdfccaaGreatDoorLeafSumJ
import Derived.Test.YtgjjcmhlmdfccaaGreatDoorProg
import Derived.Deep.MidRow
import Derived.Laws.Entries
import Derived.Test.YtgjjcmhlmdfccaaGreatDoorCopyTJ
namespace Go.Proofs.YtgjjcmhlmdfccaaGreatDoor
open Go.RowKit
set_option maxRecDepth 8000

end Go.Proofs.YtgjjcmhlmdfccaaGreatDoor

/- CopyTxns of lagoonref00: the same transactions, in a list and blocks of their own. -/
namespace Go.Proofs.YtgjjcmhlmdfccaaGreatDoor
open Go.RowKit
set_option maxRecDepth 8000

theorem Tryz.infoTxF : (Tryz.prog.info? 37).map (fun i => (i.zero, i.size, i.bytes)) = some (some (.agg #[.int .u32 0, .int .u32 0, .int .i8 0, .int .u32 0, .int .i64 0, .int .i8 0, .string ⟨#[]⟩, .slice none 0 0, .slice none 0 0, .int .i32 0, .bool false, .bool false, .int .i64 0, .int .i32 0, .slice none 0 0, .slice none 0 0]), 16, 168) := by kernel_rfl

/-- The cells es are those of the transactions l, whose requests lie in blocks from B on, none of them the list's own. -/
def FullE (W : World) (B : Nat) (v : Value) (es : List (List Value)) (l : List TxD) : Prop :=
  es.length = l.length ∧ ∀ j (hj : j < es.length) (hl : j < l.length), ∃ rc, es[j] = txHead l[j] ++ rc ∧ RqIn W (fun q => B ≤ q ∧ q < W.heap.size ∧ v.ownBlock ≠ some q) rc l[j].rq

theorem FullE.nil (W : World) (B : Nat) (v : Value) : FullE W B v [] [] := ⟨rfl, fun j hj => by simp at hj⟩

theorem full_sees {w : World} {B : Nat} {v : Value} {es : List (List Value)} {l : List TxD} (h : FullE w B v es l) (ho : w.ownsRow B 37 16 v l.length es.flatten) : SeesTxs w v l := by
  have hz : ∀ c ∈ es, c.length = 16 := fun c hc => by
    obtain ⟨j, hj, rfl⟩ := List.getElem_of_mem hc
    obtain ⟨rc, e, hr⟩ := h.2 j hj (by rw [← h.1]; exact hj)
    rw [e]
    simp [txHead, hr.sees.len]
  refine ⟨es, seesR_own (base := B) (t := 37) (by rw [h.1]; exact ho) hz, h.1, fun i h1 h2 => ?_⟩
  obtain ⟨rc, e, hr⟩ := h.2 i h1 h2
  exact ⟨rc, e, hr.sees⟩

theorem full_kept {w W : World} {B : Nat} {v : Value} {es : List (List Value)} {l : List TxD} {S : Nat → Prop} (h : FullE w B v es l) (ho : w.ownsRow B 37 16 v l.length es.flatten) (hk : Kept w W S) (hS : ∀ q, S q → q < B ∨ w.heap.size ≤ q) : FullE W B v es l ∧ W.ownsRow B 37 16 v l.length es.flatten := by
  refine ⟨⟨h.1, fun j hj hl => ?_⟩, ownsRow_kept ho hk (fun q hq e => ?_)⟩
  · obtain ⟨rc, e, hr⟩ := h.2 j hj hl
    refine ⟨rc, e, RqIn.kept hk (fun q hq => ⟨fun e => ?_, hq.1, Nat.lt_of_lt_of_le hq.2.1 hk.size, hq.2.2⟩) hr⟩
    have := hS q e
    omega
  · have := ho.lt q hq
    have := hS q e
    omega

/-- One transaction more. -/
theorem full_round {wr w5 w6 : World} {B : Nat} {v v' : Value} {es : List (List Value)} {l : List TxD} {t : TxD} {ds : List Value} {o : Obj}
    (h : FullE wr B v es l) (hBw : B ≤ wr.heap.size) (hvo : ∀ q, v.ownBlock = some q → B ≤ q ∧ q < wr.heap.size) (b5 : Below wr.heap.size wr w5) (hr5 : RqIn w5 (fun q => wr.heap.size ≤ q ∧ q < w5.heap.size) ds t.rq)
    (hgrow : (w5.alloc o).grownBy w6 v.ownBlock) (hat : v'.ownBlock = v.ownBlock ∨ v'.ownBlock = some (w5.heap.size + 1)) :
    FullE w6 B v' (es ++ [txHead t ++ ds]) (l ++ [t]) := by
  have h5 := b5.size
  have h6 := hgrow.size
  simp at h6
  have hat' : ∀ q, v'.ownBlock = some q → (v.ownBlock = some q) ∨ q = w5.heap.size + 1 := fun q hq => by
    rcases hat with h | h
    · exact .inl (by rw [← h]; exact hq)
    · rw [hq] at h; simp at h; exact .inr h
  have K5 : Kept w5 w6 (fun q => v.ownBlock = some q) := ((Kept.refl w5 (fun q => v.ownBlock = some q)).alloc o).grown hgrow (fun q _ h => h)
  have Kr : Kept wr w6 (fun q => wr.heap.size ≤ q ∨ v.ownBlock = some q) := ((Below.kept b5).mono (fun q _ h => Or.inl h)).trans K5 (fun q _ h => .inr h)
  refine ⟨by simp [h.1], fun j hj hl => ?_⟩
  by_cases hjk : j < es.length
  · have hjl : j < l.length := by rw [← h.1]; exact hjk
    obtain ⟨rc, e, hr⟩ := h.2 j hjk hjl
    refine ⟨rc, by rw [List.getElem_append_left hjk, List.getElem_append_left hjl]; exact e, ?_⟩
    rw [List.getElem_append_left hjl]
    refine RqIn.kept Kr (fun q hq => ⟨fun h => ?_, hq.1, by omega, fun e => ?_⟩) hr
    · rcases h with h | h
      · omega
      · exact hq.2.2 h
    · rcases hat' q e with h | h
      · exact hq.2.2 h
      · omega
  · have hj' : j = es.length := by simp at hj; omega
    subst hj'
    have e2 : (l ++ [t])[es.length] = t := by
      rw [List.getElem_append_right (by rw [h.1]; omega)]
      simp [h.1]
    refine ⟨ds, ?_, ?_⟩
    · rw [List.getElem_append_right (by omega), e2]
      simp
    · rw [e2]
      refine RqIn.kept K5 (fun q hq => ⟨fun h => ?_, by omega, by omega, fun e => ?_⟩) hr5
      · have := hvo q h; omega
      · rcases hat' q e with h | h
        · have := hvo q h; omega
        · omega

end Go.Proofs.YtgjjcmhlmdfccaaGreatDoor

/- A place of a list of transactions in memory: its sixteen cells, its address. -/
namespace Go.Proofs.YtgjjcmhlmdfccaaGreatDoor
open Go.RowKit
set_option maxRecDepth 8000

/-- The place k of a list in memory. -/
theorem txs_rowT {w : World} {v : Value} {l : List TxD} (h : SeesTxs w v l) (k : Nat) (hk : k < l.length) : ∃ b off cap cs, v = .slice (some ⟨b, off, none⟩) l.length cap ∧ SeesTx w cs l[k] ∧ cs.length = 16 ∧ w.rangeAt b (off + k * 16) cs := by
  obtain ⟨cs, ⟨ao, cap, rfl, h1, h2, h0, h3⟩, hl, hs⟩ := h
  rcases h3 with h3 | ⟨b, off, rfl, h3⟩
  · subst h3; simp at hl; omega
  · refine ⟨b, off, cap, cs[k]'(by omega), by rw [hl], hs k (by omega) hk, (hs k (by omega) hk).len, fun j v hj => ?_⟩
    have hj16 : j < 16 := by
      have := (List.getElem?_eq_some_iff.1 hj).1
      rw [(hs k (by omega) hk).len] at this
      exact this
    rw [h3 k (by omega) j hj16, List.getD_eq_getElem?_getD, hj]
    rfl

theorem ixT16 (b off len cap q : Nat) (h : q < len) (W : World) : (Instr.indexAt 47 (.slice (some ⟨b, off, none⟩) len cap) (.int .i64 (q : Int))).run Tryz.prog W = .ok (.pointer (some ⟨b, off + q * 16, none⟩)) W := by
  have ht : Tryz.prog.underlying 47 = some (.slice (Tryz.prog.elem 47)) := by kernel_rfl
  have hs : ∀ w, (sizeOf (Tryz.prog.elem 47)).run Tryz.prog w = .ok 16 w := fun w => by kernel_rfl
  rw [run_indexAt_slice (h := ht), if_pos (by omega), hs]
  simp [Addr.add]
end Go.Proofs.YtgjjcmhlmdfccaaGreatDoor

/- A Learner's Last and goOn. -/
namespace Go.Proofs.YtgjjcmhlmdfccaaGreatDoor
open Go.RowKit
set_option maxRecDepth 8000
set_option linter.unusedSimpArgs false

/-- A Learner in memory, and the transactions that it has gathered, in blocks of their own. -/
structure LnS (p B : Nat) (W : World) (ep : Int) (hi nx ba v : Value) (es : List (List Value)) (l : List TxD) (dn : Bool) : Prop where
  at_ : LnAt W p ep hi nx ba v dn
  own : W.ownsRow B 37 16 v l.length es.flatten
  full : FullE W B v es l
  pB : p < B
  bW : B ≤ W.heap.size

theorem LnS.later {p B : Nat} {W W' : World} {ep : Int} {hi nx ba v : Value} {es : List (List Value)} {l : List TxD} {dn : Bool} (h : LnS p B W ep hi nx ba v es l dn) (hb : Below W.heap.size W W') : LnS p B W' ep hi nx ba v es l dn := by
  obtain ⟨h1, h2⟩ := full_kept h.full h.own (Below.kept hb) (fun q hq => .inr hq)
  exact ⟨(hb.block p (lt_of_block h.at_)).trans h.at_, h2, h1, h.pB, Nat.le_trans h.bW hb.size⟩

theorem LnS.cells {p B : Nat} {W : World} {ep : Int} {hi nx ba v : Value} {es : List (List Value)} {l : List TxD} {dn : Bool} (h : LnS p B W ep hi nx ba v es l dn) : W.cell? ⟨p, 0, none⟩ = some (.int .u32 ep) ∧ W.cell? ⟨p, 1, none⟩ = some hi ∧ W.cell? ⟨p, 2, none⟩ = some nx ∧ W.cell? ⟨p, 3, none⟩ = some ba ∧ W.cell? ⟨p, 4, none⟩ = some v ∧ W.cell? ⟨p, 5, none⟩ = some (.bool dn) := by
  have := h.at_
  exact ⟨cell_of_row _ _ 0 _ _ _ this, cell_of_row _ _ 1 _ _ _ this, cell_of_row _ _ 2 _ _ _ this, cell_of_row _ _ 3 _ _ _ this, cell_of_row _ _ 4 _ _ _ this, cell_of_row _ _ 5 _ _ _ this⟩

theorem endN_any (e n : Int) (w : World) : Calls Tryz.prog 300 #[zx e n] w fun r w' => r = .returned (zx e n) ∧ Below w.heap.size w w' := by
  have HB : Hid (Below w.heap.size w ((w.alloc (.cells #[.int .u32 e, .int .u32 n] 74)).alloc (.cells #[.int .u32 e, .int .u32 n] 27))) := two_alloc _ _ _
  have r1 : ((w.alloc (.cells #[.int .u32 e, .int .u32 n] 74)).alloc (.cells #[.int .u32 e, .int .u32 n] 27)).heap[w.heap.size + 1]? = some (.cells #[.int .u32 e, .int .u32 n] 27 (0, 0)) := by have := heap_alloc_new (w.alloc (.cells #[.int .u32 e, .int .u32 n] 74)) (.cells #[.int .u32 e, .int .u32 n] 27 (0, 0)); simpa using this
  go_enter Tryz.func300, Tryz.ntmps300
  go_wp2
  exact bodyPost_ret (results_cell_row Tryz.results300 _ _ _ _ _ _ _ rfl r1 Tryz.underlying27 rfl zxSz) rfl ⟨rfl, HB.out⟩

theorem methodN (d : Nat) (e n : Int) (w : World) : (method (d + 1) 74 (zx e n) "lagoon/learn.end").run Tryz.prog w = .ok (300, zx e n) w := by kernel_rfl

/-- The zxid of the last so far. -/
def lnE (e : Int) (l : List TxD) : Int := (l.getLast?.map (·.ep)).getD e
def lnN (n : Int) (l : List TxD) : Int := (l.getLast?.map (·.n)).getD n

set_option maxHeartbeats 1000000 in
theorem lastL_any {p B : Nat} {w : World} {ep : Int} {hi v : Value} {f : Nat} {a b : Array Value} {e n : Int} {es : List (List Value)} {l : List TxD} {dn : Bool} (h : LnS p B w ep hi (.func (.func f) a b) (.iface 74 (zx e n)) v es l dn) :
    Calls Tryz.prog 9 #[.pointer (some ⟨p, 0, none⟩)] w fun r w' => r = .returned (zx (lnE e l) (lnN n l)) ∧ Below w.heap.size w w' := by
  have hbA : Below w.heap.size w (w.alloc (.cells #[.int .u32 0, .int .u32 0] 27)) := one_alloc _ _
  have hA := h.later hbA
  have rA : (w.alloc (.cells #[.int .u32 0, .int .u32 0] 27)).heap[w.heap.size]? = some (.cells #[.int .u32 0, .int .u32 0] 27 (0, 0)) := heap_alloc_new _ _
  have hlp := lt_of_block h.at_
  obtain ⟨V, hV⟩ : ∃ V, V = w.alloc (.cells #[.int .u32 0, .int .u32 0] 27) := ⟨_, rfl⟩
  have HV : Hid (V = w.alloc (.cells #[.int .u32 0, .int .u32 0] 27)) := hV
  rw [← hV] at hbA hA rA
  have HN : Hid _ := noneL_yes hA.at_
  obtain ⟨_, _, _, c3, c4, _⟩ := hA.cells
  have H : Hid (Below w.heap.size w V ∧ V.heap[w.heap.size]? = some (.cells #[.int .u32 0, .int .u32 0] 27 (0, 0)) ∧ LnS p B V ep hi (.func (.func f) a b) (.iface 74 (zx e n)) v es l dn) := ⟨hbA, rA, hA⟩
  obtain ⟨ao, cap, rfl, hlc, hcm⟩ := txs_shape (full_sees hA.full hA.own)
  unfold maxLen at hcm
  have hlV := lt_of_block hA.at_
  have g0 := cell_of_row _ _ 0 _ _ _ rA
  have g1 := cell_of_row _ _ 1 _ _ _ rA
  have f0 := frozen_of_row _ _ 0 _ _ rA
  have f1 := frozen_of_row _ _ 1 _ _ rA
  simp at g0 g1
  clear hV hbA hA rA h
  by_cases hl : l = []
  · subst hl
    go_enter Tryz.func9, Tryz.ntmps9
    go_wp2_with fail
    go_at_call 15
    rw [← HV.out]
    refine Calls.mono HN.out ?_
    rintro r w' ⟨rfl, rfl⟩
    have hmt := fun d => methodN d e n
    go_wp2_with fail
    refine (endN_any e n w').mono ?_
    rintro r w2 ⟨rfl, b2⟩
    have rb := (b2.block _ (lt_of_block H.out.2.1)).trans H.out.2.1
    clear g0 g1 f0 f1
    have g0 := cell_of_row _ _ 0 _ _ _ rb
    have g1 := cell_of_row _ _ 1 _ _ _ rb
    have f0 := frozen_of_row _ _ 0 _ _ rb
    have f1 := frozen_of_row _ _ 1 _ _ rb
    simp at g0 g1
    have k2 : Kept w2 ((w2.setCell ⟨w.heap.size, 0, none⟩ (.int .u32 e)).setCell ⟨w.heap.size, 1, none⟩ (.int .u32 n)) (· = w.heap.size) := ((Kept.refl w2 (· = w.heap.size)).setCell ⟨w.heap.size, 0, none⟩ _ (fun _ => rfl)).setCell ⟨w.heap.size, 1, none⟩ _ (fun _ => rfl)
    have b02 : Below w.heap.size w w2 := H.out.1.trans (b2.mono H.out.1.size)
    have H2 : Hid (Below w.heap.size w ((w2.setCell ⟨w.heap.size, 0, none⟩ (.int .u32 e)).setCell ⟨w.heap.size, 1, none⟩ (.int .u32 n)) ∧ ((w2.setCell ⟨w.heap.size, 0, none⟩ (.int .u32 e)).setCell ⟨w.heap.size, 1, none⟩ (.int .u32 n)).heap[w.heap.size]? = some (.cells #[.int .u32 e, .int .u32 n] 27 (0, 0))) := ⟨b02.trans (k2.below b02.size (fun k e => by omega)), by rw [heap_setR _ (heap_setR _ rb)]; rfl⟩
    clear rb k2 b02 b2
    go_wp2
    exact bodyPost_ret (results_cell_row Tryz.results9 _ _ _ _ _ _ _ rfl H2.out.2 Tryz.underlying27 rfl zxSz) rfl ⟨rfl, H2.out.1⟩
  · have hpos : 0 < l.length := List.length_pos_iff.2 hl
    obtain ⟨q, hq⟩ : ∃ q : Nat, q = l.length - 1 := ⟨_, rfl⟩
    have hql : q < l.length := by omega
    obtain ⟨b', off, cap', cs, hv, hs, hc16, l0⟩ := txs_rowT (full_sees H.out.2.2.full H.out.2.2.own) q hql
    have hao := (Value.slice.inj hv).1
    subst hao
    obtain ⟨t, ht⟩ : ∃ t, t = l[q] := ⟨_, rfl⟩
    rw [← ht] at hs
    have c0 : V.cell? ⟨b', off + q * 16, none⟩ = some (.int .u32 t.ep) := l0 0 _ (by obtain ⟨rc, rfl, _⟩ := hs; rfl)
    have c1 : V.cell? ⟨b', off + q * 16 + 1, none⟩ = some (.int .u32 t.n) := l0 1 _ (by obtain ⟨rc, rfl, _⟩ := hs; rfl)
    have hgl : l.getLast? = some t := by
      rw [List.getLast?_eq_getElem?, ← hq, List.getElem?_eq_getElem hql, ht]
    have HL : Hid (lnE e l = t.ep ∧ lnN n l = t.n) := by unfold lnE lnN; rw [hgl]; exact ⟨rfl, rfl⟩
    have hqi : (l.length : Int) - 1 = (q : Int) := by omega
    have hix : ∀ W, (Instr.indexAt 47 (.slice (some ⟨b', off, none⟩) l.length cap) (.int .i64 ((l.length : Int) - 1))).run Tryz.prog W = .ok (.pointer (some ⟨b', off + q * 16, none⟩)) W := fun W => by
      rw [hqi]
      exact ixT16 b' off l.length cap q hql W
    obtain ⟨te, hte⟩ : ∃ te, te = t.ep := ⟨_, rfl⟩
    obtain ⟨tn, htn⟩ : ∃ tn, tn = t.n := ⟨_, rfl⟩
    rw [← hte] at c0 HL
    rw [← htn] at c1 HL
    have k2 : Kept V ((V.setCell ⟨w.heap.size, 0, none⟩ (.int .u32 te)).setCell ⟨w.heap.size, 1, none⟩ (.int .u32 tn)) (· = w.heap.size) := ((Kept.refl V (· = w.heap.size)).setCell ⟨w.heap.size, 0, none⟩ _ (fun _ => rfl)).setCell ⟨w.heap.size, 1, none⟩ _ (fun _ => rfl)
    have H2 : Hid (Below w.heap.size w ((V.setCell ⟨w.heap.size, 0, none⟩ (.int .u32 te)).setCell ⟨w.heap.size, 1, none⟩ (.int .u32 tn)) ∧ ((V.setCell ⟨w.heap.size, 0, none⟩ (.int .u32 te)).setCell ⟨w.heap.size, 1, none⟩ (.int .u32 tn)).heap[w.heap.size]? = some (.cells #[.int .u32 te, .int .u32 tn] 27 (0, 0))) := ⟨H.out.1.trans (k2.below H.out.1.size (fun k e => by omega)), by rw [heap_setR _ (heap_setR _ H.out.2.1)]; rfl⟩
    clear hv hs l0 ht hgl hq k2 hte htn
    go_enter Tryz.func9, Tryz.ntmps9
    go_wp2_with fail
    go_at_call 15
    rw [← HV.out]
    refine Calls.mono HN.out ?_
    rintro r w' ⟨rfl, rfl⟩
    clear HV
    go_wp2
    exact bodyPost_ret (results_cell_row Tryz.results9 _ _ _ _ _ _ _ rfl H2.out.2 Tryz.underlying27 rfl zxSz) rfl ⟨by rw [HL.out.1, HL.out.2], H2.out.1⟩

theorem lastL_none {w : World} {v : Value} (h : NoLn w v) : Calls Tryz.prog 9 #[v] w fun r w' => r = .returned (zx 0 0) ∧ Below w.heap.size w w' := by
  have hbA : Below w.heap.size w (w.alloc (.cells #[.int .u32 0, .int .u32 0] 27)) := one_alloc _ _
  have HN : Hid _ := noneL_no (h.later hbA)
  obtain ⟨po, rfl⟩ : ∃ po, v = .pointer po := by
    rcases h with rfl | ⟨p, _, _, _, _, _, rfl, _⟩
    · exact ⟨_, rfl⟩
    · exact ⟨_, rfl⟩
  have HB : Hid (Below w.heap.size w (w.alloc (.cells #[.int .u32 0, .int .u32 0] 27))) := hbA
  clear h hbA
  go_enter Tryz.func9, Tryz.ntmps9
  go_wp2_with fail
  go_at_call 15
  refine Calls.mono HN.out ?_
  rintro r w' ⟨rfl, rfl⟩
  go_wp2
  exact bodyPost_ret (results_cell_row Tryz.results9 _ _ _ _ _ _ _ rfl (heap_alloc_new _ _) Tryz.underlying27 rfl zxSz) rfl ⟨rfl, HB.out⟩
end Go.Proofs.YtgjjcmhlmdfccaaGreatDoor
