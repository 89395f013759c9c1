/- What beginning answers of nothing; Brought of a Learner that is none. -/
import Derived.Test.YtgjjcmhlmdfccaaGreatDoorRgIJ
import Derived.Test.YtgjjcmhlmdfccaaGreatDoorClDJ
namespace Go.Proofs.YtgjjcmhlmdfccaaGreatDoor
open Go.RowKit
set_option maxRecDepth 8000
set_option linter.unusedSimpArgs false
set_option linter.unusedVariables false

set_option maxHeartbeats 1000000 in
theorem brought_none {w : World} {v : Value} (h : NoLn w v) : Calls Tryz.prog 7 #[v] w fun e w' => e = .returned (.tuple #[.agg brZ, .bool false]) ∧ Below w.heap.size w w' := by
  have hbA : Below w.heap.size w (w.alloc (.cells brZ 54)) := one_alloc _ _
  have HN : Hid _ := noneL_no (h.later hbA)
  obtain ⟨po, rfl⟩ : ∃ po, v = .pointer po := by
    rcases h with rfl | ⟨p, _, _, _, _, _, rfl, _⟩
    · exact ⟨_, rfl⟩
    · exact ⟨_, rfl⟩
  have HB : Hid (Below w.heap.size w (w.alloc (.cells brZ 54))) := hbA
  clear h hbA
  go_enter Tryz.func7, Tryz.ntmps7
  go_wp2_with fail
  go_at_call 15
  refine Calls.mono HN.out ?_
  rintro r w' ⟨rfl, rfl⟩
  go_wp2
  refine bodyPost_ret (v := .tuple #[.agg brZ, .bool false]) ?_ rfl ⟨rfl, HB.out⟩
  have hres : Tryz.f7.results = #[.cell 2 54, .tmp 3] := by kernel_rfl
  have l2 := run_loadVar_row (P := Tryz.prog) (w.alloc (.cells brZ 54)) w.heap.size 54 54 _ _ _ (heap_alloc_new _ _) Tryz.underlying54 rfl brSz
  simp only [results, hres]
  simp [Sem.run_bind, Result.andThen, asAddr, l2]

set_option maxHeartbeats 1000000 in
theorem beginning_no (e n : Int) (w : World) : Calls Tryz.prog 17 #[.iface 74 (zx e n)] w fun r w' => r = .returned (.agg #[.int .u32 0, .bool false, .slice none 0 0, .int .u32 e, .int .u32 n, .slice none 0 0]) ∧ Below w.heap.size w w' := by
  have hmt := fun d => methodN d e n
  have ht1 : ∀ w, (Instr.typeAssert (.iface 74 (zx e n)) 46 74 true).run Tryz.prog w = .ok (.tuple #[zx e n, .bool true]) w := fun w => by kernel_rfl
  have ht2 : ∀ w, (Instr.typeAssert (.iface 74 (zx e n)) 46 87 true).run Tryz.prog w = .ok (.tuple #[zx 0 0, .bool false]) w := fun w => by kernel_rfl
  have hbA : Below w.heap.size w ((w.alloc (.cells brZ 54)).alloc (.cells brZ 54)) := two_alloc _ _ _
  have rA : ((w.alloc (.cells brZ 54)).alloc (.cells brZ 54)).heap[w.heap.size]? = some (.cells brZ 54 (0, 0)) := by rw [Below.heap_alloc _ _ _ (by simp)]; exact heap_alloc_new _ _
  have rB : ((w.alloc (.cells brZ 54)).alloc (.cells brZ 54)).heap[w.heap.size + 1]? = some (.cells brZ 54 (0, 0)) := by have := heap_alloc_new (w.alloc (.cells brZ 54)) (.cells brZ 54 (0, 0)); simpa using this
  obtain ⟨V, hV⟩ : ∃ V, V = (w.alloc (.cells brZ 54)).alloc (.cells brZ 54) := ⟨_, rfl⟩
  have HV : Hid (V = (w.alloc (.cells brZ 54)).alloc (.cells brZ 54)) := hV
  rw [← hV] at hbA rA rB
  have H : Hid (Below w.heap.size w V ∧ V.heap[w.heap.size]? = some (.cells brZ 54 (0, 0)) ∧ V.heap[w.heap.size + 1]? = some (.cells brZ 54 (0, 0))) := ⟨hbA, rA, rB⟩
  clear hV hbA rA rB
  go_enter Tryz.func17, Tryz.ntmps17
  go_wp2_with fail
  rw [← HV.out]
  refine (endN_any e n V).mono ?_
  rintro r w2 ⟨rfl, b2⟩
  have rA := (b2.block _ (lt_of_block H.out.2.1)).trans H.out.2.1
  have rB := (b2.block _ (lt_of_block H.out.2.2)).trans H.out.2.2
  have b02 : Below w.heap.size w w2 := H.out.1.trans (b2.mono H.out.1.size)
  have g3 := cell_of_row _ _ 3 _ _ _ rB
  have g4 := cell_of_row _ _ 4 _ _ _ rB
  have f3 := frozen_of_row _ _ 3 _ _ rB
  have f4 := frozen_of_row _ _ 4 _ _ rB
  simp at g3 g4
  have k2 : Kept w2 ((w2.setCell ⟨w.heap.size + 1, 3, none⟩ (.int .u32 e)).setCell ⟨w.heap.size + 1, 4, none⟩ (.int .u32 n)) (· = w.heap.size + 1) := ((Kept.refl w2 (· = w.heap.size + 1)).setCell ⟨w.heap.size + 1, 3, none⟩ _ (fun _ => rfl)).setCell ⟨w.heap.size + 1, 4, none⟩ _ (fun _ => rfl)
  have sB : ((w2.setCell ⟨w.heap.size + 1, 3, none⟩ (.int .u32 e)).setCell ⟨w.heap.size + 1, 4, none⟩ (.int .u32 n)).heap[w.heap.size + 1]? = some (.cells #[.int .u32 0, .bool false, .slice none 0 0, .int .u32 e, .int .u32 n, .slice none 0 0] 54 (0, 0)) := by rw [heap_setR _ (heap_setR _ rB)]; rfl
  have sA := k2.heap rA (by omega)
  have b03 := b02.trans (k2.below b02.size (fun k e => by omega))
  have b04 : Below w.heap.size w (((w2.setCell ⟨w.heap.size + 1, 3, none⟩ (.int .u32 e)).setCell ⟨w.heap.size + 1, 4, none⟩ (.int .u32 n)).setRow w.heap.size #[.int .u32 0, .bool false, .slice none 0 0, .int .u32 e, .int .u32 n, .slice none 0 0]) := b03.trans (Kept.below (S := fun k => k = w.heap.size) ⟨rfl, rfl, rfl, by simp, fun k _ hn => setRow_other _ _ _ _ hn⟩ b03.size (fun k e => by omega))
  have v0 := setRow_heap _ w.heap.size _ #[.int .u32 0, .bool false, .slice none 0 0, .int .u32 e, .int .u32 n, .slice none 0 0] _ _ sA
  have H2 : Hid _ := b04
  clear k2 b02 b2 rA rB b03 b04 HV H hmt
  go_wp2_with (first
    | (refine wpList_load_row rfl 54 _ rfl (w.heap.size + 1) rfl 54 _ (0, 0) _ sB Tryz.underlying54 rfl brSz ?_)
    | (refine wpList_store_row rfl 54 _ _ rfl w.heap.size _ rfl rfl 54 _ sA brSz rfl (by simp [Value.oneCell']) ?_))
  exact bodyPost_ret (results_cell_row Tryz.results17 _ _ _ _ _ _ _ rfl v0 Tryz.underlying54 rfl brSz) rfl ⟨rfl, H2.out⟩
end Go.Proofs.YtgjjcmhlmdfccaaGreatDoor

/- A row one of whose cells holds a list of transactions that grows. -/
namespace Go.Proofs.YtgjjcmhlmdfccaaGreatDoor
open Go.RowKit
set_option maxRecDepth 8000

/-- The cells of a transaction that says nothing. -/
abbrev txZL : Array Value := #[.int .u32 0, .int .u32 0, .int .i8 0, .int .u32 0, .int .i64 0, .int .i8 0, .string ⟨#[]⟩, .slice none 0 0, .slice none 0 0, .int .i32 0, .bool false, .bool false, .int .i64 0, .int .i32 0, .slice none 0 0, .slice none 0 0]

theorem rowL (W : World) (t : TypeId) (Z C : Array Value) : (W.alloc (.cells Z t)).heap[W.heap.size]? = some (.cells Z t (0, 0)) ∧ ((W.alloc (.cells Z t)).setRow W.heap.size C).heap[W.heap.size]? = some (.cells C t (0, 0)) ∧ Below W.heap.size W ((W.alloc (.cells Z t)).setRow W.heap.size C) := by
  have s1 : (W.alloc (.cells Z t)).heap[W.heap.size]? = some (.cells Z t (0, 0)) := heap_alloc_new _ _
  have k2 : Kept (W.alloc (.cells Z t)) ((W.alloc (.cells Z t)).setRow W.heap.size C) (fun k => k = W.heap.size) := ⟨rfl, rfl, rfl, by simp, fun k _ hn => setRow_other _ _ _ _ hn⟩
  exact ⟨s1, setRow_heap (W.alloc (.cells Z t)) W.heap.size _ C _ _ s1, ((Below.refl _ _).alloc (Nat.le_refl _) _).trans (k2.below (by simp) (fun k e => by omega))⟩

structure LsR (bo B : Nat) (T : TypeId) (cs : Array Value) (i : Nat) (W : World) (v : Value) (es : List (List Value)) (l : List TxD) : Prop where
  at_ : W.heap[bo]? = some (.cells cs T (0, 0))
  cell : cs[i]? = some v
  own : W.ownsRow B 37 16 v l.length es.flatten
  full : FullE W B v es l
  pB : bo < B
  bW : B ≤ W.heap.size

theorem LsR.later {bo B : Nat} {T : TypeId} {cs : Array Value} {i : Nat} {W W' : World} {v : Value} {es : List (List Value)} {l : List TxD} (h : LsR bo B T cs i W v es l) (hb : Below W.heap.size W W') : LsR bo B T cs i W' v es l := by
  obtain ⟨h1, h2⟩ := full_kept h.full h.own (Below.kept hb) (fun q hq => .inr hq)
  exact ⟨(hb.block bo (lt_of_block h.at_)).trans h.at_, h.cell, h2, h1, h.pB, Nat.le_trans h.bW hb.size⟩

/-- One transaction more: the clone lies in new blocks, the append and the store are known. -/
theorem LsR.grow {p B : Nat} {T : TypeId} {cs : Array Value} {i : Nat} {V V5 : World} {v : Value} {es : List (List Value)} {l : List TxD} (h : LsR p B T cs i V v es l) (t : TxD) (ds : List Value) (b5 : Below V.heap.size V V5) (hr5 : RqIn V5 (fun q => V.heap.size ≤ q ∧ q < V5.heap.size) ds t.rq) (hl : l.length ≤ 1000000) :
    ∃ v' w6, (Builtin.append_ #[47, 47] 47 #[v, .slice (some ⟨V5.heap.size, 0, none⟩) 1 1]).run Tryz.prog (V5.alloc (.cells (txHead t ++ ds).toArray 37)) = .ok v' w6 ∧
      w6.cell? ⟨p, i, none⟩ = some v ∧ w6.frozen? ⟨p, i, none⟩ = false ∧ LsR p B T (cs.setIfInBounds i v') i (w6.setCell ⟨p, i, none⟩ v') v' (es ++ [txHead t ++ ds]) (l ++ [t]) ∧
      Kept V w6 (fun k => v.ownBlock = some k) ∧ Kept V (w6.setCell ⟨p, i, none⟩ v') (fun k => v.ownBlock = some k ∨ k = p) ∧ (∃ b c, v' = .slice b (l.length + 1) c) ∧ (∀ k, v.ownBlock = some k → B ≤ k ∧ k < V.heap.size) := by
  obtain ⟨i0, hi', hz0, hz1, hz2⟩ := info_parts Tryz.infoTxF
  have hs5 := b5.size
  have h5 := h.later b5
  have hf := tx_form hr5.sees
  have hlen := hf.len
  have hBW := h.bW
  have hpB := h.pB
  obtain ⟨g1, c1, w6, hr6, ow6, gr6, li6, lt6⟩ := run_append_lies (P := Tryz.prog) (V5.alloc (.cells (txHead t ++ ds).toArray 37)) 47 47 B 37 i0 _ 16 168 Tryz.underlying47 hi' hz0 hz1 hz2 rfl (by decide) v l.length es.flatten (h5.own.alloc _) ⟨V5.heap.size, 0, none⟩ 1 1 (txHead t ++ ds) (by rw [hlen]) (fun j u hj => by rw [addrAdd, Nat.zero_add, cell_of_row _ _ _ _ _ _ (heap_alloc_new _ _), List.getElem?_toArray]; exact hj) (fun u hu => by
      have := hf.one
      rw [Array.all_eq_true_iff_forall_mem] at this
      exact this u (by simpa using hu)) (by decide) (by unfold maxLen; omega) (by omega) (by simp; omega) (V5.heap.size + 1) (by simp)
  have hvo : ∀ q, v.ownBlock = some q → B ≤ q ∧ q < V.heap.size := fun q e => h.own.lt q e
  have K5 : Kept V5 w6 (fun q => v.ownBlock = some q) := ((Kept.refl V5 (fun q => v.ownBlock = some q)).alloc _).grown gr6 (fun q _ h => h)
  have K : Kept V w6 (fun q => v.ownBlock = some q) := ((Below.kept b5).mono (fun q h1 h2 => by omega)).trans K5 (fun q _ h => h)
  have hb6 := K.heap h.at_ (fun e => by have := hvo p e; omega)
  have hs6 := K.size
  have hsz : (w6.setCell ⟨p, i, none⟩ (.slice (some ⟨g1, 0, none⟩) (l.length + 1) c1)).heap.size = w6.heap.size := by simp [World.setCell]
  have hFE := full_round h.full h.bW hvo b5 hr5 gr6 (v' := .slice (some ⟨g1, 0, none⟩) (l.length + 1) c1) (by simpa [Value.ownBlock, eq_comm] using li6)
  have how : w6.ownsRow B 37 16 (.slice (some ⟨g1, 0, none⟩) (l.length + 1) c1) (l ++ [t]).length (es ++ [txHead t ++ ds]).flatten := by
    rw [List.flatten_append, List.length_append]
    simpa using ow6
  have ks : Kept w6 (w6.setCell ⟨p, i, none⟩ (.slice (some ⟨g1, 0, none⟩) (l.length + 1) c1)) (fun q => q = p) := (Kept.refl _ _).setCell _ _ (fun _ => rfl)
  obtain ⟨hf7, ho7⟩ := full_kept hFE how ks (fun q hq => .inl (by omega))
  refine ⟨_, w6, hr6, (cell_of_row _ _ _ _ _ _ hb6).trans h.cell, frozen_of_row _ _ _ _ _ hb6, ⟨by rw [heap_setR _ hb6], by rw [Array.getElem?_setIfInBounds, if_pos rfl, if_pos (Array.getElem?_eq_some_iff.1 h.cell).1], ho7, hf7, h.pB, by omega⟩, K, (K.mono (S' := fun k => v.ownBlock = some k ∨ k = p) (fun q _ e => .inl e)).trans ks (fun q _ e => .inr e), ⟨_, _, rfl⟩, hvo⟩
end Go.Proofs.YtgjjcmhlmdfccaaGreatDoor
