/- A list of transactions that grows in a variable, beside an iterator's blocks. -/
import Derived.Test.YteindmdggpahfaaCbH
import Derived.Test.YteindmdggpahfaaRgI
import Derived.Test.YteindmdggpahfaaCopyF
import Derived.Deep.AppendLies
namespace Go.Proofs.Yteindmdggpahfaa
open Go.RowKit Go.Shelf
set_option maxRecDepth 8000

/-- Block bo holds a list of the transactions l, all of it in blocks of its own from n1 on; none of these blocks is the iterator's. -/
structure GT (n1 bo : Nat) (D : Blocks) (v : Value) (es : List (List Value)) (l : List TxD) (V : World) : Prop where
  box : V.heap[bo]? = some (.cells #[v] 25 (0, 0))
  own : V.ownsRow n1 43 16 v l.length es.flatten
  len : es.length = l.length
  rq : ∀ j (hj : j < es.length) (hl : j < l.length), ∃ rc, es[j] = txHead l[j] ++ rc ∧ RqIn V (fun q => q < V.heap.size ∧ v.ownBlock ≠ some q ∧ q ≠ bo ∧ ¬ D q) rc l[j].rq
  dB : ¬ D bo
  dv : ∀ k, v.ownBlock = some k → ¬ D k ∧ k ≠ bo
  dl : ∀ k, D k → k < V.heap.size
  nb : n1 ≤ bo

theorem GT.stays {n1 bo : Nat} {D0 D D' : Blocks} {v : Value} {es : List (List Value)} {l : List TxD} {V V' : World} (h : GT n1 bo D v es l V) (hk : Kept V V' (fun k => D k ∧ ¬ D0 k)) (hD : ∀ k, D' k → D k ∨ (V.heap.size ≤ k ∧ k < V'.heap.size)) : GT n1 bo D' v es l V' := by
  have far : ∀ k, k < V.heap.size → ¬ D k → ¬ D' k := fun k hl hn h' => by
    rcases hD k h' with h' | h'
    · exact hn h'
    · omega
  have hs := hk.size
  refine ⟨hk.heap h.box (fun e => h.dB e.1), ownsRow_kept h.own hk (fun q hq e => (h.dv q hq).1 e.1), h.len, fun j hj hl => ?_, far _ (lt_of_block h.box) h.dB, fun k e => ⟨far k (h.own.lt k e).2 (h.dv k e).1, (h.dv k e).2⟩, fun k e => ?_, h.nb⟩
  · obtain ⟨rc, e, hr⟩ := h.rq j hj hl
    exact ⟨rc, e, RqIn.kept hk (fun q hq => ⟨fun e => hq.2.2.2 e.1, by omega, hq.2.1, hq.2.2.1, far q hq.1 hq.2.2.2⟩) hr⟩
  · rcases hD k e with h' | h'
    · have := h.dl k h'; omega
    · exact h'.2

theorem GT.later {n1 bo : Nat} {D : Blocks} {v : Value} {es : List (List Value)} {l : List TxD} {V V' : World} (h : GT n1 bo D v es l V) (hb : Below V.heap.size V V') : GT n1 bo D v es l V' :=
  h.stays (D0 := fun _ => True) ((Below.kept hb).mono (fun k h1 h2 => by omega)) (fun k e => .inl e)

theorem GT.sees {n1 bo : Nat} {D : Blocks} {v : Value} {es : List (List Value)} {l : List TxD} {V : World} (h : GT n1 bo D v es l V) : SeesTxs V v l := by
  have hz : ∀ c ∈ es, c.length = 16 := fun c hc => by
    obtain ⟨j, hj, rfl⟩ := List.getElem_of_mem hc
    obtain ⟨rc, e, hr⟩ := h.rq j hj (by rw [← h.len]; exact hj)
    rw [e]
    simp [txHead, hr.sees.len]
  refine ⟨es, seesR_own (base := n1) (t := 43) (by rw [h.len]; exact h.own) hz, h.len, fun i h1 h2 => ?_⟩
  obtain ⟨rc, e, hr⟩ := h.rq i h1 h2
  exact ⟨rc, e, hr.sees⟩

/-- One transaction more: the clone lies in new blocks, the append and the store are known. -/
theorem GT.round {n1 bo : Nat} {D : Blocks} {v : Value} {es : List (List Value)} {l : List TxD} {V V5 : World} (h : GT n1 bo D v es l V) (t : TxD) (ds : List Value) (b5 : Below V.heap.size V V5) (hr5 : RqIn V5 (fun q => V.heap.size ≤ q ∧ q < V5.heap.size) ds t.rq) (hl : l.length ≤ 1000000) :
    ∃ v' w6, (Builtin.append_ #[25, 25] 25 #[v, .slice (some ⟨V5.heap.size, 0, none⟩) 1 1]).run Try.prog (V5.alloc (.cells (txHead t ++ ds).toArray 43)) = .ok v' w6 ∧
      w6.cell? ⟨bo, 0, none⟩ = some v ∧ w6.frozen? ⟨bo, 0, none⟩ = false ∧ GT n1 bo D v' (es ++ [txHead t ++ ds]) (l ++ [t]) (w6.setCell ⟨bo, 0, none⟩ v') ∧
      Kept V (w6.setCell ⟨bo, 0, none⟩ v') (fun k => ¬ D k) ∧ Kept V w6 (fun k => v.ownBlock = some k) ∧ Below n1 V (w6.setCell ⟨bo, 0, none⟩ v') ∧ (∃ b c, v' = .slice b (l.length + 1) c) := by
  obtain ⟨i0, hi, hz0, hz1, hz2⟩ := info_parts Try.infoTxF
  have hs5 := b5.size
  have h5 := h.later b5
  have hf := tx_form hr5.sees
  have hlen := hf.len
  have hn1 : n1 ≤ V5.heap.size := by have := lt_of_block h5.box; have := h.nb; omega
  obtain ⟨g1, c1, w6, hr6, ow6, gr6, li6, lt6⟩ := run_append_lies (P := Try.prog) (V5.alloc (.cells (txHead t ++ ds).toArray 43)) 25 25 n1 43 i0 _ 16 168 Try.underlying25 hi hz0 hz1 hz2 rfl (by decide) v l.length es.flatten (h5.own.alloc _) ⟨V5.heap.size, 0, none⟩ 1 1 (txHead t ++ ds) (by rw [hlen]) (fun j u hj => by rw [addrAdd, Nat.zero_add, cell_of_row _ _ _ _ _ _ (heap_alloc_new _ _), List.getElem?_toArray]; exact hj) (fun u hu => by
      have := hf.one
      rw [Array.all_eq_true_iff_forall_mem] at this
      exact this u (by simpa using hu)) (by decide) (by unfold maxLen; omega) (by omega) (by simp; omega) (V5.heap.size + 1) (by simp)
  have K5 : Kept V5 w6 (fun q => v.ownBlock = some q) := ((Kept.refl V5 (fun q => v.ownBlock = some q)).alloc _).grown gr6 (fun q _ h => h)
  have K : Kept V w6 (fun q => v.ownBlock = some q) := ((Below.kept b5).mono (fun q h1 h2 => by omega)).trans K5 (fun q _ h => h)
  have nbo : v.ownBlock ≠ some bo := fun e => (h.dv bo e).2 rfl
  have hb6 := K.heap h.box nbo
  have hs6 := K5.size
  have hgr := gr6.size
  simp at hgr
  have ks : Kept w6 (w6.setCell ⟨bo, 0, none⟩ (.slice (some ⟨g1, 0, none⟩) (l.length + 1) c1)) (fun q => q = bo) := (Kept.refl _ _).setCell _ _ (fun _ => rfl)
  have lbo := lt_of_block h.box
  have hg1 : ∀ k, (Value.slice (some ⟨g1, 0, none⟩) (l.length + 1) c1).ownBlock = some k → v.ownBlock = some k ∨ k = V5.heap.size + 1 := fun k e => by
    simp [Value.ownBlock] at e
    subst e
    exact li6
  refine ⟨_, w6, hr6, cell_of_row _ _ _ _ _ _ hb6, frozen_of_row _ _ _ _ _ hb6, ?_, ?_, K, ?_, _, _, rfl⟩
  · have hsz : (w6.setCell ⟨bo, 0, none⟩ (.slice (some ⟨g1, 0, none⟩) (l.length + 1) c1)).heap.size = w6.heap.size := by simp [World.setCell]
    have hgb : ∀ k, (Value.slice (some ⟨g1, 0, none⟩) (l.length + 1) c1).ownBlock = some k → ¬ D k ∧ k ≠ bo := fun k e => by
      rcases hg1 k e with e | e
      · exact h.dv k e
      · subst e
        exact ⟨fun hd => by have := h.dl _ hd; omega, by omega⟩
    refine ⟨by rw [heap_setR _ hb6]; rfl, ?_, by simp [h.len], fun j hj hl' => ?_, h.dB, hgb, fun k e => by have := h.dl k e; have := K.size; omega, h.nb⟩
    · have := ownsRow_kept ow6 ks (fun k e e' => (hgb k e).2 e')
      rw [List.flatten_append, List.length_append]
      simpa using this
    · by_cases hjk : j < es.length
      · have hjl : j < l.length := by rw [← h.len]; exact hjk
        obtain ⟨rc, e, hr⟩ := h.rq j hjk hjl
        refine ⟨rc, by rw [List.getElem_append_left hjk, List.getElem_append_left hjl]; exact e, ?_⟩
        rw [List.getElem_append_left hjl]
        refine RqIn.kept ((K.mono (S' := fun q => v.ownBlock = some q ∨ q = bo) (fun q _ e => .inl e)).trans ks (fun q _ e => .inr e)) (fun q hq => ⟨fun e => ?_, by have := K.size; omega, fun e => ?_, hq.2.2.1, hq.2.2.2⟩) hr
        · rcases e with e | e
          · exact hq.2.1 e
          · exact hq.2.2.1 e
        · rcases hg1 q e with e | e
          · exact hq.2.1 e
          · omega
      · have hj' : j = es.length := by simp at hj; omega
        subst hj'
        have e2 : (l ++ [t])[es.length] = t := by
          rw [List.getElem_append_right (by rw [h.len]; omega)]
          simp [h.len]
        refine ⟨ds, ?_, ?_⟩
        · rw [List.getElem_append_right (by omega), e2]
          simp
        · rw [e2]
          refine RqIn.kept ((K5.mono (S' := fun q => v.ownBlock = some q ∨ q = bo) (fun q _ e => .inl e)).trans ks (fun q _ e => .inr e)) (fun q hq => ⟨fun e => ?_, by omega, fun e => ?_, by omega, fun e => by have := h.dl q e; omega⟩) hr5
          · rcases e with e | e
            · have := (h.own.lt q e).2; omega
            · omega
          · rcases hg1 q e with e | e
            · have := (h.own.lt q e).2; omega
            · omega
  · exact (K.mono (S' := fun q => ¬ D q) (fun q _ e => (h.dv q e).1)).trans ks (fun q _ e => by rw [e]; exact h.dB)
  · exact ((K.mono (S' := fun q => n1 ≤ q) (fun q _ e => (h.own.lt q e).1)).trans ks (fun q _ e => by rw [e]; exact h.nb)).below (by have := h.nb; omega) (fun q e => e)
end Go.Proofs.Yteindmdggpahfaa
