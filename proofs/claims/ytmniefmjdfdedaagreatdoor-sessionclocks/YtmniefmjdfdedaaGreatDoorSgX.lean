/- A World of the law: a list is kept, a list is wanted. -/
import Derived.Test.YtmniefmjdfdedaaGreatDoorSgW
namespace Go.Proofs.YtmniefmjdfdedaaGreatDoor
open Go.RowKit Go.Shelf
set_option maxRecDepth 8000
set_option linter.unusedSimpArgs false

theorem Tryz.infoLi : (Tryz.prog.info? 42).map (fun i => (i.zero, i.size, i.bytes)) = some (some (.slice none 0 0), 1, 24) := by kernel_rfl
/-- One more list in a row of lists. -/
theorem app_l {w : World} {base m : Nat} {v a : Value} {l : List Value} (ho : w.ownsRow base 42 1 v l.length l) (hm : w.heap[m]? = some (.cells #[a] 42 (0, 0))) (ha : ∃ x n c, a = .slice x n c) (hl : l.length ≤ 2000000000) (hb : base ≤ w.heap.size) :
    ∃ v' w', (∀ ty, (Builtin.append_ #[34, 34] ty #[v, .slice (some ⟨m, 0, none⟩) 1 1]).run Tryz.prog w = .ok v' w') ∧ w'.ownsRow base 42 1 v' (l.length + 1) (l ++ [a]) ∧ Kept w w' (fun k => v.ownBlock = some k) ∧ (v'.ownBlock = v.ownBlock ∨ v'.ownBlock = some w.heap.size) := by
  obtain ⟨i, hi, hz, hs, hby⟩ := infoX Tryz.infoLi
  obtain ⟨x, n, c, rfl⟩ := ha
  obtain ⟨v', w', h1, h2, h3, h4⟩ := app_row (P := Tryz.prog) base 34 34 42 i _ 1 24 Tryz.underlying34 hi hz hs hby rfl (by decide) v l.length l ho m [.slice x n c] rfl hm (by simp [Value.oneCell']) hl (by decide) hb
  refine ⟨v', w', fun ty => h1, h2, ⟨h3.os, h3.tape, h3.output, h3.size, fun k hk hn => h3.block k hk (fun e => hn e.symm)⟩, ?_⟩
  rcases h4 with ⟨g, cap, e1, e2⟩ | ⟨e, _⟩
  · rw [e1, e2]; exact .inl rfl
  · exact .inr e
theorem blkR_snoc {ks : List Rw} {r : Rw} {k : Nat} : BlkR (ks ++ [r]) k ↔ BlkR ks k ∨ r.v.ownBlock = some k := by
  constructor
  · rintro ⟨j, hj, e⟩
    by_cases h : j < ks.length
    · exact .inl ⟨j, h, by rw [← e, List.getElem_append_left h]⟩
    · right
      have : j = ks.length := by simp at hj; omega
      subst this
      simpa using e
  · rintro (⟨j, hj, e⟩ | e)
    · exact ⟨j, by simp; omega, by rw [List.getElem_append_left hj]; exact e⟩
    · exact ⟨ks.length, by simp, by simpa using e⟩
theorem apart_snoc {ks : List Rw} {r : Rw} (h : ApartR ks) (hr : ∀ g, r.v.ownBlock = some g → ¬ BlkR ks g) : ApartR (ks ++ [r]) := by
  intro i j hi hj hne g e
  simp only [List.length_append, List.length_cons, List.length_nil] at hi hj
  by_cases h1 : i < ks.length
  · rw [List.getElem_append_left h1] at e
    by_cases h2 : j < ks.length
    · rw [List.getElem_append_left h2]; exact h i j h1 h2 hne g e
    · have : j = ks.length := by omega
      subst this
      intro e2
      exact hr g (by simpa using e2) ⟨i, h1, e⟩
  · have : i = ks.length := by omega
    subst this
    have h2 : j < ks.length := by omega
    rw [List.getElem_append_left h2]
    intro e2
    exact hr g (by simpa using e) ⟨j, h2, e2⟩
section
variable {w W W' : World} {own : Nat → Nat} {p q : Nat} {R : WoR}
/-- A list is kept. -/
theorem Wo.keepK (h : Wo w W own p R) {a : Value} {n : Nat} {L : List Int} (ha : ∃ x c, a = .slice x n c) (hL : W.ownsRow 0 2 1 a n (L.map (Value.int .i64))) (hn : n = L.length) (h1000 : n ≤ 1000) (h40 : R.ks.length < 40) (hown : ∀ g, a.ownBlock = some g → own g = p ∧ ¬ BlkR R.ks g) :
    ∃ v' w1, (∀ ty, (Builtin.append_ #[34, 34] ty #[R.kv, .slice (some ⟨W.heap.size, 0, none⟩) 1 1]).run Tryz.prog (W.alloc (.cells #[a] 42)) = .ok v' w1) ∧ (∃ a n c, v' = .slice a n c) ∧ R.x < w1.heap.size ∧ w1.frozen? ⟨R.x, 2, none⟩ = false ∧ w1.cell? ⟨R.x, 2, none⟩ = some R.kv ∧
      Hid (Wo w (w1.setCell ⟨R.x, 2, none⟩ v') (upO own W.heap.size p) p { R with kv := v', ks := R.ks ++ [⟨a, n⟩], xs := R.xs ++ [L] } ∧ Kept W (w1.setCell ⟨R.x, 2, none⟩ v') (fun k => own k = p) ∧ (∀ {B n : Nat} {v : Value} {xs : List Value}, W.ownsRow B 2 1 v n xs → (w1.setCell ⟨R.x, 2, none⟩ v').ownsRow B 2 1 v n xs)) := by
  have B1 : Below W.heap.size W (W.alloc (.cells #[a] 42)) := (Below.refl _ _).alloc (Nat.le_refl _) _
  have hB := h.be.size
  have h0 := h.below B1
  have hlt := fun {k : Nat} (hf : R.foot k) => h.lt hf
  have hkr : (W.alloc (.cells #[a] 42)).ownsRow w.heap.size 42 1 R.kv (R.ks.map Rw.v).length (R.ks.map Rw.v) := by rw [List.length_map]; exact h0.kr
  obtain ⟨x0, c0, ha'⟩ := ha
  obtain ⟨v', w1, hrun, ho1, k1, hv'⟩ := app_l hkr (heap_alloc_new _ _) ⟨x0, n, c0, ha'⟩ (by rw [List.length_map]; omega) (by simp; omega)
  have rowT1 : ∀ {B : Nat} {T : TypeId} {z m : Nat} {v : Value} {xs : List Value}, (W.alloc (.cells #[a] 42)).ownsRow B T z v m xs → T ≠ 42 → w1.ownsRow B T z v m xs := fun hr hT => rowK hr k1 (fun g e e2 => by
    obtain ⟨c', e'⟩ := rowT h0.kr e2
    exact rowNe hr e' hT e)
  have blk1 : ∀ {k : Nat} {o : Obj}, (W.alloc (.cells #[a] 42)).heap[k]? = some o → (∀ cs fr, o ≠ .cells cs 42 fr) → w1.heap[k]? = some o := fun {k o} hk ho => k1.heap hk (fun e2 => by
    obtain ⟨c', e'⟩ := rowT h0.kr e2
    rw [hk] at e'
    simp only [Option.some.injEq] at e'
    exact ho _ _ e')
  have r1 := blk1 h0.row (fun cs fr e => by simp at e)
  have hxl : R.x < w1.heap.size := lt_of_block r1
  have k2 : Kept w1 (w1.setCell ⟨R.x, 2, none⟩ v') (fun k => k = R.x) := (Kept.refl w1 _).setCell _ _ (fun _ => rfl)
  have rowT2 : ∀ {B : Nat} {T : TypeId} {z m : Nat} {v : Value} {xs : List Value}, w1.ownsRow B T z v m xs → T ≠ 36 → (w1.setCell ⟨R.x, 2, none⟩ v').ownsRow B T z v m xs := fun hr hT => rowK hr k2 (fun g e e2 => by subst e2; exact rowNe hr r1 hT e)
  have blk2 : ∀ {k : Nat} {o : Obj}, w1.heap[k]? = some o → (∀ cs fr, o ≠ .cells cs 36 fr) → (w1.setCell ⟨R.x, 2, none⟩ v').heap[k]? = some o := fun {k o} hk ho => k2.heap hk (fun e2 => by
    subst e2
    rw [r1] at hk
    simp only [Option.some.injEq] at hk
    exact ho _ _ hk.symm)
  have hform : ∃ a n c, v' = .slice a n c := by
    obtain ⟨a, c, e⟩ := rowS ho1
    exact ⟨a, _, c, e⟩
  refine ⟨v', w1, hrun, hform, hxl, by simp [World.frozen?, r1], by rw [cell_of_row w1 R.x 2 _ _ _ r1]; rfl, ?_, ?_, fun {B n v xs} hr => rowT2 (rowT1 (rowK hr (Below.kept B1) (fun g e => by have := (hr.lt g e).2; omega)) (by decide)) (by decide)⟩
  · have hwr1 : w1.ownsRow w.heap.size 42 1 R.wv R.ws.length R.ws := rowK h0.wr k1 (fun g e e2 => h.kw g e2 e)
    have hL1 : w1.ownsRow 0 2 1 a n (L.map (Value.int .i64)) := rowT1 (rowK hL (Below.kept B1) (fun g e => by have := (hL.lt g e).2; omega)) (by decide)
    have hnew : ∀ k, v'.ownBlock = some k → R.kv.ownBlock = some k ∨ W.heap.size ≤ k := fun k e => by
      rcases hv' with q | q
      · rw [q] at e; exact .inl e
      · rw [q] at e; simp at e; exact .inr (by omega)
    refine ⟨?_, ⟨blk2 (blk1 h0.ck.hc (fun cs fr e => by simp at e)) (fun cs fr e => by simp at e), blk2 (blk1 h0.ck.hs (fun cs fr e => by simp at e)) (fun cs fr e => by simp at e), ?_⟩, ⟨blk2 (blk1 h0.dc.row (fun cs fr e => by simp at e)) (fun cs fr e => by simp at e), rowT2 (rowT1 h0.dc.so (by decide)) (by decide), rowT2 (rowT1 h0.dc.bo (by decide)) (by decide)⟩, ?_, rowT2 hwr1 (by decide), fun j hj => ?_, fun j v hv => ?_, by simp; omega, by simp [h.lk], by have := h.lw; simp; omega, fun j hj => ?_, apart_snoc h.ap (fun g e => (hown g e).2), fun g e e2 => ?_, h.sb, fun k hf => ?_, h0.lo, ?_⟩
    · rw [setCell_eq_setRow w1 R.x 2 _ _ _ _ r1, setRow_heap w1 R.x _ _ _ _ r1]; rfl
    · obtain ⟨es, cl, hm, hr⟩ := h0.ck.hm
      exact ⟨es, cl, blk2 (blk1 hm (fun cs fr e => by cases e)) (fun cs fr e => by cases e), hr⟩
    · have := rowT2 ho1 (by decide)
      rw [List.length_map] at this
      simp only [List.length_append, List.length_cons, List.length_nil, List.map_append, List.map_cons, List.map_nil]
      exact this
    · show World.ownsRow _ _ _ _ (R.ks ++ [⟨a, n⟩])[j].v (R.ks ++ [⟨a, n⟩])[j].n (((R.xs ++ [L]).getD j []).map _)
      have hj2 : j < R.ks.length + 1 := by simpa using hj
      by_cases hjk : j < R.ks.length
      · rw [List.getElem_append_left hjk]
        have e : (R.xs ++ [L]).getD j [] = R.xs.getD j [] := by
          rw [List.getD_eq_getElem?_getD, List.getD_eq_getElem?_getD, List.getElem?_append_left (by rw [← h.lk]; exact hjk)]
        rw [e]
        exact rowT2 (rowT1 (h0.ko j hjk) (by decide)) (by decide)
      · have : j = R.ks.length := by omega
        subst this
        have e : (R.xs ++ [L]).getD R.ks.length [] = L := by
          rw [h.lk, List.getD_eq_getElem?_getD, List.getElem?_append_right (Nat.le_refl _)]; simp
        rw [e]
        simp only [List.getElem_append_right (Nat.le_refl _), Nat.sub_self, List.getElem_cons_zero]
        exact rowT2 hL1 (by decide)
    · show OI _ 0 v ((R.xs ++ [L]).getD j [])
      have e : (R.xs ++ [L]).getD j [] = R.xs.getD j [] := by
        have hjl : j < R.ws.length := (List.getElem?_eq_some_iff.1 (show R.ws[j]? = some v from hv)).1
        have := h.lw
        rw [List.getD_eq_getElem?_getD, List.getD_eq_getElem?_getD, List.getElem?_append_left (by omega)]
      rw [e]
      exact rowT2 (rowT1 (h0.wo j v hv) (by decide)) (by decide)
    · show (R.ks ++ [⟨a, n⟩])[j].n = ((R.xs ++ [L]).getD j []).length ∧ (R.ks ++ [⟨a, n⟩])[j].n ≤ 1000
      have hj2 : j < R.ks.length + 1 := by simpa using hj
      by_cases hjk : j < R.ks.length
      · rw [List.getElem_append_left hjk]
        have e : (R.xs ++ [L]).getD j [] = R.xs.getD j [] := by
          rw [List.getD_eq_getElem?_getD, List.getD_eq_getElem?_getD, List.getElem?_append_left (by rw [← h.lk]; exact hjk)]
        rw [e]
        exact h.nn j hjk
      · have : j = R.ks.length := by omega
        subst this
        have e : (R.xs ++ [L]).getD R.ks.length [] = L := by
          rw [h.lk, List.getD_eq_getElem?_getD, List.getElem?_append_right (Nat.le_refl _)]; simp
        rw [e]
        simp only [List.getElem_append_right (Nat.le_refl _), Nat.sub_self, List.getElem_cons_zero]
        exact ⟨hn, h1000⟩
    · rcases hnew g e with q | q
      · exact h.kw g q e2
      · have := (h.wr.lt g e2).2; omega
    · have hold : R.foot k → upO own W.heap.size p k = p := fun hf => h0.o k hf
      rcases hf with e | e | e | e | e | e | e
      · exact hold (.inl e)
      · exact hold (.inr (.inl e))
      · exact hold (.inr (.inr (.inl e)))
      · rcases hnew k e with q | q
        · exact hold (.inr (.inr (.inr (.inl q))))
        · unfold upO; rw [if_neg (by omega)]
      · exact hold (.inr (.inr (.inr (.inr (.inl e)))))
      · rcases blkR_snoc.1 e with e | e
        · exact hold (.inr (.inr (.inr (.inr (.inr (.inl e))))))
        · have := (hL.lt k e).2
          unfold upO
          rw [if_pos this]
          exact (hown k e).1
      · exact hold (.inr (.inr (.inr (.inr (.inr (.inr e))))))
    · have q1 := bel_keptS (h.be.trans (B1.mono hB)) k1 (fun k e => h.lo k (h.o k (.inr (.inr (.inr (.inl e))))))
      exact bel_keptS q1 k2 (fun k e => by have e2 : k = R.x := e; rw [e2]; exact h.lo _ (h.o _ (.inl rfl)))
  · have q1 : Kept W w1 (fun k => own k = p) := (kept_of_belowS B1 : Kept W _ (fun k => own k = p)).trans (k1.mono (fun k _ e => h.o k (.inr (.inr (.inr (.inl e)))))) (fun _ _ e => e)
    exact q1.trans k2 (fun k _ e => by have e2 : k = R.x := e; rw [e2]; exact h.o _ (.inl rfl))
/-- A list is wanted. -/
theorem Wo.keepW (h : Wo w W own p R) {a : Value} {L : List Int} (hL : OI W 0 a L) (hx : R.xs[R.ws.length]? = some L) (hown : ∀ g, a.ownBlock = some g → own g = p) :
    ∃ v' w1, (∀ ty, (Builtin.append_ #[34, 34] ty #[R.wv, .slice (some ⟨W.heap.size, 0, none⟩) 1 1]).run Tryz.prog (W.alloc (.cells #[a] 42)) = .ok v' w1) ∧ (∃ a n c, v' = .slice a n c) ∧ R.x < w1.heap.size ∧ w1.frozen? ⟨R.x, 3, none⟩ = false ∧ w1.cell? ⟨R.x, 3, none⟩ = some R.wv ∧
      Hid (Wo w (w1.setCell ⟨R.x, 3, none⟩ v') (upO own W.heap.size p) p { R with wv := v', ws := R.ws ++ [a] } ∧ Kept W (w1.setCell ⟨R.x, 3, none⟩ v') (fun k => own k = p)) := by
  have B1 : Below W.heap.size W (W.alloc (.cells #[a] 42)) := (Below.refl _ _).alloc (Nat.le_refl _) _
  have hB := h.be.size
  have h0 := h.below B1
  have hwl : R.ws.length < R.xs.length := (List.getElem?_eq_some_iff.1 hx).1
  have hwn : R.ws.length ≤ 40 := by have := h.kn; have := h.lk; omega
  obtain ⟨x0, c0, ha'⟩ := rowS hL
  obtain ⟨v', w1, hrun, ho1, k1, hv'⟩ := app_l h0.wr (heap_alloc_new _ _) ⟨x0, _, c0, ha'⟩ (by omega) (by simp; omega)
  have rowT1 : ∀ {B : Nat} {T : TypeId} {z m : Nat} {v : Value} {xs : List Value}, (W.alloc (.cells #[a] 42)).ownsRow B T z v m xs → T ≠ 42 → w1.ownsRow B T z v m xs := fun hr hT => rowK hr k1 (fun g e e2 => by
    obtain ⟨c', e'⟩ := rowT h0.wr e2
    exact rowNe hr e' hT e)
  have blk1 : ∀ {k : Nat} {o : Obj}, (W.alloc (.cells #[a] 42)).heap[k]? = some o → (∀ cs fr, o ≠ .cells cs 42 fr) → w1.heap[k]? = some o := fun {k o} hk ho => k1.heap hk (fun e2 => by
    obtain ⟨c', e'⟩ := rowT h0.wr e2
    rw [hk] at e'
    simp only [Option.some.injEq] at e'
    exact ho _ _ e')
  have r1 := blk1 h0.row (fun cs fr e => by simp at e)
  have hxl : R.x < w1.heap.size := lt_of_block r1
  have k2 : Kept w1 (w1.setCell ⟨R.x, 3, none⟩ v') (fun k => k = R.x) := (Kept.refl w1 _).setCell _ _ (fun _ => rfl)
  have rowT2 : ∀ {B : Nat} {T : TypeId} {z m : Nat} {v : Value} {xs : List Value}, w1.ownsRow B T z v m xs → T ≠ 36 → (w1.setCell ⟨R.x, 3, none⟩ v').ownsRow B T z v m xs := fun hr hT => rowK hr k2 (fun g e e2 => by subst e2; exact rowNe hr r1 hT e)
  have blk2 : ∀ {k : Nat} {o : Obj}, w1.heap[k]? = some o → (∀ cs fr, o ≠ .cells cs 36 fr) → (w1.setCell ⟨R.x, 3, none⟩ v').heap[k]? = some o := fun {k o} hk ho => k2.heap hk (fun e2 => by
    subst e2
    rw [r1] at hk
    simp only [Option.some.injEq] at hk
    exact ho _ _ hk.symm)
  have hform : ∃ a n c, v' = .slice a n c := by
    obtain ⟨a, c, e⟩ := rowS ho1
    exact ⟨a, _, c, e⟩
  refine ⟨v', w1, hrun, hform, hxl, by simp [World.frozen?, r1], by rw [cell_of_row w1 R.x 3 _ _ _ r1]; rfl, ?_, ?_⟩
  · have hkr1 : w1.ownsRow w.heap.size 42 1 R.kv R.ks.length (R.ks.map Rw.v) := rowK h0.kr k1 (fun g e e2 => h.kw g e e2)
    have hL1 : OI w1 0 a L := rowT1 (rowK hL (Below.kept B1) (fun g e => by have := (hL.lt g e).2; omega)) (by decide)
    have hnew : ∀ k, v'.ownBlock = some k → R.wv.ownBlock = some k ∨ W.heap.size ≤ k := fun k e => by
      rcases hv' with q | q
      · rw [q] at e; exact .inl e
      · rw [q] at e; simp at e; exact .inr (by omega)
    refine ⟨?_, ⟨blk2 (blk1 h0.ck.hc (fun cs fr e => by simp at e)) (fun cs fr e => by simp at e), blk2 (blk1 h0.ck.hs (fun cs fr e => by simp at e)) (fun cs fr e => by simp at e), ?_⟩, ⟨blk2 (blk1 h0.dc.row (fun cs fr e => by simp at e)) (fun cs fr e => by simp at e), rowT2 (rowT1 h0.dc.so (by decide)) (by decide), rowT2 (rowT1 h0.dc.bo (by decide)) (by decide)⟩, rowT2 hkr1 (by decide), ?_, fun j hj => rowT2 (rowT1 (h0.ko j hj) (by decide)) (by decide), fun j v hv => ?_, h.kn, h.lk, by simp; omega, h.nn, h.ap, fun g e e2 => ?_, h.sb, fun k hf => ?_, h0.lo, ?_⟩
    · rw [setCell_eq_setRow w1 R.x 3 _ _ _ _ r1, setRow_heap w1 R.x _ _ _ _ r1]; rfl
    · obtain ⟨es, cl, hm, hr⟩ := h0.ck.hm
      exact ⟨es, cl, blk2 (blk1 hm (fun cs fr e => by cases e)) (fun cs fr e => by cases e), hr⟩
    · have := rowT2 ho1 (by decide)
      simp only [List.length_append, List.length_cons, List.length_nil]
      exact this
    · show OI _ 0 v (R.xs.getD j [])
      by_cases hjw : j < R.ws.length
      · have hv2 : (R.ws ++ [a])[j]? = some v := hv
        rw [List.getElem?_append_left hjw] at hv2
        exact rowT2 (rowT1 (h0.wo j v hv2) (by decide)) (by decide)
      · have hv2 : (R.ws ++ [a])[j]? = some v := hv
        have hj2 := (List.getElem?_eq_some_iff.1 hv2).1
        have : j = R.ws.length := by simp at hj2; omega
        subst this
        rw [List.getElem?_append_right (Nat.le_refl _)] at hv2
        simp at hv2
        subst hv2
        rw [List.getD_eq_getElem?_getD, hx]
        exact rowT2 hL1 (by decide)
    · rcases hnew g e2 with t | t
      · exact h.kw g e t
      · have := (h.kr.lt g e).2; omega
    · have hold : R.foot k → upO own W.heap.size p k = p := fun hf => h0.o k hf
      rcases hf with e | e | e | e | e | e | ⟨v, hv, e⟩
      · exact hold (.inl e)
      · exact hold (.inr (.inl e))
      · exact hold (.inr (.inr (.inl e)))
      · exact hold (.inr (.inr (.inr (.inl e))))
      · rcases hnew k e with t | t
        · exact hold (.inr (.inr (.inr (.inr (.inl t)))))
        · unfold upO; rw [if_neg (by omega)]
      · exact hold (.inr (.inr (.inr (.inr (.inr (.inl e))))))
      · have hv2 : v ∈ R.ws ++ [a] := hv
        rcases List.mem_append.1 hv2 with t | t
        · exact hold (.inr (.inr (.inr (.inr (.inr (.inr ⟨v, t, e⟩))))))
        · simp at t
          subst t
          have := (hL.lt k e).2
          unfold upO
          rw [if_pos this]
          exact hown k e
    · have q1 := bel_keptS (h.be.trans (B1.mono hB)) k1 (fun k e => h.lo k (h.o k (.inr (.inr (.inr (.inr (.inl e)))))))
      exact bel_keptS q1 k2 (fun k e => by have e2 : k = R.x := e; rw [e2]; exact h.lo _ (h.o _ (.inl rfl)))
  · have q1 : Kept W w1 (fun k => own k = p) := (kept_of_belowS B1 : Kept W _ (fun k => own k = p)).trans (k1.mono (fun k _ e => h.o k (.inr (.inr (.inr (.inr (.inl e))))))) (fun _ _ e => e)
    exact q1.trans k2 (fun k _ e => by have e2 : k = R.x := e; rw [e2]; exact h.o _ (.inl rfl))
end
end Go.Proofs.YtmniefmjdfdedaaGreatDoor
