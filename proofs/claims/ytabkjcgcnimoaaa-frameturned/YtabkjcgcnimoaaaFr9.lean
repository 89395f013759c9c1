/- What is gathered of a walk through frames: a list of places and a list of bodies in one variable; what a round adds to it. No Go function is walked here. -/
import Derived.Test.YtabkjcgcnimoaaaFr8
import Derived.Deep.AppendLies
import Derived.Maps.AppendAt
namespace Go.Proofs.Ytabkjcgcnimoaaa
open Go.RowKit Go.Shelf
set_option maxRecDepth 8000

theorem Try.infoInt : (Try.prog.info? 3).map (fun i => (i.zero, i.size, i.bytes)) = some (some (.int .i64 0), 1, 8) := by kernel_rfl
theorem Try.infoBytes : (Try.prog.info? 25).map (fun i => (i.zero, i.size, i.bytes)) = some (some (.slice none 0 0), 1, 24) := by kernel_rfl

theorem row_kept {w w' : World} {S : Blocks} {base n : Nat} {t : TypeId} {v : Value} {xs : List Value} (h : w.ownsRow base t 1 v n xs) (hk : Kept w w' S) (hn : ∀ k, v.ownBlock = some k → ¬ S k) : w'.ownsRow base t 1 v n xs := by
  refine ⟨h.1, ?_⟩
  rcases h.2 with h | ⟨g, cap, cur, rfl, h1, h2, h3⟩
  · exact .inl h
  · exact .inr ⟨g, cap, cur, rfl, h1, hk.heap h2 (hn g rfl), h3⟩

theorem row_at {w : World} {base n k : Nat} {t : TypeId} {v : Value} {xs : List Value} (h : w.ownsRow base t 1 v n xs) (hk : v.ownBlock = some k) : (∃ cs, w.heap[k]? = some (.cells cs t (0, 0))) ∧ base ≤ k ∧ k < w.heap.size := by
  rcases h.2 with ⟨rfl, _⟩ | ⟨g, cap, cur, rfl, hb, hr, _⟩
  · simp [Value.ownBlock] at hk
  · simp [Value.ownBlock] at hk
    subst hk
    exact ⟨⟨_, hr⟩, hb, lt_of_block hr⟩

theorem row_shape {w : World} {base n : Nat} {t : TypeId} {v : Value} {xs : List Value} (h : w.ownsRow base t 1 v n xs) : ∃ ao n c, v = .slice ao n c := by
  rcases h.2 with ⟨rfl, _⟩ | ⟨g, cap, cur, rfl, _⟩
  · exact ⟨_, _, _, rfl⟩
  · exact ⟨_, _, _, rfl⟩

theorem ne_ty {w : World} {x y : Nat} {c1 c2 : Array Value} {T1 T2 : TypeId} {f1 f2 : Nat × Nat} (h1 : w.heap[x]? = some (.cells c1 T1 f1)) (h2 : w.heap[y]? = some (.cells c2 T2 f2)) (h : T1 ≠ T2) : x ≠ y := by
  intro e
  subst e
  rw [h1] at h2
  simp at h2
  exact h h2.2.1

def endV (x : Item) : Value := .int .i64 ((x.1 + (x.2.1.length + 9) : Nat) : Int)

/-- Block B holds the lists of places and of bodies of what has come; each body lies in a block of its own; none of these blocks is the iterator's. -/
structure Gath (n₀ B : Nat) (T : TypeId) (D : Blocks) (pre : List Item) (vp vb : Value) (V : World) : Prop where
  box : V.heap[B]? = some (.cells #[vp, vb] T (0, 0))
  pl : V.ownsRow n₀ 3 1 vp pre.length (pre.map endV)
  bo : V.ownsRow n₀ 25 1 vb pre.length (pre.map itemV)
  it : ∀ x ∈ pre, Owns V n₀ (itemV x) x.2.1
  nd : (pre.map (·.2.2)).Nodup
  dB : ¬ D B
  dp : ∀ k, vp.ownBlock = some k → ¬ D k
  db : ∀ k, vb.ownBlock = some k → ¬ D k
  di : ∀ x ∈ pre, ¬ D x.2.2
  dl : ∀ k, D k → k < V.heap.size

theorem item_block (x : Item) : (itemV x).ownBlock = some x.2.2 := rfl

theorem Gath.stays {n₀ B : Nat} {T : TypeId} {D0 D D' : Blocks} {pre : List Item} {vp vb : Value} {V V' : World} (h : Gath n₀ B T D pre vp vb V) (hk : Kept V V' (fun k => D k ∧ ¬ D0 k)) (hD : ∀ k, D' k → D k ∨ (V.heap.size ≤ k ∧ k < V'.heap.size)) : Gath n₀ B T D' pre vp vb V' := by
  have far : ∀ k, k < V.heap.size → ¬ D k → ¬ D' k := fun k hl hn h' => by
    rcases hD k h' with h' | h'
    · exact hn h'
    · omega
  exact {
    box := hk.heap h.box (fun hd => h.dB hd.1)
    pl := row_kept h.pl hk (fun k e hd => h.dp k e hd.1)
    bo := row_kept h.bo hk (fun k e hd => h.db k e hd.1)
    it := fun x hx => row_kept (h.it x hx) hk (fun k e hd => by rw [item_block] at e; simp at e; subst e; exact h.di x hx hd.1)
    nd := h.nd
    dB := far _ (lt_of_block h.box) h.dB
    dp := fun k e => far k (row_at h.pl e).2.2 (h.dp k e)
    db := fun k e => far k (row_at h.bo e).2.2 (h.db k e)
    di := fun x hx => far _ (row_at (h.it x hx) (item_block x)).2.2 (h.di x hx)
    dl := fun k hd => by
      have hs := hk.size
      rcases hD k hd with h' | h'
      · have := h.dl k h'; omega
      · exact h'.2 }

theorem heap_set2 {W : World} {B : Nat} {T : TypeId} {a b : Value} (h : W.heap[B]? = some (.cells #[a, b] T (0, 0))) (c : Value) :
    (W.setCell ⟨B, 0, none⟩ c).heap[B]? = some (.cells #[c, b] T (0, 0)) ∧ (W.setCell ⟨B, 1, none⟩ c).heap[B]? = some (.cells #[a, c] T (0, 0)) := by
  obtain ⟨hlt, hk⟩ := Array.getElem?_eq_some_iff.1 h
  constructor
  · show (W.heap.modify B _)[B]? = _
    rw [Array.getElem?_eq_getElem (by rw [Array.size_modify]; exact hlt), Array.getElem_modify_self, hk]
    rfl
  · show (W.heap.modify B _)[B]? = _
    rw [Array.getElem?_eq_getElem (by rw [Array.size_modify]; exact hlt), Array.getElem_modify_self, hk]
    rfl

theorem kept_grown {V w1 : World} {o : Obj} {row : Option Nat} (h : (V.alloc o).grownBy w1 row) : Kept V w1 (fun k => row = some k) :=
  ((Kept.refl V _).alloc o).grown h (fun _ _ e => e)

theorem size_setCell (w : World) (p : Addr) (v : Value) : (w.setCell p v).heap.size = w.heap.size := by simp [World.setCell]

set_option maxHeartbeats 400000 in
/-- One round: a place and a body more. -/
theorem gath_round {n₀ B : Nat} {T : TypeId} {D : Blocks} {pre : List Item} {vp vb : Value} {V : World} (G : Gath n₀ B T D pre vp vb V) (x : Item) (hT1 : T ≠ 3) (hT2 : T ≠ 25) (hT3 : T ≠ 5)
    (hx : Owns V n₀ (itemV x) x.2.1) (hnx : ¬ D x.2.2) (hfr : x.2.2 ∉ pre.map (·.2.2)) (hlen : pre.length ≤ 4000000000000) (hn₀ : n₀ ≤ V.heap.size) (hB : n₀ ≤ B) :
    ∃ g1 c1 w1 g2 c2 w4,
      (Builtin.append_ #[26, 26] 26 #[vp, .slice (some ⟨V.heap.size, 0, none⟩) 1 1]).run Try.prog (V.alloc (.cells #[endV x] 3)) = .ok (.slice (some ⟨g1, 0, none⟩) (pre.length + 1) c1) w1 ∧
      w1.cell? ⟨B, 0, none⟩ = some vp ∧ w1.frozen? ⟨B, 0, none⟩ = false ∧ w1.cell? ⟨B, 1, none⟩ = some vb ∧
      (Builtin.append_ #[22, 22] 22 #[vb, .slice (some ⟨w1.heap.size, 0, none⟩) 1 1]).run Try.prog ((w1.setCell ⟨B, 0, none⟩ (.slice (some ⟨g1, 0, none⟩) (pre.length + 1) c1)).alloc (.cells #[itemV x] 25)) = .ok (.slice (some ⟨g2, 0, none⟩) (pre.length + 1) c2) w4 ∧
      w4.cell? ⟨B, 1, none⟩ = some vb ∧ w4.frozen? ⟨B, 1, none⟩ = false ∧
      Gath n₀ B T D (pre ++ [x]) (.slice (some ⟨g1, 0, none⟩) (pre.length + 1) c1) (.slice (some ⟨g2, 0, none⟩) (pre.length + 1) c2) (w4.setCell ⟨B, 1, none⟩ (.slice (some ⟨g2, 0, none⟩) (pre.length + 1) c2)) ∧
      Kept V (w4.setCell ⟨B, 1, none⟩ (.slice (some ⟨g2, 0, none⟩) (pre.length + 1) c2)) (fun k => ¬ D k) ∧
      Below n₀ V (w4.setCell ⟨B, 1, none⟩ (.slice (some ⟨g2, 0, none⟩) (pre.length + 1) c2)) ∧
      Kept V (w4.setCell ⟨B, 1, none⟩ (.slice (some ⟨g2, 0, none⟩) (pre.length + 1) c2)) (fun k => k = B ∨ vp.ownBlock = some k ∨ vb.ownBlock = some k) := by
  obtain ⟨i0, hi, hz0, hz1, hz2⟩ := info_parts Try.infoInt
  obtain ⟨j0, hj, jz0, jz1, jz2⟩ := info_parts Try.infoBytes
  obtain ⟨g1, c1, w1, hr1, ow1, gr1, li1, lt1⟩ := run_append_lies (P := Try.prog) (V.alloc (.cells #[endV x] 3)) 26 26 n₀ 3 i0 (.int .i64 0) 1 8 Try.underlying26 hi hz0 hz1 hz2 rfl (by decide) vp pre.length (pre.map endV) (G.pl.alloc _) ⟨V.heap.size, 0, none⟩ 1 1 [endV x] rfl (cell_one_new _ _ _) (by simp [Value.oneCell', endV]) (by decide) (by unfold maxLen; omega) (by omega) (by simp; omega) (V.heap.size + 1) (by simp)
  have k1 : Kept V w1 (fun k => vp.ownBlock = some k) := kept_grown gr1
  have npB : vp.ownBlock ≠ some B := fun e => by
    obtain ⟨⟨cs, h1⟩, _⟩ := row_at G.pl e
    exact ne_ty h1 G.box hT1.symm rfl
  have nbB : vb.ownBlock ≠ some B := fun e => by
    obtain ⟨⟨cs, h1⟩, _⟩ := row_at G.bo e
    exact ne_ty h1 G.box hT2.symm rfl
  have npb : ∀ k, vb.ownBlock = some k → vp.ownBlock ≠ some k := fun k e e' => by
    obtain ⟨⟨cs, h1⟩, _⟩ := row_at G.pl e'
    obtain ⟨⟨cs', h2⟩, _⟩ := row_at G.bo e
    exact ne_ty h1 h2 (by decide) rfl
  have hb1 : w1.heap[B]? = some (.cells #[vp, vb] T (0, 0)) := k1.heap G.box npB
  obtain ⟨vp', hvp'⟩ : ∃ vp', vp' = Value.slice (some ⟨g1, 0, none⟩) (pre.length + 1) c1 := ⟨_, rfl⟩
  have hz2' : (w1.setCell ⟨B, 0, none⟩ vp').heap.size = w1.heap.size := size_setCell _ _ _
  have k2 : Kept w1 (w1.setCell ⟨B, 0, none⟩ vp') (· = B) := (Kept.refl w1 _).setCell ⟨B, 0, none⟩ _ (fun _ => rfl)
  have hb2 := (heap_set2 hb1 vp').1
  have g1B : g1 ≠ B := fun e => by
    obtain ⟨⟨cs, h1⟩, _⟩ := row_at ow1 (rfl : (Value.slice (some ⟨g1, 0, none⟩) (pre.length + 1) c1).ownBlock = some g1)
    exact ne_ty h1 hb1 hT1.symm e
  have bo1 : w1.ownsRow n₀ 25 1 vb pre.length (pre.map itemV) := row_kept G.bo k1 (fun k e e' => npb k e e')
  have bo2 : (w1.setCell ⟨B, 0, none⟩ vp').ownsRow n₀ 25 1 vb pre.length (pre.map itemV) := row_kept bo1 k2 (fun k e e' => by subst e'; exact nbB e)
  have ow2 : (w1.setCell ⟨B, 0, none⟩ vp').ownsRow n₀ 3 1 vp' (pre.length + 1) (pre.map endV ++ [endV x]) := by
    rw [hvp'] at k2 ⊢
    exact row_kept ow1 k2 (fun k e e' => by subst e'; simp [Value.ownBlock] at e; exact g1B e)
  have s1 := k1.size
  obtain ⟨g2, c2, w4, hr2, ow4, gr2, li2, lt2⟩ := run_append_lies (P := Try.prog) ((w1.setCell ⟨B, 0, none⟩ vp').alloc (.cells #[itemV x] 25)) 22 22 n₀ 25 j0 (.slice none 0 0) 1 24 Try.underlying22 hj jz0 jz1 jz2 rfl (by decide) vb pre.length (pre.map itemV) (bo2.alloc _) ⟨(w1.setCell ⟨B, 0, none⟩ vp').heap.size, 0, none⟩ 1 1 [itemV x] rfl (cell_one_new _ _ _) (by simp [Value.oneCell', itemV]) (by decide) (by unfold maxLen; omega) (by omega) (by rw [World.size_alloc, hz2']; omega) (w1.heap.size + 1) (by rw [World.size_alloc, hz2'])
  have k4 : Kept (w1.setCell ⟨B, 0, none⟩ vp') w4 (fun k => vb.ownBlock = some k) := kept_grown gr2
  have hb4 : w4.heap[B]? = some (.cells #[vp', vb] T (0, 0)) := k4.heap hb2 nbB
  rw [hz2'] at hr2
  obtain ⟨vb', hvb'⟩ : ∃ vb', vb' = Value.slice (some ⟨g2, 0, none⟩) (pre.length + 1) c2 := ⟨_, rfl⟩
  have k5 : Kept w4 (w4.setCell ⟨B, 1, none⟩ vb') (· = B) := (Kept.refl w4 _).setCell ⟨B, 1, none⟩ _ (fun _ => rfl)
  have hb5 := (heap_set2 hb4 vb').2
  have g2B : g2 ≠ B := fun e => by
    obtain ⟨⟨cs, h1⟩, _⟩ := row_at ow4 (rfl : (Value.slice (some ⟨g2, 0, none⟩) (pre.length + 1) c2).ownBlock = some g2)
    exact ne_ty h1 hb4 hT2.symm e
  have s4 := k4.size
  rw [hz2'] at s4
  have kall : Kept V (w4.setCell ⟨B, 1, none⟩ vb') (fun k => k = B ∨ vp.ownBlock = some k ∨ vb.ownBlock = some k) :=
    (((k1.mono (fun k _ e => .inr (.inl e))).trans k2 (fun k _ e => .inl e)).trans k4 (fun k _ e => .inr (.inr e))).trans k5 (fun k _ e => .inl e)
  have hnon : ∀ k, (k = B ∨ vp.ownBlock = some k ∨ vb.ownBlock = some k) → ¬ D k := fun k h => by
    rcases h with rfl | h | h
    · exact G.dB
    · exact G.dp k h
    · exact G.db k h
  have nit : ∀ (y : Item), Owns V n₀ (itemV y) y.2.1 → ¬ (y.2.2 = B ∨ vp.ownBlock = some y.2.2 ∨ vb.ownBlock = some y.2.2) := fun y hy h => by
    obtain ⟨⟨cs, h1⟩, _⟩ := row_at hy (item_block y)
    rcases h with e | e | e
    · exact ne_ty h1 G.box hT3.symm e
    · obtain ⟨⟨cs', h2⟩, _⟩ := row_at G.pl e
      exact ne_ty h1 h2 (by decide) rfl
    · obtain ⟨⟨cs', h2⟩, _⟩ := row_at G.bo e
      exact ne_ty h1 h2 (by decide) rfl
  have hpl5 : (w4.setCell ⟨B, 1, none⟩ vb').ownsRow n₀ 3 1 vp' (pre.length + 1) (pre.map endV ++ [endV x]) := by
    refine row_kept (row_kept ow2 k4 (fun k e e' => ?_)) k5 (fun k e e' => ?_)
    · obtain ⟨⟨cs, h1⟩, _⟩ := row_at ow2 e
      obtain ⟨⟨cs', h2⟩, _⟩ := row_at bo2 e'
      exact ne_ty h1 h2 (by decide) rfl
    · subst e'
      rw [hvp'] at e
      simp [Value.ownBlock] at e
      exact g1B e
  have hbo5 : (w4.setCell ⟨B, 1, none⟩ vb').ownsRow n₀ 25 1 vb' (pre.length + 1) (pre.map itemV ++ [itemV x]) := by
    rw [hvb'] at k5 ⊢
    exact row_kept ow4 k5 (fun k e e' => by subst e'; simp [Value.ownBlock] at e; exact g2B e)
  refine ⟨g1, c1, w1, g2, c2, w4, hr1, cell_of_row w1 B 0 _ _ _ hb1, frozen_of_row w1 B 0 _ _ hb1, cell_of_row w1 B 1 _ _ _ hb1, by rw [← hvp']; exact hr2, cell_of_row w4 B 1 _ _ _ hb4, frozen_of_row w4 B 1 _ _ hb4, ?_, ?_, ?_, ?_⟩
  · rw [← hvp', ← hvb']
    exact {
      box := hb5
      pl := by simpa using hpl5
      bo := by simpa using hbo5
      it := fun y hy => by
        rcases List.mem_append.1 hy with hy | hy
        · exact row_kept (G.it y hy) kall (fun k e => by rw [item_block] at e; simp at e; subst e; exact nit y (G.it y hy))
        · simp at hy
          subst hy
          exact row_kept hx kall (fun k e => by rw [item_block] at e; simp at e; subst e; exact nit y hx)
      nd := by
        rw [List.map_append, List.nodup_append]
        refine ⟨G.nd, by simp, fun a ha b hb e => ?_⟩
        simp at hb
        subst hb
        subst e
        exact hfr ha
      dB := G.dB
      dp := fun k e => by
        rw [hvp'] at e
        simp [Value.ownBlock] at e
        subst e
        rcases li1 with h | h
        · exact G.dp g1 h
        · intro hd; have := G.dl g1 hd; omega
      db := fun k e => by
        rw [hvb'] at e
        simp [Value.ownBlock] at e
        subst e
        rcases li2 with h | h
        · exact G.db g2 h
        · intro hd; have := G.dl g2 hd; omega
      di := fun y hy => by
        rcases List.mem_append.1 hy with hy | hy
        · exact G.di y hy
        · simp at hy; subst hy; exact hnx
      dl := fun k hd => by have := G.dl k hd; have := kall.size; omega }
  · rw [← hvb']
    exact kall.mono (fun k _ h => hnon k h)
  · rw [← hvb']
    refine kall.below hn₀ (fun k h => ?_)
    rcases h with rfl | h | h
    · exact hB
    · exact (row_at G.pl h).2.1
    · exact (row_at G.bo h).2.1
  · rw [← hvb']
    exact kall

end Go.Proofs.Ytabkjcgcnimoaaa
