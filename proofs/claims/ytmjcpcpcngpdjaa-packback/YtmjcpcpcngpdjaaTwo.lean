/- A Reader and a Writer side by side in memory, and the variable that holds what a call told; no Go function is walked here. -/
import Derived.Test.YtmjcpcpcngpdjaaOne
import Derived.Test.YtmjcpcpcngpdjaaWorks
namespace Go.Proofs.Ytmjcpcpcngpdjaa
open Go.RowKit

/-- The Reader at gr and, made later, the Writer at gw, both made since w. -/
structure Two (w : World) (gr gw : Nat) (rs : List Int) (f : Int) (ws : List Int) (vr vw : Value) (wr : World) : Prop where
  isR : IsR wr gr vr rs f
  isW : IsW wr gw vw ws
  rowR : ∀ j, vr.ownBlock = some j → j < gw
  rowW : ∀ j, vw.ownBlock = some j → gw < j
  bel : Below w.heap.size w wr
  g0 : w.heap.size ≤ gr
  g1 : gr < gw

section
variable {w wr w' : World} {gr gw : Nat} {rs ws zs : List Int} {f : Int} {vr vw : Value} {s : Rd}

theorem Two.lt (h : Two w gr gw rs f ws vr vw wr) : gw < wr.heap.size := lt_of_block h.isW.1

theorem Two.get (h : Two w gr gw rs f ws vr vw wr) (hp : ReadsTo wr gr vr s w') : ∃ vr', Two w gr gw s.rest s.fault ws vr' vw w' ∧ ∀ j, vr'.ownBlock = some j → vr.ownBlock = some j := by
  obtain ⟨vr', k1, k2, k3⟩ := hp
  have hg0 := h.g0
  have hg1 := h.g1
  refine ⟨vr', ⟨k1, h.isW.kept k3 (by omega) (fun k hk e => ?_), fun j hj => h.rowR j (k2 j hj), h.rowW, ?_, h.g0, h.g1⟩, k2⟩
  · have := h.rowW k hk; omega
  · exact h.bel.trans (k3.below h.bel.size (fun k e => by omega))

theorem Two.keep (h : Two w gr gw rs f ws vr vw wr) (hk : Kept wr w' (fun _ => False)) : Two w gr gw rs f ws vr vw w' :=
  ⟨h.isR.kept hk (fun h => h) (fun _ _ h => h), h.isW.kept hk (fun h => h) (fun _ _ h => h), h.rowR, h.rowW, h.bel.trans (hk.below h.bel.size (fun _ h => h.elim)), h.g0, h.g1⟩

theorem Two.put (h : Two w gr gw rs f ws vr vw wr) (hp : Puts wr gw vw zs w') : ∃ vw', Two w gr gw rs f zs vr vw' w' := by
  obtain ⟨vw', k1, k2, k3⟩ := hp
  have hg0 := h.g0
  have hg1 := h.g1
  have hlt := h.lt
  refine ⟨vw', ⟨h.isR.kept k3 (fun e => ?_) (fun k hk e => ?_), k1, h.rowR, fun j hj => ?_, ?_, h.g0, h.g1⟩⟩
  · rcases e with e | e
    · omega
    · have := h.rowW _ e; omega
  · have h1 := h.rowR k hk
    rcases e with e | e
    · omega
    · have := h.rowW _ e; omega
  · rcases k2 with e | ⟨k, e, hk⟩
    · exact h.rowW j (by rw [← e]; exact hj)
    · rw [hj] at e; simp at e; omega
  · refine h.bel.trans (k3.below h.bel.size (fun k e => ?_))
    rcases e with e | e
    · omega
    · have := h.rowW _ e; omega

/-- What was answered by the Reader lies apart from the Writer. -/
theorem Two.cut (h : Two w gr gw rs f ws vr vw wr) {u : Value} (hu : ∀ k, u.ownBlock = some k → vr.ownBlock = some k) : ∀ k, u.ownBlock = some k → k ≠ gw ∧ vw.ownBlock ≠ some k := by
  intro k hk
  have h1 := h.rowR k (hu k hk)
  refine ⟨by omega, fun e => ?_⟩
  have := h.rowW k e
  omega
end

section
variable {w1 : World} (c0 c1 c2 c3 c4 c5 c6 : Value)
/-- A variable of what was told, new, and what is stored there. -/
abbrev toldIn (w1 : World) (c0 c1 c2 c3 c4 c5 c6 : Value) : World :=
  ((((((((w1.alloc told0).setCell ⟨w1.heap.size, 0, none⟩ c0).setCell ⟨w1.heap.size, 1, none⟩ c1).setCell ⟨w1.heap.size, 2, none⟩ c2).setCell ⟨w1.heap.size, 3, none⟩ c3).setCell ⟨w1.heap.size, 4, none⟩ c4).setCell ⟨w1.heap.size, 5, none⟩ c5).setCell ⟨w1.heap.size, 6, none⟩ c6)

theorem toldIn_kept : Kept w1 (toldIn w1 c0 c1 c2 c3 c4 c5 c6) (fun _ => False) := by
  have hs : w1.heap.size < w1.heap.size → False := fun h => by omega
  exact ((((((((Kept.refl w1 (fun _ => False)).alloc told0).setCell _ c0 hs).setCell _ c1 hs).setCell _ c2 hs).setCell _ c3 hs).setCell _ c4 hs).setCell _ c5 hs).setCell _ c6 hs

theorem toldIn_row : (toldIn w1 c0 c1 c2 c3 c4 c5 c6).heap[w1.heap.size]? = some (.cells #[c0, c1, c2, c3, c4, c5, c6] 41 (0, 0)) := by
  have hrow := heap_set (i := 6) c6 (heap_set (i := 5) c5 (heap_set (i := 4) c4 (heap_set (i := 3) c3 (heap_set (i := 2) c2 (heap_set (i := 1) c1 (heap_set (i := 0) c0 (heap_alloc_new w1 told0)))))))
  rw [hrow]
  simp [told]
end

/-- The slice's first n bytes, its room as it is. -/
theorem sees_front {w : World} {ao : Option Addr} {xs : List Int} {cap n : Nat} (h : Sees w (.slice ao xs.length cap) xs) (hn : n ≤ xs.length) : Sees w (.slice ao n cap) (xs.take n) := by
  obtain ⟨ao', cap', e, g1, g2, g0, g3⟩ := h
  simp at e
  obtain ⟨rfl, rfl⟩ := e
  have hl : (xs.take n).length = n := by simp; omega
  refine ⟨ao, cap, by rw [hl], by omega, g2, g0, ?_⟩
  rcases g3 with g3 | ⟨b, off, e, g3⟩
  · exact .inl (by rw [g3]; simp)
  · refine .inr ⟨b, off, e, fun i hi => ?_⟩
    rw [g3 i (by omega)]
    have hi' : i < n := by omega
    simp [List.getD_eq_getElem?_getD, hi']

end Go.Proofs.Ytmjcpcpcngpdjaa
