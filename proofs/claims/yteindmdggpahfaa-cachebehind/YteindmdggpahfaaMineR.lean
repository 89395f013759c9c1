/- What a range over a function leaves as it was (out of Fr7). No Go function is walked here. -/
import Derived.Test.YteindmdggpahfaaRangeR
namespace Go.Proofs.Yteindmdggpahfaa
open Go.RowKit Go.Shelf

/-- What lay below B0 lies as it lay; what the iterator changes lies beyond. -/
def Mine (B0 : Nat) (w : World) (D0 D : Blocks) (W : World) : Prop := B0 ≤ w.heap.size ∧ Below B0 w W ∧ ∀ k, D k → ¬ D0 k → B0 ≤ k

theorem Mine.stays {B0 : Nat} {w : World} {D0 D D' : Blocks} {W W' : World} (h : Mine B0 w D0 D W) (hk : Kept W W' (fun k => D k ∧ ¬ D0 k)) (hD : ∀ k, D' k → D k ∨ (W.heap.size ≤ k ∧ k < W'.heap.size)) : Mine B0 w D0 D' W' := by
  obtain ⟨h0, h1, h2⟩ := h
  refine ⟨h0, h1.trans ⟨hk.os, hk.tape, hk.output, hk.size, fun k hlt => hk.block k (by have := h1.size; omega) (fun hd => by have := h2 k hd.1 hd.2; omega)⟩, fun k hd hn => ?_⟩
  rcases hD k hd with h | h
  · exact h2 k h hn
  · have := h1.size; omega

theorem keep_new {D D' : Blocks} {W W' : World} {B : Nat} {o : Obj} (hB : W.heap[B]? = some o) (hn : ¬ D B) (hD : ∀ k, D' k → D k ∨ (W.heap.size ≤ k ∧ k < W'.heap.size)) : ¬ D' B := fun h => by
  have := lt_of_block hB
  rcases hD B h with h | h
  · exact hn h
  · omega
end Go.Proofs.Yteindmdggpahfaa
