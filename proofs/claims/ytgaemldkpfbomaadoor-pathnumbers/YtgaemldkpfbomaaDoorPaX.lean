/- The region of path.Above's round, whose operations come in any order: it hands the path ahead of a place to the loop around it. -/
import Derived.Test.YtgaemldkpfbomaaDoorPaU
import Derived.OrdersIn
namespace Go.Proofs.YtgaemldkpfbomaaDoor
open Go.RowKit Go.Shelf
set_option maxRecDepth 8000
attribute [local go_sem] Oper.semAt_some

/-- The variables of the round: those ahead of the region, and the region's six. -/
def A (t : Array Value) (v0 v1 v2 v3 v4 v5 : Value) : Act := { tmps := #[t.getD 0 undef, t.getD 1 undef, t.getD 2 undef, t.getD 3 undef, t.getD 4 undef, t.getD 5 undef, t.getD 6 undef, t.getD 7 undef, t.getD 8 undef, t.getD 9 undef, t.getD 10 undef, t.getD 11 undef, t.getD 12 undef, t.getD 13 undef, t.getD 14 undef, t.getD 15 undef, t.getD 16 undef, t.getD 17 undef, t.getD 18 undef, v0, v1, v2, v3, v4, v5], defers := [] }

/-- An operation that calls nothing and leaves the world. -/
theorem opIn_calm {F : Fence} {n : Nat} {P : Program} {ops : Array Oper} {Q : Exit → Act → World → Prop} {i : Nat} {K : Act → World → Prop} {a : Act} {w : World} {o : Oper} {v : Value} (hi : ops[i]? = some o) (hg : o.guard = none)
    (hab : o.about P w a.eval = none) (hd : ∀ c, o.op ≠ .defer c) (hv : (execOp a.eval o).run P w = .ok (.value v) w) (h : K (a.put o.dst v) w) : wpOpIn F n P ops Q i K a w := by
  unfold wpOpIn
  simp only [hi, Region.wanted, hg, if_true]
  unfold Oper.wpIn
  refine ⟨fun f hf => (by rw [hab] at hf; cases hf), ?_⟩
  rw [Oper.semAt_plain F _ _ hd, hv]
  exact h

end Go.Proofs.YtgaemldkpfbomaaDoor
