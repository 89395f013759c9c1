/- A round of the copy of a request's inner ones. No Go function is walked here. -/
import Derived.Test.YteindmdggpahfaaCopyS
namespace Go.Proofs.Yteindmdggpahfaa
open Go.RowKit
set_option maxRecDepth 8000

theorem row_shape {w : World} {base : Nat} {t : TypeId} {z : Nat} {v : Value} {n : Nat} {xs : List Value} (h : w.ownsRow base t z v n xs) : ∃ ao n c, v = .slice ao n c := by
  rcases h.2 with ⟨rfl, _⟩ | ⟨g, cap, cur, rfl, _⟩
  · exact ⟨_, _, _, rfl⟩
  · exact ⟨_, _, _, rfl⟩

/-- A round of the copy of a request's inner ones: what stands behind it. -/
theorem copy_round {w U wr w5 w6 : World} {B k n : Nat} {t : TypeId} {IN cs : Array Value} {ops : Fin n → Rq} {vo v' : Value} {es : List (List Value)} {ds : List Value} {o : Obj}
    (hB : w.heap.size + 3 ≤ B) (hBw : B ≤ wr.heap.size) (hk : k < n) (hes : es.length = k) (hC : CS w wr IN cs) (hK : Kept U wr (fun j => j = w.heap.size + 2 ∨ B ≤ j)) (hvo : ∀ q, vo.ownBlock = some q → B ≤ q ∧ q < wr.heap.size)
    (hel : ∀ j (hj : j < es.length) (hn : j < n), RqIn wr (fun q => B ≤ q ∧ q < wr.heap.size ∧ vo.ownBlock ≠ some q) es[j] (ops ⟨j, hn⟩))
    (b5 : Below wr.heap.size wr w5) (hr5 : RqIn w5 (fun q => wr.heap.size ≤ q ∧ q < w5.heap.size) ds (ops ⟨k, hk⟩))
    (hgrow : (w5.alloc o).grownBy w6 vo.ownBlock) (hat : v'.ownBlock = vo.ownBlock ∨ v'.ownBlock = some (w5.alloc o).heap.size) (hown' : w6.ownsRow B t 11 v' (k + 1) (es.flatten ++ ds)) :
    CS w (w6.setCell ⟨w.heap.size + 2, 10, none⟩ v') IN (cs.setIfInBounds 10 v') ∧ Kept U (w6.setCell ⟨w.heap.size + 2, 10, none⟩ v') (fun j => j = w.heap.size + 2 ∨ B ≤ j) ∧
      (w6.setCell ⟨w.heap.size + 2, 10, none⟩ v').ownsRow B t 11 v' (k + 1) (es ++ [ds]).flatten ∧
      ∀ j (hj : j < (es ++ [ds]).length) (hn : j < n), RqIn (w6.setCell ⟨w.heap.size + 2, 10, none⟩ v') (fun q => B ≤ q ∧ q < (w6.setCell ⟨w.heap.size + 2, 10, none⟩ v').heap.size ∧ v'.ownBlock ≠ some q) (es ++ [ds])[j] (ops ⟨j, hn⟩) := by
  have h5 := b5.size
  have h6 := hgrow.size
  simp at h6
  have hsz : (w6.setCell ⟨w.heap.size + 2, 10, none⟩ v').heap.size = w6.heap.size := by simp [World.setCell]
  have hat' : ∀ q, v'.ownBlock = some q → (vo.ownBlock = some q) ∨ q = w5.heap.size + 1 - 0 := fun q hq => by
    rcases hat with h | h
    · exact .inl (by rw [← h]; exact hq)
    · rw [hq] at h; simp at h; exact .inr (by omega)
  have K5 : Kept w5 w6 (fun q => vo.ownBlock = some q) := ((Kept.refl w5 (fun q => vo.ownBlock = some q)).alloc o).grown hgrow (fun q _ h => h)
  have K6 : Kept w6 (w6.setCell ⟨w.heap.size + 2, 10, none⟩ v') (fun q => q = w.heap.size + 2) := (Kept.refl w6 (fun q => q = w.heap.size + 2)).setCell _ _ (fun _ => rfl)
  have Kr : Kept wr w6 (fun q => wr.heap.size ≤ q ∨ vo.ownBlock = some q) := ((Below.kept b5).mono (fun q _ h => Or.inl h)).trans K5 (fun q _ h => .inr h)
  have Kw : Kept wr (w6.setCell ⟨w.heap.size + 2, 10, none⟩ v') (fun q => wr.heap.size ≤ q ∨ vo.ownBlock = some q ∨ q = w.heap.size + 2) := (Kr.mono (fun q _ h => h.elim .inl (fun h => .inr (.inl h)))).trans K6 (fun q _ h => .inr (.inr h))
  have K56 : Kept w5 (w6.setCell ⟨w.heap.size + 2, 10, none⟩ v') (fun q => vo.ownBlock = some q ∨ q = w.heap.size + 2) := (K5.mono (fun q _ h => Or.inl h)).trans K6 (fun q _ h => .inr h)
  refine ⟨(hC.kept Kr (fun q h => ?_)).set 10 v', hK.trans Kw (fun q _ h => ?_), ?_, fun j hj hn => ?_⟩
  · rcases h with h | h
    · omega
    · have := hvo q h; omega
  · rcases h with h | h | h
    · exact .inr (by omega)
    · exact .inr (hvo q h).1
    · exact .inl h
  · rw [List.flatten_append]
    simp only [List.flatten_cons, List.flatten_nil, List.append_nil]
    exact ownsRow_kept hown' K6 (fun q hq e => by have := (hown'.lt q hq).1; omega)
  · by_cases hjk : j < es.length
    · rw [List.getElem_append_left hjk]
      refine RqIn.kept Kw (fun q hq => ⟨fun h => ?_, hq.1, by omega, fun e => ?_⟩) (hel j hjk hn)
      · rcases h with h | h | h
        · omega
        · exact hq.2.2 h
        · omega
      · rcases hat' q e with h | h
        · exact hq.2.2 h
        · omega
    · have hj' : j = k := by simp at hj; omega
      subst hj'
      have hget : (es ++ [ds])[j] = ds := by
        rw [List.getElem_append_right (by omega)]
        simp [hes]
      rw [hget]
      refine RqIn.kept K56 (fun q hq => ⟨fun h => ?_, by omega, by omega, fun e => ?_⟩) hr5
      · rcases h with h | h
        · have := hvo q h; omega
        · omega
      · rcases hat' q e with h | h
        · have := hvo q h; omega
        · omega

end Go.Proofs.Yteindmdggpahfaa
