/- What PackBack keeps while it writes: the list of what was said, each call's own bytes, and the Writer; no Go function is walked here. -/
import Derived.Test.YtmjcpcpcngpdjaaOpsOpen
import Derived.Test.YtmjcpcpcngpdjaaTwo
import Derived.Maps.AppendAt
namespace Go.Proofs.Ytmjcpcpcngpdjaa
open Go.RowKit

def opCells (o : OpD) : List Value := [.int .i64 o.kind, .int .i64 o.on, .int .i64 o.n, .float .f64 o.x, .string o.s, .slice o.ao o.ys.length o.cap]
/-- The bytes of all that was said. -/
def encs (sd : List OpD) : List Int := sd.flatMap fun o => encOf o.kind o.n o.x o.s o.ys
theorem encs_snoc (sd : List OpD) (o : OpD) : encs (sd ++ [o]) = encs sd ++ encOf o.kind o.n o.x o.s o.ys := by simp [encs]
theorem encs_cons (sd : List OpD) (o : OpD) : encs (o :: sd) = encOf o.kind o.n o.x o.s o.ys ++ encs sd := by simp [encs]

abbrev OpD.v (o : OpD) : Value := .slice o.ao o.ys.length o.cap

structure GoodSaid (o : OpD) : Prop where
  k0 : 1 ≤ o.kind
  k1 : o.kind ≤ 9
  fits : Fits o.n o.x o.s o.ys
  byts : Byts o.ys

abbrev OwnsOps (w : World) (base : Nat) (v : Value) (sd : List OpD) : Prop := w.ownsRow base 31 6 v sd.length (sd.flatMap opCells)

theorem OwnsOps.kept {w w' : World} {S : Nat → Prop} {base : Nat} {v : Value} {sd : List OpD} (h : OwnsOps w base v sd) (hk : Kept w w' S) (hn : ∀ k, v.ownBlock = some k → ¬ S k) : OwnsOps w' base v sd := by
  refine ⟨h.1, ?_⟩
  rcases h.2 with h | ⟨g, cap, cur, rfl, h1, h2, h3⟩
  · exact .inl h
  · exact .inr ⟨g, cap, cur, rfl, h1, hk.heap h2 (hn g rfl), h3⟩

structure Said (w : World) (gw : Nat) (sv vw : Value) (sd : List OpD) (bs : List Int) (wr : World) : Prop where
  own : OwnsOps wr (gw + 1) sv sd
  see : ∀ o ∈ sd, Sees wr o.v o.ys
  rowB : ∀ o ∈ sd, ∀ j, o.v.ownBlock = some j → gw < j ∧ j < wr.heap.size ∧ vw.ownBlock ≠ some j ∧ sv.ownBlock ≠ some j
  rowS : ∀ j, sv.ownBlock = some j → gw < j ∧ vw.ownBlock ≠ some j
  rowW : ∀ j, vw.ownBlock = some j → gw < j
  isW : IsW wr gw vw bs
  bel : Below w.heap.size w wr
  g0 : w.heap.size ≤ gw
  good : ∀ o ∈ sd, GoodSaid o

section
variable {w wr w' : World} {gw : Nat} {sv vw : Value} {sd : List OpD} {bs zs : List Int}

theorem Said.lt (h : Said w gw sv vw sd bs wr) : gw < wr.heap.size := lt_of_block h.isW.1

theorem Said.keep (h : Said w gw sv vw sd bs wr) (hk : Kept wr w' (fun _ => False)) : Said w gw sv vw sd bs w' :=
  ⟨h.own.kept hk (fun _ _ h => h), fun o ho => (h.see o ho).kept hk (fun _ _ h => h), fun o ho j hj => by have := h.rowB o ho j hj; exact ⟨this.1, Nat.lt_of_lt_of_le this.2.1 hk.size, this.2.2⟩,
    h.rowS, h.rowW, h.isW.kept hk (fun h => h) (fun _ _ h => h), h.bel.trans (hk.below h.bel.size (fun _ h => h.elim)), h.g0, h.good⟩

theorem Said.put' {vw' : Value} (h : Said w gw sv vw sd bs wr) (k1 : IsW w' gw vw' zs) (k2 : NewRow wr vw vw') (k3 : Kept wr w' (fun k => k = gw ∨ vw.ownBlock = some k)) : Said w gw sv vw' sd zs w' := by
  have hlt := h.lt
  have hg0 := h.g0
  have hs := k3.size
  have hnew : ∀ j, j < wr.heap.size → vw.ownBlock ≠ some j → vw'.ownBlock ≠ some j := by
    intro j hj hn e
    rcases k2 with e2 | ⟨k, e2, hk⟩
    · exact hn (by rw [← e2]; exact e)
    · rw [e] at e2; simp at e2; omega
  refine ⟨h.own.kept k3 (fun k hk e => ?_), fun o ho => (h.see o ho).kept k3 (fun k hk e => ?_), fun o ho j hj => ?_, fun j hj => ?_, fun j hj => ?_, k1, ?_, h.g0, h.good⟩
  · have := h.rowS k hk
    rcases e with e | e
    · omega
    · exact this.2 e
  · have := h.rowB o ho k hk
    rcases e with e | e
    · omega
    · exact this.2.2.1 e
  · have := h.rowB o ho j hj
    exact ⟨this.1, by omega, hnew j this.2.1 this.2.2.1, this.2.2.2⟩
  · have := h.rowS j hj
    exact ⟨this.1, hnew j (h.own.lt j hj).2 this.2⟩
  · rcases k2 with e | ⟨k, e, hk⟩
    · exact h.rowW j (by rw [← e]; exact hj)
    · rw [hj] at e; simp at e; omega
  · refine h.bel.trans (k3.below h.bel.size (fun k e => ?_))
    rcases e with e | e
    · omega
    · have := h.rowW _ e; omega

theorem Said.push {sv' : Value} {o : OpD} (h : Said w gw sv vw sd bs wr) (ho : Sees wr o.v o.ys) (hb : ∀ j, o.v.ownBlock = some j → gw < j ∧ j < wr.heap.size ∧ vw.ownBlock ≠ some j ∧ sv.ownBlock ≠ some j) (hgood : GoodSaid o)
    (hown : w'.ownsRow (gw + 1) 31 6 sv' (sd.length + 1) (sd.flatMap opCells ++ opCells o)) (hgrow : wr.grownBy w' sv.ownBlock) (hat : sv'.ownBlock = sv.ownBlock ∨ sv'.ownBlock = some wr.heap.size) :
    Said w gw sv' vw (sd ++ [o]) bs w' := by
  have hk : Kept wr w' (fun k => sv.ownBlock = some k) := (Kept.refl wr _).grown hgrow (fun k _ e => e)
  have hlt := h.lt
  have hg0 := h.g0
  have hs := hk.size
  have hrow : ∀ j, j < wr.heap.size → sv.ownBlock ≠ some j → sv'.ownBlock ≠ some j := by
    intro j hj hn e
    rcases hat with e2 | e2
    · exact hn (by rw [← e2]; exact e)
    · rw [e] at e2; simp at e2; omega
  have hall : ∀ q ∈ sd ++ [o], Sees wr q.v q.ys ∧ (∀ j, q.v.ownBlock = some j → gw < j ∧ j < wr.heap.size ∧ vw.ownBlock ≠ some j ∧ sv.ownBlock ≠ some j) ∧ GoodSaid q := by
    intro q hq
    rcases List.mem_append.1 hq with hq | hq
    · exact ⟨h.see q hq, h.rowB q hq, h.good q hq⟩
    · simp at hq; subst hq; exact ⟨ho, hb, hgood⟩
  refine ⟨?_, fun q hq => (hall q hq).1.kept hk (fun k hk e => ((hall q hq).2.1 k hk).2.2.2 e), fun q hq j hj => ?_, fun j hj => ?_, h.rowW, h.isW.kept hk (fun e => ?_) (fun k hk e => ?_), ?_, h.g0, fun q hq => (hall q hq).2.2⟩
  · have e : (sd ++ [o]).flatMap opCells = sd.flatMap opCells ++ opCells o := by simp
    show w'.ownsRow (gw + 1) _ 6 sv' (sd ++ [o]).length ((sd ++ [o]).flatMap opCells)
    rw [e, List.length_append]
    exact hown
  · have := (hall q hq).2.1 j hj
    exact ⟨this.1, by omega, this.2.2.1, hrow j this.2.1 this.2.2.2⟩
  · rcases hat with e | e
    · exact h.rowS j (by rw [← e]; exact hj)
    · rw [hj] at e
      simp at e
      subst e
      refine ⟨hlt, fun e => ?_⟩
      have := (h.isW.2.lt _ e).2
      omega
  · have := (h.rowS gw e).1; omega
  · exact (h.rowS k e).2 hk
  · refine h.bel.trans (hk.below h.bel.size (fun k e => ?_))
    have := (h.rowS k e).1; omega
end

/-- A call of the list, as it lies there. -/
theorem opLen (sd : List OpD) : sd.length ≤ opSum sd := by
  induction sd with
  | nil => simp
  | cons o r ih => simp only [List.length_cons, opSum, OpD.size]; omega

theorem ops_at {sd : List OpD} {k : Nat} (h : k < sd.length) (j : Nat) (hj : j < 6) : (sd.flatMap opCells)[k * 6 + j]? = (opCells sd[k])[j]? := by
  induction sd generalizing k with
  | nil => simp at h
  | cons o r ih =>
    rw [List.flatMap_cons]
    cases k with
    | zero =>
      rw [List.getElem?_append_left (by simp [opCells]; omega)]
      simp
    | succ k =>
      have hl : (opCells o).length = 6 := rfl
      rw [List.getElem?_append_right (by rw [hl]; omega), hl]
      have e : (k + 1) * 6 + j - 6 = k * 6 + j := by omega
      rw [e, ih (by simpa using h)]
      simp

end Go.Proofs.Ytmjcpcpcngpdjaa
