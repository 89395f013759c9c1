/- An append to a list that is grown, in its own room or in a new row: one law for the walk; no Go function is walked here. -/
import Derived.Test.YtghngopclhhoeaaDoorTurnJ
namespace Go.Proofs.YtghngopclhhoeaaDoor
open Go.RowKit
set_option maxRecDepth 8000

theorem ownsRow_mono {w : World} {b b' : Nat} {E : TypeId} {v : Value} {n : Nat} {xs : List Value} (h : w.ownsRow b E 1 v n xs) (hb : b' ≤ b) : w.ownsRow b' E 1 v n xs := by
  refine ⟨h.1, ?_⟩
  rcases h.2 with h | ⟨g, cap, cur, e, h1, h2⟩
  · exact .inl h
  · exact .inr ⟨g, cap, cur, e, by omega, h2⟩

theorem kept_grown {w w' : World} {row : Option Nat} {S : Nat → Prop} (h : w.grownBy w' row) (hr : ∀ k, row = some k → S k) : Kept w w' S :=
  ⟨h.os, h.tape, h.output, h.size, fun k hk hn => h.block k hk (fun e => hn (hr k e.symm))⟩

theorem has_more {w : World} {ao : Option Addr} {cap k off : Nat} {cs : Array Value} {E : TypeId} {xs : List Value} {y : Value} (h : (⟨ao, xs.length, cap⟩ : Pc).Has w xs) (ha : ao = some ⟨k, off, none⟩) (hr : w.heap[k]? = some (.cells cs E (0, 0))) (hsz : off + xs.length < cs.size) :
    (⟨ao, (xs ++ [y]).length, cap⟩ : Pc).Has (w.setCell ⟨k, off + xs.length, none⟩ y) (xs ++ [y]) := by
  refine ⟨rfl, .inr ⟨k, off, ha, fun i hi => ?_⟩⟩
  have hrow : (w.setCell ⟨k, off + xs.length, none⟩ y).heap[k]? = some (.cells (cs.setIfInBounds (off + xs.length) y) E (0, 0)) := by
    rw [setCell_eq_setRow w k _ cs E (0, 0) y hr]; exact setRow_heap w k cs _ E (0, 0) hr
  rw [cell_of_row _ k (off + i) _ _ _ hrow]
  by_cases e : i = xs.length
  · subst e
    rw [Array.getElem?_setIfInBounds_self_of_lt hsz]
    simp
  · have hi2 : i < xs.length := by rw [List.length_append] at hi; simp at hi; omega
    rw [Array.getElem?_setIfInBounds_ne (by omega), ← cell_of_row w k (off + i) cs E (0, 0) hr]
    rcases h.2 with h0 | ⟨k', off', e', h2⟩
    · rw [h0] at hi2; simp at hi2
    · have e2 : some (⟨k, off, none⟩ : Addr) = some ⟨k', off', none⟩ := ha.symm.trans e'
      simp at e2
      obtain ⟨rfl, rfl⟩ := e2
      rw [h2 i hi2, List.getElem_append_left hi2]

/-- The blocks whose elements are of type E. -/
def OfType (w : World) (E : TypeId) (k : Nat) : Prop := ∃ cs fr, w.heap[k]? = some (.cells cs E fr)

theorem wpList_more2 {P : Program} {wi wr : World} {ops : Array Oper} {rest : List Oper} {o : Oper} {a : Act} {Q : Exit → Act → World → Prop}
    (hgd : o.guard = none) (s x : Operand) (t : TypeId) (hop : o.op = Op.call { callee := Callee.builtin Builtin.append, args := #[s, x], argTypes := #[t, t] })
    (E : TypeId) (i : TypeInfo) (z : Value) (bytes : Nat) (ht : P.underlying t = some (.slice E)) (hi : P.info? E = some i) (hz : i.zero = some z) (hsize : i.size = 1) (hby : i.bytes = bytes) (hzs : z.cells.size = 1)
    (p : Pc) (m : Value) (xs : List Value) (hG : Grown wi wr E p m xs) (hl : Lies wi E p) (hm : a.eval s = m)
    (kx ox c : Nat) (y : Value) (hx : a.eval x = .slice (some ⟨kx, ox, none⟩) 1 c) (hc : wr.cell? ⟨kx, ox, none⟩ = some y) (h1 : y.oneCell' = true) (b1 : xs.length + 1 ≤ maxLen) (b2 : (xs.length + 1) * bytes ≤ 140737488355328)
    (hK : ∀ m' w', Grown wi w' E p m' (xs ++ [y]) → Kept wr w' (OfType wr E) → wpList P ops Q rest (a.put o.dst m') w') : wpList P ops Q (o :: rest) a wr := by
  have hlen : (xs ++ [y]).length = xs.length + 1 := by simp
  have hnews : ∀ j u, [y][j]? = some u → wr.cell? ((⟨kx, ox, none⟩ : Addr).add j) = some u := by
    intro j u hj
    cases j with
    | zero => simp at hj; subst hj; rw [Addr.add_lit]; exact hc
    | succ j => simp at hj
  have hone : ∀ u ∈ [y], u.oneCell' = true := by intro u hu; simp at hu; subst hu; exact h1
  obtain ⟨hT, hn, hcase⟩ := hG
  have hl' := hl.turned hT
  rcases hcase with ⟨rfl, hle, hhas⟩ | hown
  · by_cases hroom : xs.length + 1 ≤ p.cap
    · obtain ⟨k, off, cs, ha, hr, hsz⟩ := hl'.at' (by omega)
      have hk0 : ∀ j u, xs[j]? = some u → wr.cell? ⟨k, off + j, none⟩ = some u := by
        intro j u hj
        obtain ⟨hj1, hj2⟩ := List.getElem?_eq_some_iff.1 hj
        rcases hhas.2 with h0 | ⟨k', off', e', h2⟩
        · rw [h0] at hj1; simp at hj1
        · have e2 : some (⟨k, off, none⟩ : Addr) = some ⟨k', off', none⟩ := ha.symm.trans e'
          simp at e2
          obtain ⟨rfl, rfl⟩ := e2
          rw [h2 j hj1, hj2]
      refine wpList_append_arg wr hgd s x t hop E i z 1 bytes ht hi hz hsize hby hzs (by decide) k off xs.length p.cap xs (by rw [hm]; unfold Pc.val; rw [ha]) (by simp) hk0 ⟨kx, ox, none⟩ 1 c [y] hx (by simp) hnews hone (fun _ j hj => ?_) b1 b2 (fun _ => ?_) (fun hcap => by omega)
      · have hj0 : j = 0 := by simp at hj; omega
        subst hj0
        refine ⟨?_, frozen_of_row wr k _ cs E hr⟩
        rw [cell_of_row wr k _ cs E (0, 0) hr]
        simp only [Nat.mul_one, Nat.add_zero]
        rw [Array.getElem?_eq_getElem (by omega)]
        rfl
      · have e1 : (Value.slice (some ⟨k, off, none⟩) (xs.length + 1) p.cap) = (⟨p.ao, (xs ++ [y]).length, p.cap⟩ : Pc).val := by unfold Pc.val; rw [hlen, ha]
        have e2 : wr.setCells k (off + xs.length * 1) [y] = wr.setCell ⟨k, off + xs.length, none⟩ y := by rw [Nat.mul_one]; rfl
        rw [e1, e2]
        refine hK _ _ ⟨hT.setCell y (fun _ => ⟨off, ha, by omega, by omega⟩), by omega, .inl ⟨rfl, by omega, has_more hhas ha hr (by omega)⟩⟩ ((Kept.refl wr _).setCell _ _ (fun _ => ⟨cs, _, hr⟩))
    · refine wpList_append_grows wr hgd s x t hop E i z 1 bytes ht hi hz hsize hby hzs (by decide) p.ao xs.length p.cap xs (by rw [hm]; rfl) (fun e => ?_) (by simp) (fun b hb j u hj => ?_) ⟨kx, ox, none⟩ 1 c [y] hx (by simp) hnews hone (by omega) b1 b2 (fun v' w' h1 h2 => ?_)
      · have := hl.nil e; omega
      · obtain ⟨hj1, hj2⟩ := List.getElem?_eq_some_iff.1 hj
        rcases hhas.2 with h0 | ⟨k', off', e', h2⟩
        · rw [h0] at hj1; simp at hj1
        · have e2 : some b = some ⟨k', off', none⟩ := hb.symm.trans e'
          simp at e2
          subst e2
          rw [Addr.add_lit, h2 j hj1, hj2]
      · refine hK _ _ ⟨hT.new (kept_grown h2 (fun k e => by simp at e)), by omega, .inr ?_⟩ ?_
        · rw [hlen]
          exact ownsRow_mono h1 hT.size
        · exact kept_grown h2 (fun k e => by simp at e)
  · refine wpList_append_own_at wr hgd s x t hop wi.heap.size E i z 1 bytes ht hi hz hsize hby hzs (by decide) m xs.length xs hm hown ⟨kx, ox, none⟩ 1 c [y] hx (by simp) hnews hone b1 b2 hT.size (fun v' w' h1 h2 _ _ => ?_)
    refine hK _ _ ⟨hT.own (B := wi.heap.size) (Nat.le_refl _) (kept_grown h2 (fun k e => ?_)), by omega, .inr ?_⟩ ?_
    · rcases hown.2 with ⟨rfl, _⟩ | ⟨g, cap, cur, rfl, hb, _⟩
      · simp [Value.ownBlock] at e
      · simp [Value.ownBlock] at e; omega
    · rw [hlen]; exact h1
    · refine kept_grown h2 (fun k e => ?_)
      rcases hown.2 with ⟨rfl, _⟩ | ⟨g, cap, cur, rfl, hb, hg, _⟩
      · simp [Value.ownBlock] at e
      · simp [Value.ownBlock] at e
        subst e
        exact ⟨cur, _, hg⟩

theorem wpList_more {P : Program} {wi wr : World} {ops : Array Oper} {rest : List Oper} {o : Oper} {a : Act} {Q : Exit → Act → World → Prop}
    (hgd : o.guard = none) (s x : Operand) (t : TypeId) (hop : o.op = Op.call { callee := Callee.builtin Builtin.append, args := #[s, x], argTypes := #[t, t] })
    (E : TypeId) (i : TypeInfo) (z : Value) (bytes : Nat) (ht : P.underlying t = some (.slice E)) (hi : P.info? E = some i) (hz : i.zero = some z) (hsize : i.size = 1) (hby : i.bytes = bytes) (hzs : z.cells.size = 1)
    (p : Pc) (m : Value) (xs : List Value) (hG : Grown wi wr E p m xs) (hl : Lies wi E p) (hm : a.eval s = m)
    (kx ox c : Nat) (y : Value) (hx : a.eval x = .slice (some ⟨kx, ox, none⟩) 1 c) (hc : wr.cell? ⟨kx, ox, none⟩ = some y) (h1 : y.oneCell' = true) (b1 : xs.length + 1 ≤ maxLen) (b2 : (xs.length + 1) * bytes ≤ 140737488355328)
    (hK : ∀ m' w', Grown wi w' E p m' (xs ++ [y]) → wpList P ops Q rest (a.put o.dst m') w') : wpList P ops Q (o :: rest) a wr :=
  wpList_more2 hgd s x t hop E i z bytes ht hi hz hsize hby hzs p m xs hG hl hm kx ox c y hx hc h1 b1 b2 (fun m' w' h _ => hK m' w' h)

end Go.Proofs.YtghngopclhhoeaaDoor
