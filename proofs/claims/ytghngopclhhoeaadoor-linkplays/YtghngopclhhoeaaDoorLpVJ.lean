/- LinkPlays: each call at one World; two Worlds side by side. -/
import Derived.Test.YtghngopclhhoeaaDoorLpUJ
import Derived.Test.YtghngopclhhoeaaDoorLkNJ
import Derived.Test.YtghngopclhhoeaaDoorLkOJ
namespace Go.Proofs.YtghngopclhhoeaaDoor
open Go.RowKit
set_option maxRecDepth 8000
set_option linter.unusedSimpArgs false
set_option linter.unusedVariables false

section
variable {W : World} {own : Nat → Nat} {p : Nat} {R : PlR}
/-- Every call. -/
theorem does_anyQ (hp1 : p ≤ 1) (h : Pq W own p R) (hal : AlikeG (R.l.map MsD.gd) R.L) (hkt : AlikeG R.K R.T) (hl : R.l.length ≤ 99999998) (hkl : R.K.length ≤ 99999998) (hgo : own 0 / 10 ≠ p) (ht : Tab W) (hg0 : 0 < W.heap.size) (o : OpT) (hg : GoodT W o) (hb : o.bs.length ≤ 67108864) (hso : o.bs ≠ [] → ∀ k, o.bv.ownBlock = some k → own k / 10 ≠ p) :
    Calls Tryd.prog 8 #[.pointer (some ⟨R.x, 0, none⟩), .agg #[.int .i64 o.kd, .int .i64 o.on, .int .i8 o.f, .int .i8 o.t, .slice o.ba o.bs.length o.bc, .int .i64 o.pl, .int .i64 o.k, .int .u8 o.x]] W fun e w' => e = .returned (.bool true) ∧ Hid (DoQ W w' own p R) := by
  by_cases h1 : o.kd = 1
  · rw [h1]; exact does_send hp1 h hal hkt hl o.on o.f o.t o.ba o.bc o.bs o.pl o.k o.x hg.se hso hg.by' hb hg.f0 hg.f1 hg.t0 hg.t1
  by_cases h2 : o.kd = 2
  · rw [h2]; exact does_take hp1 h hal hkt hl hkl hgo ht hg0 o.on o.f o.t _ o.pl o.k o.x
  by_cases h3 : o.kd = 3
  · rw [h3]; exact does_double hp1 h hal hkt hl o.on o.f o.t _ o.pl o.k o.x
  by_cases h4 : o.kd = 4
  · rw [h4]; exact does_spoil hp1 h hal hkt o.on o.f o.t _ o.pl o.k o.x hg.x0 hg.x1
  by_cases h5 : o.kd = 5
  · rw [h5]
    refine (does_tell h hal (by omega) ht hg0 o.on o.f o.t _ o.pl o.k o.x).mono ?_
    rintro e w' ⟨rfl, hk⟩
    exact ⟨rfl, own, R, h.new hk.out, hal, hkt, rfl, by omega, by omega, Stp.new hk.out⟩
  · exact does_else hp1 h hal hkt o.kd o.on o.f o.t _ o.pl o.k o.x h1 h2 h3 h4 h5
end

/-- One of two places: empty, or a World that has made so many calls. -/
def Sl2 (W : World) (own : Nat → Nat) (q : Nat) (c : Value) (n : Nat) : Prop := c = .pointer none ∨ ∃ R, c = .pointer (some ⟨R.x, 0, none⟩) ∧ Pq W own q R ∧ AlikeG (R.l.map MsD.gd) R.L ∧ AlikeG R.K R.T ∧ R.l.length ≤ n ∧ R.K.length ≤ n
/-- Both places. -/
structure Pr2 (w W : World) (own : Nat → Nat) (xw xs : Nat) (c : Nat → Value) (one two : Int) (n : Nat) : Prop where
  bw : W.heap[xw]? = some (.cells #[c 0, c 1] 26 (0, 0))
  bs : W.heap[xs]? = some (.cells #[.int .i64 one, .int .i64 two] 27 (0, 0))
  ow : own xw / 10 = 97
  os : own xs / 10 = 97
  s : ∀ q, q < 2 → Sl2 W own q (c q) n
  lo : ∀ k, own k / 10 < 98 → w.heap.size ≤ k
  be : Below w.heap.size w W
section
variable {w W W' : World} {own own' : Nat → Nat} {xw xs : Nat} {c : Nat → Value} {one two : Int} {n : Nat}
theorem Pr2.new (h : Pr2 w W own xw xs c one two n) (hk : Kept W W' (fun _ => False)) : Pr2 w W' own xw xs c one two n := by
  refine ⟨hk.heap h.bw id, hk.heap h.bs id, h.ow, h.os, fun q hq => ?_, h.lo, h.be.trans (hk.below h.be.size (fun _ e => e.elim))⟩
  rcases h.s q hq with e | ⟨R, e, a, b⟩
  · exact .inl e
  · exact .inr ⟨R, e, a.new hk, b⟩
theorem Pr2.cw (h : Pr2 w W own xw xs c one two n) {p : Nat} (hp : p < 2) : W.cell? ⟨xw, p, none⟩ = some (c p) := by
  rw [cell_of_row W xw p _ _ _ h.bw]
  rcases (show p = 0 ∨ p = 1 by omega) with rfl | rfl <;> rfl
theorem Pr2.cs (h : Pr2 w W own xw xs c one two n) {p : Nat} (hp : p < 2) : W.cell? ⟨xs, p, none⟩ = some (.int .i64 (if p = 0 then one else two)) := by
  rw [cell_of_row W xs p _ _ _ h.bs]
  rcases (show p = 0 ∨ p = 1 by omega) with rfl | rfl <;> rfl
theorem Pr2.more {n' : Nat} (h : Pr2 w W own xw xs c one two n) (hn : n ≤ n') : Pr2 w W own xw xs c one two n' := by
  refine ⟨h.bw, h.bs, h.ow, h.os, fun q hq => ?_, h.lo, h.be⟩
  rcases h.s q hq with e | ⟨R, e, a, b, d, e1, e2⟩
  · exact .inl e
  · exact .inr ⟨R, e, a, b, d, by omega, by omega⟩
/-- A call at p's World. -/
theorem Pr2.step {p : Nat} {R : PlR} (h : Pr2 w W own xw xs c one two n) (hp : p < 2) (hc : c p = .pointer (some ⟨R.x, 0, none⟩)) (hR : R.l.length ≤ n ∧ R.K.length ≤ n) (hd : DoQ W W' own p R) : ∃ own', Pr2 w W' own' xw xs c one two (n + 1) := by
  obtain ⟨own', R', h1, h2, h3, h4, h5, h6, h7⟩ := hd
  have hx : own xw / 10 ≠ p := by have := h.ow; omega
  have hs : own xs / 10 ≠ p := by have := h.os; omega
  have hlo : ∀ k, own k / 10 = p → w.heap.size ≤ k := fun k e => h.lo k (by omega)
  refine ⟨own', h7.kept.heap h.bw hx, h7.kept.heap h.bs hs, by rw [h7.old _ (lt_of_block h.bw) hx]; exact h.ow, by rw [h7.old _ (lt_of_block h.bs) hs]; exact h.os, fun q hq => ?_, fun k e => ?_, h.be.trans (h7.kept.below h.be.size hlo)⟩
  · by_cases hqp : q = p
    · subst hqp
      exact .inr ⟨R', by rw [hc, h4], h1, h2, h3, by omega, by omega⟩
    · rcases h.s q hq with e | ⟨R2, e, a, b, d, e1, e2⟩
      · exact .inl e
      · exact .inr ⟨R2, e, a.keep h7.kept (fun k hk e => .inl (by omega)) (fun k hk e => h7.old k hk (by omega)), b, d, by omega, by omega⟩
  · by_cases hk : k < W.heap.size
    · by_cases hkp : own k / 10 = p
      · exact hlo k hkp
      · rw [h7.old k hk hkp] at e; exact h.lo k e
    · have := h.be.size; omega
/-- Beginning: the places' blocks are the walk's, the elder memory another's. -/
def own2 (n k : Nat) : Nat := if k < n then 990 else 970
theorem Pr2.start (hw : W.heap[xw]? = some (.cells #[.pointer none, .pointer none] 26 (0, 0))) (hs : W.heap[xs]? = some (.cells #[.int .i64 one, .int .i64 two] 27 (0, 0))) (h1 : w.heap.size ≤ xw) (h2 : w.heap.size ≤ xs) (hb : Below w.heap.size w W) : Pr2 w W (own2 w.heap.size) xw xs (fun _ => .pointer none) one two 0 := by
  refine ⟨hw, hs, by unfold own2; rw [if_neg (by omega)], by unfold own2; rw [if_neg (by omega)], fun q hq => .inl rfl, fun k e => ?_, hb⟩
  unfold own2 at e
  split at e <;> omega
/-- A World is laid. -/
theorem Pr2.put {p N d : Nat} {sz : Int} (h : Pr2 w W own xw xs c one two 0) (hp : p < 2) (hk : Kept W W' (fun _ => False)) (hn : Nt W' N sz (.slice none 0 0) []) (hd : Dn W' d sz 0 (.slice none 0 0) []) (hN : W.heap.size ≤ N) (hdn : W.heap.size ≤ d) (hNd : N ≠ d) :
    ∃ own' c', Pr2 w ((W'.alloc (.cells #[.pointer (some ⟨N, 0, none⟩), .pointer (some ⟨d, 0, none⟩), .slice none 0 0, .slice none 0 0] 37)).setCell ⟨xw, p, none⟩ (.pointer (some ⟨W'.heap.size, 0, none⟩))) own' xw xs c' one two 0 := by
  obtain ⟨W1, hW1⟩ : ∃ W1, W1 = W'.alloc (.cells #[.pointer (some ⟨N, 0, none⟩), .pointer (some ⟨d, 0, none⟩), .slice none 0 0, .slice none 0 0] 37) := ⟨_, rfl⟩
  have k1 : Kept W' W1 (fun _ => False) := by rw [hW1]; exact (Kept.refl _ _).alloc _
  have hnew : W1.heap[W'.heap.size]? = some (.cells #[.pointer (some ⟨N, 0, none⟩), .pointer (some ⟨d, 0, none⟩), .slice none 0 0, .slice none 0 0] 37 (0, 0)) := by rw [hW1]; exact heap_alloc_new _ _
  rw [← hW1]
  obtain ⟨W2, hW2⟩ : ∃ W2, W2 = W1.setCell ⟨xw, p, none⟩ (.pointer (some ⟨W'.heap.size, 0, none⟩)) := ⟨_, rfl⟩
  have k2 : Kept W1 W2 (fun k => k = xw) := by rw [hW2]; exact (Kept.refl W1 _).setCell _ _ (fun _ => rfl)
  rw [← hW2]
  have k01 : Kept W W1 (fun _ => False) := hk.trans k1 (fun _ _ e => e)
  have k02 : Kept W W2 (fun k => k = xw) := (k01.mono (fun _ _ e => e.elim)).trans k2 (fun _ _ e => e)
  have hrow := k01.heap h.bw id
  have hxl := lt_of_block h.bw
  have hsz := hk.size
  have hnl := lt_of_block hn.hb
  have hdl := lt_of_block hd.hb
  have hne : xs ≠ xw := fun e => by have := h.bs; rw [e, h.bw] at this; simp at this
  refine ⟨fun k => if k < W.heap.size then own k else if k = N then 10 * p + 1 else if k = d then 10 * p + 2 else 10 * p, fun q => if q = p then .pointer (some ⟨W'.heap.size, 0, none⟩) else c q, ?_, k02.heap h.bs hne, ?_, ?_, fun q hq => ?_, fun k e => ?_, h.be.trans (k02.below h.be.size (fun k e => by rw [e]; exact h.lo xw (by have := h.ow; omega)))⟩
  · rw [hW2, setCell_eq_setRow W1 xw p _ _ _ _ hrow, setRow_heap W1 xw _ _ _ _ hrow]
    rcases (show p = 0 ∨ p = 1 by omega) with rfl | rfl <;> rfl
  · rw [if_pos hxl]; exact h.ow
  · rw [if_pos (lt_of_block h.bs)]; exact h.os
  · by_cases hqp : q = p
    · subst hqp
      simp only [if_pos]
      have n2 : Nt W2 N sz (.slice none 0 0) [] := (hn.kept k1 (fun _ _ e => e)).kept k2 (fun k hf e => by
        rcases hf with e3 | e3 | ⟨m, hm, _⟩
        · omega
        · cases e3
        · simp at hm)
      have d2 : Dn W2 d sz 0 (.slice none 0 0) [] := (hd.kept k1 (fun _ _ e => e)).kept k2 (fun k hf e => by
        rcases hf with e3 | e3 | ⟨m, hm, _⟩
        · omega
        · cases e3
        · simp at hm)
      have er : OwG W2 0 (.slice none 0 0) [] := ⟨World.ownsRow_nil _ _ _ _, fun m hm => by simp at hm⟩
      refine .inr ⟨⟨W'.heap.size, N, d, sz, .slice none 0 0, .slice none 0 0, .slice none 0 0, .slice none 0 0, [], [], [], []⟩, rfl, ⟨k2.heap hnew (fun e => by have e2 : W'.heap.size = xw := e; omega), n2, d2, er, er, fun i j a b hi => by simp at hi, fun m hm => by simp at hm, ?_, fun k hf => ?_, fun k e => ?_, fun m hm => by simp at hm, fun k e => (by cases e), fun m hm => by simp at hm, fun k e => (by cases e), fun m hm => by simp at hm⟩, ⟨rfl, fun i x y hx => by simp at hx⟩, ⟨rfl, fun i x y hx => by simp at hx⟩, by simp, by simp⟩
      · show (if W'.heap.size < W.heap.size then own W'.heap.size else if W'.heap.size = N then 10 * q + 1 else if W'.heap.size = d then 10 * q + 2 else 10 * q) = 10 * q
        rw [if_neg (by omega), if_neg (by omega), if_neg (by omega)]
      · rcases hf with e3 | e3 | ⟨m, hm, _⟩
        · subst e3
          show (if _ then _ else if _ then _ else if _ then _ else _) = _
          rw [if_neg (by omega), if_pos rfl]
        · cases e3
        · simp at hm
      · rcases e with e3 | e3
        · subst e3
          show (if _ then _ else if _ then _ else if _ then _ else _) = _
          rw [if_neg (by omega), if_neg (fun e => hNd e.symm), if_pos rfl]
        · cases e3
    · simp only [if_neg hqp]
      rcases h.s q hq with e | ⟨R2, e, a, b⟩
      · exact .inl e
      · exact .inr ⟨R2, e, a.keep k02 (fun k hkl e => .inl (by rw [e]; have := h.ow; omega)) (fun k hkl e => by show (if _ then _ else _) = _; rw [if_pos hkl]), b⟩
  · by_cases hkl : k < W.heap.size
    · rw [if_pos hkl] at e; exact h.lo k e
    · have := h.be.size; omega
end
end Go.Proofs.YtghngopclhhoeaaDoor
