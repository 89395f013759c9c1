/- A World of the law in memory: a clock, the document's, the lists that were kept and wanted; what each call leaves. -/
import Derived.Test.YtmniefmjdfdedaaGreatDoorSgA
import Derived.Test.YtmniefmjdfdedaaGreatDoorBgEr
namespace Go.Proofs.YtmniefmjdfdedaaGreatDoor
open Go.RowKit Go.Shelf
set_option maxRecDepth 8000
set_option linter.unusedSimpArgs false

/-- Where a World lies, and what it holds. -/
structure WoR where
  x : Nat
  c : Nat
  m : Nat
  s : Nat
  d : Nat
  sv : Value
  bv : Value
  kv : Value
  wv : Value
  t : Int
  now : Int
  span : Int
  l : List LfT
  dl : List DcT
  ks : List Rw
  ws : List Value
  xs : List (List Int)
/-- Its blocks. -/
def WoR.foot (R : WoR) (k : Nat) : Prop := k = R.x ∨ FtC R.c R.m R.s k ∨ FtD R.d R.sv R.bv k ∨ R.kv.ownBlock = some k ∨ R.wv.ownBlock = some k ∨ BlkR R.ks k ∨ ∃ v ∈ R.ws, v.ownBlock = some k
/-- A World in memory; own tells whose each block is. -/
structure Wo (w W : World) (own : Nat → Nat) (p : Nat) (R : WoR) : Prop where
  row : W.heap[R.x]? = some (.cells #[.pointer (some ⟨R.c, 0, none⟩), .pointer (some ⟨R.d, 0, none⟩), R.kv, R.wv] 36 (0, 0))
  ck : Ck W R.c R.m R.s R.t R.span R.l
  dc : Dc W R.d R.sv R.bv R.now R.span R.dl
  kr : W.ownsRow w.heap.size 42 1 R.kv R.ks.length (R.ks.map Rw.v)
  wr : W.ownsRow w.heap.size 42 1 R.wv R.ws.length R.ws
  ko : RowsR W 2 1 R.ks (fun j => (R.xs.getD j []).map (Value.int .i64))
  wo : ∀ j v, R.ws[j]? = some v → OI W 0 v (R.xs.getD j [])
  kn : R.ks.length ≤ 40
  lk : R.ks.length = R.xs.length
  lw : R.ws.length ≤ R.xs.length
  nn : ∀ j (hj : j < R.ks.length), R.ks[j].n = (R.xs.getD j []).length ∧ R.ks[j].n ≤ 1000
  ap : ApartR R.ks
  kw : ∀ g, R.kv.ownBlock = some g → R.wv.ownBlock ≠ some g
  sb : R.bv.ownBlock ≠ some R.s
  o : ∀ k, R.foot k → own k = p
  lo : ∀ k, own k = p → w.heap.size ≤ k
  be : Below w.heap.size w W
/-- New blocks are p's. -/
def upO (own : Nat → Nat) (n p k : Nat) : Nat := if k < n then own k else p

theorem bel_keptS {w wr w' : World} {S : Nat → Prop} (h : Below w.heap.size w wr) (hk : Kept wr w' S) (hlo : ∀ k, S k → w.heap.size ≤ k) : Below w.heap.size w w' := h.trans (hk.below h.size hlo)
theorem kept_of_belowS {w w' : World} {S : Nat → Prop} (h : Below w.heap.size w w') : Kept w w' S := ⟨h.os, h.tape, h.output, h.size, fun k hk _ => h.block k hk⟩
section
variable {w W W' : World} {own : Nat → Nat} {p q : Nat} {R : WoR}
theorem Wo.lt (h : Wo w W own p R) {k : Nat} (hk : R.foot k) : k < W.heap.size := by
  rcases hk with rfl | hk | hk | hk | hk | ⟨j, hj, hk⟩ | ⟨v, hv, hk⟩
  · exact lt_of_block h.row
  · exact h.ck.lt hk
  · exact h.dc.lt hk
  · exact (h.kr.lt k hk).2
  · exact (h.wr.lt k hk).2
  · exact ((h.ko j hj).lt k hk).2
  · obtain ⟨j, hj⟩ := List.getElem?_of_mem hv
    exact ((h.wo j v hj).lt k hk).2
/-- What is not p's may turn. -/
theorem Wo.other (h : Wo w W own q R) (hpq : q ≠ p) (hk : Kept W W' (fun k => own k = p)) (hlo : ∀ k, own k = p → w.heap.size ≤ k) (hq : w.heap.size ≤ W.heap.size) : Wo w W' (upO own W.heap.size p) q R := by
  have hS : ∀ k, R.foot k → ¬ (own k = p) := fun k hf e => hpq ((h.o k hf).symm.trans e)
  refine ⟨hk.heap h.row (hS _ (.inl rfl)), h.ck.kept hk (fun k hf => hS k (.inr (.inl hf))), h.dc.kept hk (fun k hf => hS k (.inr (.inr (.inl hf)))), rowK h.kr hk (fun g e => hS g (.inr (.inr (.inr (.inl e))))), rowK h.wr hk (fun g e => hS g (.inr (.inr (.inr (.inr (.inl e)))))), fun j hj => rowK (h.ko j hj) hk (fun g e => hS g (.inr (.inr (.inr (.inr (.inr (.inl ⟨j, hj, e⟩))))))), fun j v hv => rowK (h.wo j v hv) hk (fun g e => hS g (.inr (.inr (.inr (.inr (.inr (.inr ⟨v, List.mem_of_getElem? hv, e⟩))))))), h.kn, h.lk, h.lw, h.nn, h.ap, h.kw, h.sb, fun k hf => ?_, fun k e => ?_, bel_keptS h.be hk hlo⟩
  · unfold upO
    rw [if_pos (h.lt hf)]
    exact h.o k hf
  · unfold upO at e
    split at e
    · exact h.lo k e
    · omega
/-- Nothing but new memory. -/
theorem Wo.below (h : Wo w W own p R) (hb : Below W.heap.size W W') : Wo w W' (upO own W.heap.size p) p R := by
  have hk : Kept W W' (fun _ => False) := ⟨hb.os, hb.tape, hb.output, hb.size, fun k hk _ => hb.block k hk⟩
  refine ⟨hk.heap h.row id, h.ck.kept hk (fun _ _ => id), h.dc.kept hk (fun _ _ => id), rowK h.kr hk (fun _ _ => id), rowK h.wr hk (fun _ _ => id), fun j hj => rowK (h.ko j hj) hk (fun _ _ => id), fun j v hv => rowK (h.wo j v hv) hk (fun _ _ => id), h.kn, h.lk, h.lw, h.nn, h.ap, h.kw, h.sb, fun k hf => ?_, fun k e => ?_, h.be.trans (hb.mono h.be.size)⟩
  · unfold upO
    rw [if_pos (h.lt hf)]
    exact h.o k hf
  · unfold upO at e
    split at e
    · exact h.lo k e
    · have := h.be.size; omega
theorem Wo.belowO (h : Wo w W own p R) (hb : Below W.heap.size W W') : Wo w W' own p R := by
  have hk : Kept W W' (fun _ => False) := ⟨hb.os, hb.tape, hb.output, hb.size, fun k hk _ => hb.block k hk⟩
  exact ⟨hk.heap h.row id, h.ck.kept hk (fun _ _ => id), h.dc.kept hk (fun _ _ => id), rowK h.kr hk (fun _ _ => id), rowK h.wr hk (fun _ _ => id), fun j hj => rowK (h.ko j hj) hk (fun _ _ => id), fun j v hv => rowK (h.wo j v hv) hk (fun _ _ => id), h.kn, h.lk, h.lw, h.nn, h.ap, h.kw, h.sb, h.o, h.lo, h.be.trans (hb.mono h.be.size)⟩
theorem rowNe {B : Nat} {T : TypeId} {z n : Nat} {v : Value} {xs : List Value} {k : Nat} {cs : Array Value} {E : TypeId} {fr : Nat × Nat} (h : W.ownsRow B T z v n xs) (hb : W.heap[k]? = some (.cells cs E fr)) (hTE : T ≠ E) : v.ownBlock ≠ some k := fun e => by
  obtain ⟨c', e'⟩ := rowT h e
  rw [hb] at e'
  simp at e'
  exact hTE e'.2.1.symm
theorem rowNeM {B : Nat} {T : TypeId} {z n : Nat} {v : Value} {xs : List Value} {k : Nat} {l : List LfT} (h : W.ownsRow B T z v n xs) (hm : Mp W k l) : v.ownBlock ≠ some k := fun e => by
  obtain ⟨c', e'⟩ := rowT h e
  obtain ⟨es, cl, hm, _⟩ := hm
  rw [hm] at e'
  cases e'
/-- The clock's call. -/
theorem Wo.clk (h : Wo w W own p R) {t' : Int} {l' : List LfT} (hc : Ck W' R.c R.m R.s t' R.span l') (hk : Kept W W' (TuC R.c R.m)) : Wo w W' own p { R with t := t', l := l' } := by
  have hx : R.x ≠ R.c ∧ R.x ≠ R.m := ⟨fun e => by
    have := h.row; rw [e, h.ck.hc] at this; simp at this, fun e => by
    obtain ⟨es, cl, hm, _⟩ := h.ck.hm
    have := h.row; rw [e, hm] at this; cases this⟩
  have hd : R.d ≠ R.c ∧ R.d ≠ R.m := ⟨fun e => by
    have := h.dc.row; rw [e, h.ck.hc] at this; simp at this, fun e => by
    obtain ⟨es, cl, hm, _⟩ := h.ck.hm
    have := h.dc.row; rw [e, hm] at this; cases this⟩
  have hrow : ∀ {B : Nat} {T : TypeId} {z n : Nat} {v : Value} {xs : List Value}, W.ownsRow B T z v n xs → T ≠ 48 → ∀ g, v.ownBlock = some g → ¬ TuC R.c R.m g := fun hr hT g e q => by
    rcases q with rfl | rfl
    · exact rowNe hr h.ck.hc hT e
    · exact rowNeM hr h.ck.hm e
  refine ⟨hk.heap h.row (fun q => by rcases q with e | e; exact hx.1 e; exact hx.2 e), hc, h.dc.kept hk (fun k hf q => ?_), rowK h.kr hk (hrow h.kr (by decide)), rowK h.wr hk (hrow h.wr (by decide)), fun j hj => rowK (h.ko j hj) hk (hrow (h.ko j hj) (by decide)), fun j v hv => rowK (h.wo j v hv) hk (hrow (h.wo j v hv) (by decide)), h.kn, h.lk, h.lw, h.nn, h.ap, h.kw, h.sb, h.o, h.lo, bel_keptS h.be hk (fun k q => ?_)⟩
  · rcases hf with rfl | e | e
    · rcases q with e | e; exact hd.1 e; exact hd.2 e
    · exact hrow h.dc.so (by decide) k e q
    · exact hrow h.dc.bo (by decide) k e q
  · refine h.lo k (h.o k (.inr (.inl ?_)))
    rcases q with e | e
    · exact .inl e
    · exact .inr (.inl e)
/-- The document's call. -/
theorem Wo.doc (h : Wo w W own p R) {sv' bv' : Value} {now' : Int} {dl' : List DcT} (hd : Dc W' R.d sv' bv' now' R.span dl') (hk : Kept W W' (FtD R.d R.sv R.bv)) (hn : ∀ k, FtD R.d sv' bv' k → FtD R.d R.sv R.bv k ∨ W.heap.size ≤ k) : Wo w W' (upO own W.heap.size p) p { R with sv := sv', bv := bv', now := now', dl := dl' } := by
  have hlt := fun {k : Nat} (hf : R.foot k) => h.lt hf
  have hx : ¬ FtD R.d R.sv R.bv R.x := fun q => by
    rcases q with e | e | e
    · have := h.row; rw [e, h.dc.row] at this; simp at this
    · exact rowNe h.dc.so h.row (by decide) e
    · exact rowNe h.dc.bo h.row (by decide) e
  have hcc : ∀ k, FtC R.c R.m R.s k → ¬ FtD R.d R.sv R.bv k := fun k hf q => by
    rcases hf with rfl | rfl | rfl
    · rcases q with e | e | e
      · have := h.dc.row; rw [← e, h.ck.hc] at this; simp at this
      · exact rowNe h.dc.so h.ck.hc (by decide) e
      · exact rowNe h.dc.bo h.ck.hc (by decide) e
    · rcases q with e | e | e
      · obtain ⟨es, cl, hm, _⟩ := h.ck.hm
        have := h.dc.row; rw [← e, hm] at this; cases this
      · exact rowNeM h.dc.so h.ck.hm e
      · exact rowNeM h.dc.bo h.ck.hm e
    · rcases q with e | e | e
      · have := h.dc.row; rw [← e, h.ck.hs] at this; simp at this
      · exact rowNe h.dc.so h.ck.hs (by decide) e
      · exact h.sb e
  have hrow : ∀ {B : Nat} {T : TypeId} {z n : Nat} {v : Value} {xs : List Value}, W.ownsRow B T z v n xs → T ≠ 52 → T ≠ 93 → T ≠ 3 → ∀ g, v.ownBlock = some g → ¬ FtD R.d R.sv R.bv g := fun hr h1 h2 h3 g e q => by
    rcases q with rfl | e2 | e2
    · exact rowNe hr h.dc.row h1 e
    · obtain ⟨c', e'⟩ := rowT h.dc.so e2
      exact rowNe hr e' h2 e
    · obtain ⟨c', e'⟩ := rowT h.dc.bo e2
      exact rowNe hr e' h3 e
  have hnew : ∀ k, FtD R.d sv' bv' k → upO own W.heap.size p k = p := fun k hf => by
    unfold upO
    rcases hn k hf with e | e
    · split
      · exact h.o k (.inr (.inr (.inl e)))
      · rfl
    · rw [if_neg (by omega)]
  have hold : ∀ k, R.foot k → upO own W.heap.size p k = p := fun k hf => by
    unfold upO
    rw [if_pos (hlt hf)]
    exact h.o k hf
  refine ⟨hk.heap h.row hx, h.ck.kept hk hcc, hd, rowK h.kr hk (hrow h.kr (by decide) (by decide) (by decide)), rowK h.wr hk (hrow h.wr (by decide) (by decide) (by decide)), fun j hj => rowK (h.ko j hj) hk (hrow (h.ko j hj) (by decide) (by decide) (by decide)), fun j v hv => rowK (h.wo j v hv) hk (hrow (h.wo j v hv) (by decide) (by decide) (by decide)), h.kn, h.lk, h.lw, h.nn, h.ap, h.kw, fun e => ?_, fun k hf => ?_, fun k e => ?_, bel_keptS h.be hk (fun k q => h.lo k (h.o k (.inr (.inr (.inl q)))))⟩
  · rcases hn R.s (.inr (.inr e)) with q | q
    · exact hcc R.s (.inr (.inr rfl)) q
    · have := h.ck.lt (.inr (.inr rfl)); omega
  · rcases hf with e | e | e | e
    · exact hold k (.inl e)
    · exact hold k (.inr (.inl e))
    · exact hnew k e
    · exact hold k (.inr (.inr (.inr e)))
  · unfold upO at e
    split at e
    · exact h.lo k e
    · have := h.be.size; omega
end

end Go.Proofs.YtmniefmjdfdedaaGreatDoor
