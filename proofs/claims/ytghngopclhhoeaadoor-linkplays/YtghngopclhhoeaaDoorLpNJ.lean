/- A World of LinkPlays in memory: a net, the document's, what was kept and what was wanted; whose each block is. -/
import Derived.Test.YtghngopclhhoeaaDoorLpFJ
import Derived.Test.YtghngopclhhoeaaDoorLpMJ
namespace Go.Proofs.YtghngopclhhoeaaDoor
open Go.RowKit
set_option maxRecDepth 8000
set_option linter.unusedSimpArgs false
set_option linter.unusedVariables false

/-- Where a World lies, and what it holds. -/
structure PlR where
  x : Nat
  N : Nat
  d : Nat
  n : Int
  v : Value
  V : Value
  kv : Value
  wv : Value
  l : List MsD
  L : List MsG
  K : List MsG
  T : List MsG

/-- A World in memory. own tells whose each block is: 10 p + 0 the World's, 1 the net's, 2 the document's net and row, 3 the row that was kept, 4 its bytes, 5 the row that was wanted, 6 the document's bytes, 7 what is in hand. -/
structure Pq (W : World) (own : Nat → Nat) (p : Nat) (R : PlR) : Prop where
  row : W.heap[R.x]? = some (.cells #[.pointer (some ⟨R.N, 0, none⟩), .pointer (some ⟨R.d, 0, none⟩), R.kv, R.wv] 37 (0, 0))
  nt : Nt W R.N R.n R.v R.l
  dn : Dn W R.d R.n 0 R.V R.L
  ko : OwG W 0 R.kv R.K
  wo : OwG W 0 R.wv R.T
  kd : ∀ (i j : Nat) (a b : MsG), R.K[i]? = some a → R.K[j]? = some b → i ≠ j → ∀ g, a.v.ownBlock = some g → b.v.ownBlock ≠ some g
  kh : ∀ m ∈ R.K, m.bs.length ≤ 8192
  ox : own R.x = 10 * p
  on : ∀ k, Fn R.N R.v R.l k → own k = 10 * p + 1
  od : ∀ k, k = R.d ∨ R.V.ownBlock = some k → own k = 10 * p + 2
  om : ∀ m ∈ R.L, ∀ k, m.v.ownBlock = some k → own k = 10 * p + 6
  okr : ∀ k, R.kv.ownBlock = some k → own k = 10 * p + 3
  okb : ∀ m ∈ R.K, ∀ k, m.v.ownBlock = some k → own k = 10 * p + 4
  owr : ∀ k, R.wv.ownBlock = some k → own k = 10 * p + 5
  owb : ∀ m ∈ R.T, ∀ k, m.v.ownBlock = some k → own k = 10 * p + 6

theorem OwG.kept {w w' : World} {S : Nat → Prop} {base : Nat} {v : Value} {l : List MsG} (h : OwG w base v l) (hk : Kept w w' S) (hr : ∀ g, v.ownBlock = some g → ¬ S g) (hb : ∀ m ∈ l, ∀ g, m.v.ownBlock = some g → ¬ S g) : OwG w' base v l :=
  ⟨rowKl h.row hk hr, fun m hm => Owns.kept (h.own m hm) hk (hb m hm)⟩
theorem OwG.lt {w : World} {base : Nat} {v : Value} {l : List MsG} (h : OwG w base v l) : (∀ k, v.ownBlock = some k → k < w.heap.size) ∧ ∀ m ∈ l, ∀ k, m.v.ownBlock = some k → k < w.heap.size :=
  ⟨fun k e => (h.row.lt k e).2, fun m hm k e => ((h.own m hm).lt k e).2⟩

section
variable {W W1 : World} {own own1 : Nat → Nat} {p : Nat} {R : PlR}

/-- What lies in the blocks of the classes c may turn, where nothing of the World's is of them. -/
theorem Pq.keep {S : Nat → Prop} (h : Pq W own p R) (hk : Kept W W1 S) (hS : ∀ k, k < W.heap.size → S k → own k / 10 ≠ p ∨ own k = 10 * p + 7) (ha : ∀ k, k < W.heap.size → own k / 10 = p → own1 k = own k) : Pq W1 own1 p R := by
  have n0 : ∀ k c, k < W.heap.size → own k = 10 * p + c → c < 7 → ¬ S k := fun k c hl e hc hs => by
    rcases hS k hl hs with h1 | h1 <;> omega
  have a0 : ∀ k c, k < W.heap.size → own k = 10 * p + c → c < 7 → own1 k = 10 * p + c := fun k c hl e hc => by rw [ha k hl (by omega)]; exact e
  have lx := lt_of_block h.row
  refine ⟨hk.heap h.row (n0 _ 0 lx h.ox (by omega)), h.nt.kept hk (fun k hf => n0 k 1 (h.nt.lt hf) (h.on k hf) (by omega)), h.dn.kept hk (fun k hf => ?_), h.ko.kept hk (fun k e => n0 k 3 (h.ko.lt.1 k e) (h.okr k e) (by omega)) (fun m hm k e => n0 k 4 (h.ko.lt.2 m hm k e) (h.okb m hm k e) (by omega)), h.wo.kept hk (fun k e => n0 k 5 (h.wo.lt.1 k e) (h.owr k e) (by omega)) (fun m hm k e => n0 k 6 (h.wo.lt.2 m hm k e) (h.owb m hm k e) (by omega)), h.kd, h.kh, a0 _ 0 lx h.ox (by omega), fun k hf => a0 k 1 (h.nt.lt hf) (h.on k hf) (by omega), fun k e => ?_, fun m hm k e => a0 k 6 (h.dn.ow.lt.2 m hm k e) (h.om m hm k e) (by omega), fun k e => a0 k 3 (h.ko.lt.1 k e) (h.okr k e) (by omega), fun m hm k e => a0 k 4 (h.ko.lt.2 m hm k e) (h.okb m hm k e) (by omega), fun k e => a0 k 5 (h.wo.lt.1 k e) (h.owr k e) (by omega), fun m hm k e => a0 k 6 (h.wo.lt.2 m hm k e) (h.owb m hm k e) (by omega)⟩
  · rcases hf with rfl | e | ⟨m, hm, e⟩
    · exact n0 _ 2 (lt_of_block h.dn.hb) (h.od _ (.inl rfl)) (by omega)
    · exact n0 k 2 (h.dn.ow.lt.1 k e) (h.od k (.inr e)) (by omega)
    · exact n0 k 6 (h.dn.ow.lt.2 m hm k e) (h.om m hm k e) (by omega)
  · refine a0 k 2 ?_ (h.od k e) (by omega)
    rcases e with rfl | e
    · exact lt_of_block h.dn.hb
    · exact h.dn.ow.lt.1 k e

theorem Pq.new (h : Pq W own p R) (hk : Kept W W1 (fun _ => False)) : Pq W1 own p R := h.keep hk (fun _ _ e => e.elim) (fun _ _ _ => rfl)

/-- New blocks are of the class c. -/
def upQ (own : Nat → Nat) (n c k : Nat) : Nat := if k < n then own k else c
theorem upQ_old {own : Nat → Nat} {n c k : Nat} (h : k < n) : upQ own n c k = own k := by unfold upQ; rw [if_pos h]
theorem upQ_new {own : Nat → Nat} {n c k : Nat} (h : n ≤ k) : upQ own n c k = c := by unfold upQ; rw [if_neg (by omega)]

/-- A call at the program's net. -/
theorem Pq.net {v' : Value} {l' : List MsD} (h : Pq W own p R) (hn : Nt W1 R.N R.n v' l') (hk : Kept W W1 (fun k => Fn R.N R.v R.l k)) (hf : ∀ k, Fn R.N v' l' k → Fn R.N R.v R.l k ∨ W.heap.size ≤ k) : Pq W1 (upQ own W.heap.size (10 * p + 1)) p { R with v := v', l := l' } := by
  have n0 : ∀ k c, own k = 10 * p + c → c ≠ 1 → c < 9 → ¬ Fn R.N R.v R.l k := fun k c e hc hc9 hs => by have := h.on k hs; omega
  have a0 : ∀ k c, k < W.heap.size → own k = c → upQ own W.heap.size (10 * p + 1) k = c := fun k c hl e => by rw [upQ_old hl]; exact e
  have lx := lt_of_block h.row
  refine ⟨hk.heap h.row (n0 _ 0 h.ox (by omega) (by omega)), hn, h.dn.kept hk (fun k hf => ?_), h.ko.kept hk (fun k e => n0 k 3 (h.okr k e) (by omega) (by omega)) (fun m hm k e => n0 k 4 (h.okb m hm k e) (by omega) (by omega)), h.wo.kept hk (fun k e => n0 k 5 (h.owr k e) (by omega) (by omega)) (fun m hm k e => n0 k 6 (h.owb m hm k e) (by omega) (by omega)), h.kd, h.kh, a0 _ _ lx h.ox, fun k hf' => ?_, fun k e => ?_, fun m hm k e => a0 k _ (h.dn.ow.lt.2 m hm k e) (h.om m hm k e), fun k e => a0 k _ (h.ko.lt.1 k e) (h.okr k e), fun m hm k e => a0 k _ (h.ko.lt.2 m hm k e) (h.okb m hm k e), fun k e => a0 k _ (h.wo.lt.1 k e) (h.owr k e), fun m hm k e => a0 k _ (h.wo.lt.2 m hm k e) (h.owb m hm k e)⟩
  · rcases hf with rfl | e | ⟨m, hm, e⟩
    · exact n0 _ 2 (h.od _ (.inl rfl)) (by omega) (by omega)
    · exact n0 k 2 (h.od k (.inr e)) (by omega) (by omega)
    · exact n0 k 6 (h.om m hm k e) (by omega) (by omega)
  · rcases hf k hf' with e | e
    · exact a0 k _ (h.nt.lt e) (h.on k e)
    · exact upQ_new e
  · refine a0 k _ ?_ (h.od k e)
    rcases e with rfl | e
    · exact lt_of_block h.dn.hb
    · exact h.dn.ow.lt.1 k e

/-- New blocks behind a call at the document's net: its row, and its bytes. -/
noncomputable def upD (own : Nat → Nat) (n p : Nat) (V : Value) (k : Nat) : Nat := if k < n then own k else if V.ownBlock = some k then 10 * p + 2 else 10 * p + 6

/-- A call at the document's net. -/
theorem Pq.doc {V' : Value} {L' : List MsG} (h : Pq W own p R) (hd : Dn W1 R.d R.n 0 V' L') (hk : Kept W W1 (fun k => k = R.d ∨ R.V.ownBlock = some k)) (hV : ∀ k, V'.ownBlock = some k → R.V.ownBlock = some k ∨ W.heap.size ≤ k) (hL : ∀ m ∈ L', ∀ k, m.v.ownBlock = some k → (k < W.heap.size ∧ own k = 10 * p + 6) ∨ W.heap.size ≤ k) : Pq W1 (upD own W.heap.size p V') p { R with V := V', L := L' } := by
  have n0 : ∀ k c, own k = 10 * p + c → c ≠ 2 → c < 9 → ¬ (k = R.d ∨ R.V.ownBlock = some k) := fun k c e hc hc9 hs => by have := h.od k hs; omega
  have a0 : ∀ k c, k < W.heap.size → own k = c → upD own W.heap.size p V' k = c := fun k c hl e => by unfold upD; rw [if_pos hl]; exact e
  have lx := lt_of_block h.row
  refine ⟨hk.heap h.row (n0 _ 0 h.ox (by omega) (by omega)), h.nt.kept hk (fun k hf => n0 k 1 (h.on k hf) (by omega) (by omega)), hd, h.ko.kept hk (fun k e => n0 k 3 (h.okr k e) (by omega) (by omega)) (fun m hm k e => n0 k 4 (h.okb m hm k e) (by omega) (by omega)), h.wo.kept hk (fun k e => n0 k 5 (h.owr k e) (by omega) (by omega)) (fun m hm k e => n0 k 6 (h.owb m hm k e) (by omega) (by omega)), h.kd, h.kh, a0 _ _ lx h.ox, fun k hf => a0 k _ (h.nt.lt hf) (h.on k hf), fun k e => ?_, fun m hm k e => ?_, fun k e => a0 k _ (h.ko.lt.1 k e) (h.okr k e), fun m hm k e => a0 k _ (h.ko.lt.2 m hm k e) (h.okb m hm k e), fun k e => a0 k _ (h.wo.lt.1 k e) (h.owr k e), fun m hm k e => a0 k _ (h.wo.lt.2 m hm k e) (h.owb m hm k e)⟩
  · rcases e with rfl | e
    · exact a0 _ _ (lt_of_block h.dn.hb) (h.od _ (.inl rfl))
    · rcases hV k e with e' | e'
      · exact a0 k _ (h.dn.ow.lt.1 k e') (h.od k (.inr e'))
      · unfold upD
        rw [if_neg (by omega), if_pos e]
  · rcases hL m hm k e with ⟨e1, e2⟩ | e1
    · exact a0 k _ e1 e2
    · unfold upD
      rw [if_neg (by omega), if_neg (hd.ow.ne hm e)]

/-- Two stages of one step. -/
structure Stp (W W' : World) (own own' : Nat → Nat) (p : Nat) : Prop where
  kept : Kept W W' (fun k => own k / 10 = p)
  old : ∀ k, k < W.heap.size → own k / 10 ≠ p → own' k = own k
theorem Stp.refl (W : World) (own : Nat → Nat) (p : Nat) : Stp W W own own p := ⟨Kept.refl _ _, fun _ _ _ => rfl⟩
theorem Stp.lo {W W' : World} {own own' : Nat → Nat} {p : Nat} (h : Stp W W' own own' p) : ∀ k, k < W.heap.size → own' k / 10 = p → own k / 10 = p := fun k hk e => by
  by_cases hp : own k / 10 = p
  · exact hp
  · rw [h.old k hk hp] at e; exact absurd e hp
theorem Stp.trans {W W1 W2 : World} {own own1 own2 : Nat → Nat} {p : Nat} (h : Stp W W1 own own1 p) (g : Stp W1 W2 own1 own2 p) : Stp W W2 own own2 p :=
  ⟨h.kept.trans g.kept (fun k hk e => h.lo k hk e), fun k hk hp => by rw [g.old k (Nat.lt_of_lt_of_le hk h.kept.size) (fun e => hp (h.lo k hk e)), h.old k hk hp]⟩
theorem Stp.new {W W' : World} {own : Nat → Nat} {p : Nat} (hk : Kept W W' (fun _ => False)) : Stp W W' own own p := ⟨hk.mono (fun _ _ e => e.elim), fun _ _ _ => rfl⟩
theorem Stp.up {W W' : World} {own : Nat → Nat} {p c : Nat} {S : Nat → Prop} (hk : Kept W W' S) (hS : ∀ k, k < W.heap.size → S k → own k / 10 = p) : Stp W W' own (upQ own W.heap.size c) p := ⟨hk.mono hS, fun k hl _ => upQ_old hl⟩
theorem Stp.upD {W W' : World} {own : Nat → Nat} {p : Nat} {V : Value} {S : Nat → Prop} (hk : Kept W W' S) (hS : ∀ k, k < W.heap.size → S k → own k / 10 = p) : Stp W W' own (upD own W.heap.size p V) p := ⟨hk.mono hS, fun k hl _ => by unfold Go.Proofs.YtghngopclhhoeaaDoor.upD; rw [if_pos hl]⟩

theorem Pq.on10 (h : Pq W own p R) {k : Nat} (hf : Fn R.N R.v R.l k) : own k / 10 = p := by have := h.on k hf; omega
theorem Pq.od10 (h : Pq W own p R) {k : Nat} (hf : k = R.d ∨ R.V.ownBlock = some k) : own k / 10 = p := by have := h.od k hf; omega
end
end Go.Proofs.YtghngopclhhoeaaDoor
