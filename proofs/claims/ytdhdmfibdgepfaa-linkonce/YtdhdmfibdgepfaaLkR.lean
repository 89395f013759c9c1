/- LinkArrives: the calls that were sent, in memory; what every message under way comes of. -/
import Derived.Test.YtdhdmfibdgepfaaLkQ
namespace Go.Proofs.Ytdhdmfibdgepfaa
open Go.RowKit
set_option maxRecDepth 8000
set_option linter.unusedSimpArgs false
set_option linter.unusedVariables false

def opF : List OpT → List Value
  | [] => []
  | o :: r => .int .i64 o.kd :: .int .i64 o.on :: .int .i8 o.f :: .int .i8 o.t :: .slice o.ba o.bs.length o.bc :: .int .i64 o.pl :: .int .i64 o.k :: .int .u8 o.x :: opF r
theorem opF_len : ∀ l : List OpT, (opF l).length = l.length * 8
  | [] => rfl
  | x :: r => by simp [opF, opF_len r]; omega
theorem opF_app : ∀ (l m : List OpT), opF (l ++ m) = opF l ++ opF m
  | [], _ => rfl
  | x :: r, m => by simp [opF, opF_app r m]
theorem opF_at : ∀ (l : List OpT) (i : Nat) (x : OpT), l[i]? = some x → (opF l)[i * 8 + 2]? = some (.int .i8 x.f) ∧ (opF l)[i * 8 + 3]? = some (.int .i8 x.t) ∧ (opF l)[i * 8 + 4]? = some (.slice x.ba x.bs.length x.bc)
  | y :: r, 0, x, h => by simp at h; subst h; exact ⟨rfl, rfl, rfl⟩
  | y :: r, i + 1, x, h => by
    have := opF_at r i x (by simpa using h)
    rw [show (i + 1) * 8 + 2 = i * 8 + 2 + 8 by omega, show (i + 1) * 8 + 3 = i * 8 + 3 + 8 by omega, show (i + 1) * 8 + 4 = i * 8 + 4 + 8 by omega]
    exact this
theorem opF_cell : ∀ (l : List OpT), ∀ u ∈ opF l, u.oneCell' = true
  | [], u, h => by simp [opF] at h
  | x :: r, u, h => by
    simp only [opF, List.mem_cons] at h
    rcases h with rfl | rfl | rfl | rfl | rfl | rfl | rfl | rfl | h
    all_goals first | rfl | exact opF_cell r u h

theorem Try.infoOp : (Try.prog.info? 32).map (fun i => (i.zero, i.size, i.bytes)) = some (some (.agg #[.int .i64 0, .int .i64 0, .int .i8 0, .int .i8 0, .slice none 0 0, .int .i64 0, .int .i64 0, .int .u8 0]), 8, 72) := by kernel_rfl

/-- One more call behind a list of one's own. -/
theorem app_op {w : World} {base m : Nat} {v : Value} {l : List OpT} {x : OpT} (ho : w.ownsRow base 32 8 v l.length (opF l)) (hm : w.heap[m]? = some (.cells (opF [x]).toArray 32 (0, 0))) (hl : l.length ≤ 2000000000) (hb : base ≤ w.heap.size) :
    ∃ v' w', (∀ ty, (Builtin.append_ #[22, 22] ty #[v, .slice (some ⟨m, 0, none⟩) 1 1]).run Try.prog w = .ok v' w') ∧ w'.ownsRow base 32 8 v' (l ++ [x]).length (opF (l ++ [x])) ∧ Kept w w' (fun k => v.ownBlock = some k) := by
  obtain ⟨i, hi, hz, hs, hby⟩ := infoXl Try.infoOp
  obtain ⟨v', w', h1, h2, h3, h4⟩ := app_row (P := Try.prog) base 22 22 32 i _ 8 72 Try.underlying22 hi hz hs hby rfl (by decide) v l.length (opF l) ho m (opF [x]) rfl hm (opF_cell [x]) hl (by decide) hb
  refine ⟨v', w', fun ty => h1, ?_, ⟨h3.os, h3.tape, h3.output, h3.size, fun k hk hn => h3.block k hk (fun e => hn e.symm)⟩⟩
  rw [List.length_append, opF_app]
  exact h2

/-- Does a message come of a call? -/
def kn (m : MsD) (o : OpT) : Bool := decide (o.f = m.f) && decide (o.t = m.t) && nearB o.bs m.bs m.sp
theorem kn_new (o : OpT) (R : Nat) : kn ⟨o.f, o.t, o.bs, false, R, 0, o.bs.length⟩ o = true := by
  simp [kn, nearB, dif_self]
theorem kn_copy (m : MsD) (o : OpT) (R c : Nat) : kn { m with g := R, off := 0, c := c } o = kn m o := rfl
theorem kn_spoil {m : MsD} {o : OpT} (h : kn m o = true) (hs : m.sp = false) (k : Nat) (x : Int) (hk : k < m.bs.length) (hy : Byts m.bs) (h0 : 0 < x) (h1 : x ≤ 255) : kn (spM m k x) o = true := by
  simp only [kn, nearB, hs, Bool.and_eq_true, decide_eq_true_eq, Bool.or_eq_true, Bool.not_false, Bool.and_false, Bool.and_true, Bool.false_eq_true, or_false] at h
  obtain ⟨⟨e1, e2⟩, e3, e4⟩ := h
  have e5 := dif_zero _ _ e3 e4
  have hby : 0 ≤ m.bs.getD k 0 ∧ m.bs.getD k 0 ≤ 255 := by
    rw [List.getD_eq_getElem?_getD, List.getElem?_eq_getElem hk]
    exact hy _ (List.getElem_mem hk)
  have hd := dif_set m.bs k _ hk (xor_turnsL _ x hby.1 hby.2 h0 h1)
  simp only [kn, nearB, spM, e1, e2, e5, hd]
  simp

/-- How far LinkArrives has come. -/
structure ArI (w0 wr : World) (b : Nat) (n : Int) (sv : Value) (sl sk : List OpT) (u : Nat) : Prop where
  bel : Below w0.heap.size w0 wr
  net : ∃ v ms, Nt wr b n v ms ∧ ms.length = u ∧ (∀ m ∈ ms, ∃ o ∈ sk, kn m o = true) ∧ (∀ k, Fn b v ms k → w0.heap.size ≤ k)
  sent : wr.ownsRow w0.heap.size 32 8 sv sl.length (opF sl)
  good : ∀ o ∈ sk, GoodT w0 o

theorem op_ne {w : World} {base : Nat} {sv : Value} {sl : List OpT} (h : w.ownsRow base 32 8 sv sl.length (opF sl)) {b : Nat} {n : Int} {v : Value} {ms : List MsD} (g : Nt w b n v ms) : ∀ k, Fn b v ms k → sv.ownBlock ≠ some k := fun k hk e => by
  obtain ⟨cs, e1⟩ := rowTl h e
  rcases hk with rfl | hk | ⟨m, hm, rfl⟩
  · rw [g.hb] at e1; simp at e1
  · obtain ⟨cs', e2⟩ := rowTl g.ho hk; rw [e1] at e2; simp at e2
  · obtain ⟨cs', e2⟩ := rowTl (g.hm m hm).ow rfl; rw [e1] at e2; simp at e2

theorem ArI.below {w0 wr w' : World} {b u : Nat} {n : Int} {sv : Value} {sl sk : List OpT} (h : ArI w0 wr b n sv sl sk u) (hB : Below wr.heap.size wr w') : ArI w0 w' b n sv sl sk u := by
  obtain ⟨v, ms, h1, h2, h3, h4⟩ := h.net
  exact ⟨h.bel.trans (hB.mono h.bel.size), ⟨v, ms, h1.below hB, h2, h3, h4⟩, rowKl h.sent (Below.kept hB) (fun g hg => by have := (h.sent.lt g hg).2; omega), h.good⟩
/-- A call that turned the net. -/
theorem ArI.net' {w0 wr w' : World} {b u u' : Nat} {n : Int} {sv v v' : Value} {sl sk sk' : List OpT} {ms ms' : List MsD} (h : ArI w0 wr b n sv sl sk u) (g : Nt wr b n v ms) (hf : ∀ k, Fn b v ms k → w0.heap.size ≤ k) (g' : Nt w' b n v' ms') (hk : Kept wr w' (fun k => Fn b v ms k)) (hu : ms'.length = u') (hkn : ∀ m ∈ ms', ∃ o ∈ sk', kn m o = true) (hf' : ∀ k, Fn b v' ms' k → w0.heap.size ≤ k) (hg : ∀ o ∈ sk', GoodT w0 o) : ArI w0 w' b n sv sl sk' u' :=
  ⟨h.bel.trans (hk.below h.bel.size hf), ⟨v', ms', g', hu, hkn, hf'⟩, rowKl h.sent hk (fun k e hn => op_ne h.sent g k hn e), hg⟩
/-- The call that is kept. -/
theorem ArI.app {w0 wr w' : World} {b u : Nat} {n : Int} {sv sv' : Value} {sl sl' sk : List OpT} (h : ArI w0 wr b n sv sl sk u) (hk : Kept wr w' (fun k => sv.ownBlock = some k)) (hs : w'.ownsRow w0.heap.size 32 8 sv' sl'.length (opF sl')) : ArI w0 w' b n sv' sl' sk u := by
  obtain ⟨v, ms, h1, h2, h3, h4⟩ := h.net
  exact ⟨h.bel.trans (hk.below h.bel.size (fun k e => (h.sent.lt k e).1)), ⟨v, ms, h1.kept hk (fun k hf e => op_ne h.sent h1 k hf e), h2, h3, h4⟩, hs, h.good⟩
end Go.Proofs.Ytdhdmfibdgepfaa
