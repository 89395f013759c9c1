/- LinkOnce: the texts that are left, in memory; what lies under way is they. -/
import Derived.Test.YtdhdmfibdgepfaaLkS
import Derived.Test.YtdhdmfibdgepfaaLkV
namespace Go.Proofs.Ytdhdmfibdgepfaa
open Go.RowKit
set_option maxRecDepth 8000
set_option linter.unusedSimpArgs false
set_option linter.unusedVariables false

theorem Try.infoBb : (Try.prog.info? 30).map (fun i => (i.zero, i.size, i.bytes)) = some (some (.slice none 0 0), 1, 24) := by kernel_rfl
/-- One more text behind a list of one's own. -/
theorem app_bb {w : World} {base m : Nat} {v : Value} {l : List BbT} {x : BbT} (ho : w.ownsRow base 30 1 v l.length (l.map BbT.v)) (hm : w.heap[m]? = some (.cells #[.slice x.ba x.bs.length x.bc] 30 (0, 0))) (hl : l.length ≤ 2000000000) (hb : base ≤ w.heap.size) :
    ∃ v' w', (∀ ty, (Builtin.append_ #[44, 44] ty #[v, .slice (some ⟨m, 0, none⟩) 1 1]).run Try.prog w = .ok v' w') ∧ w'.ownsRow base 30 1 v' (l ++ [x]).length ((l ++ [x]).map BbT.v) ∧ Kept w w' (fun k => v.ownBlock = some k) := by
  obtain ⟨i, hi, hz, hs, hby⟩ := infoXl Try.infoBb
  obtain ⟨v', w', h1, h2, h3, h4⟩ := app_row (P := Try.prog) base 44 44 30 i _ 1 24 Try.underlying44 hi hz hs hby rfl (by decide) v l.length (l.map BbT.v) ho m [.slice x.ba x.bs.length x.bc] rfl hm (fun u hu => by simp at hu; subst hu; rfl) hl (by decide) hb
  refine ⟨v', w', fun ty => h1, ?_, ⟨h3.os, h3.tape, h3.output, h3.size, fun k hk hn => h3.block k hk (fun e => hn e.symm)⟩⟩
  rw [List.length_append, List.map_append]
  exact h2

/-- A message and the text that it is. -/
def isT (m : MsD) (o : BbT) : Prop := m.bs = o.bs ∧ m.sp = false
def AreT : List MsD → List BbT → Prop
  | [], [] => True
  | m :: ms, o :: l => isT m o ∧ AreT ms l
  | _, _ => False
theorem AreT.len : ∀ {ms : List MsD} {l : List BbT}, AreT ms l → ms.length = l.length
  | [], [], _ => rfl
  | m :: ms, o :: l, h => by simp [AreT.len h.2]
theorem AreT.app : ∀ {ms : List MsD} {l : List BbT} {m : MsD} {o : BbT}, AreT ms l → isT m o → AreT (ms ++ [m]) (l ++ [o])
  | [], [], _, _, _, h => ⟨h, trivial⟩
  | a :: ms, b :: l, _, _, h, g => ⟨h.1, AreT.app h.2 g⟩
theorem AreT.split : ∀ {ms : List MsD} {A : List BbT} {x : BbT} {B : List BbT}, AreT ms (A ++ x :: B) → ∃ A' x' B', ms = A' ++ x' :: B' ∧ A'.length = A.length ∧ isT x' x ∧ AreT (A' ++ B') (A ++ B)
  | m :: ms, [], x, B, h => ⟨[], m, ms, rfl, rfl, h.1, h.2⟩
  | m :: ms, a :: A, x, B, h => by
    obtain ⟨A', x', B', e, h1, h2, h3⟩ := AreT.split h.2
    exact ⟨m :: A', x', B', by rw [e]; rfl, by simp [h1], h2, h.1, h3⟩
  | [], [], _, _, h => by cases h
  | [], a :: A, _, _, h => by cases h

/-- How far LinkOnce has come: the net holds the texts l, the list lv the same. -/
structure OnI (w0 wr : World) (b : Nat) (lv : Value) (lr ln : List BbT) : Prop where
  bel : Below w0.heap.size w0 wr
  net : ∃ v ms, Nt wr b 3 v ms ∧ AreT ms ln ∧ (∀ k, Fn b v ms k → w0.heap.size ≤ k)
  row : wr.ownsRow w0.heap.size 30 1 lv lr.length (lr.map BbT.v)

theorem bb_ne {w : World} {base : Nat} {sv : Value} {sl : List BbT} (h : w.ownsRow base 30 1 sv sl.length (sl.map BbT.v)) {b : Nat} {n : Int} {v : Value} {ms : List MsD} (g : Nt w b n v ms) : ∀ k, Fn b v ms k → sv.ownBlock ≠ some k := fun k hk e => by
  obtain ⟨cs, e1⟩ := rowTl h e
  rcases hk with rfl | hk | ⟨m, hm, rfl⟩
  · rw [g.hb] at e1; simp at e1
  · obtain ⟨cs', e2⟩ := rowTl g.ho hk; rw [e1] at e2; simp at e2
  · obtain ⟨cs', e2⟩ := rowTl (g.hm m hm).ow rfl; rw [e1] at e2; simp at e2
theorem OnI.below {w0 wr w' : World} {b : Nat} {lv : Value} {lr ln : List BbT} (h : OnI w0 wr b lv lr ln) (hB : Below wr.heap.size wr w') : OnI w0 w' b lv lr ln := by
  obtain ⟨v, ms, h1, h2, h4⟩ := h.net
  exact ⟨h.bel.trans (hB.mono h.bel.size), ⟨v, ms, h1.below hB, h2, h4⟩, rowKl h.row (Below.kept hB) (fun g hg => by have := (h.row.lt g hg).2; omega)⟩
theorem OnI.send {w0 wr w' : World} {b R c : Nat} {f t : Int} {lv v v' : Value} {l : List BbT} {ms : List MsD} {o : BbT} (h : OnI w0 wr b lv l l) (g : Nt wr b 3 v ms) (ha : AreT ms l) (hf : ∀ k, Fn b v ms k → w0.heap.size ≤ k) (g' : Nt w' b 3 v' (ms ++ [⟨f, t, o.bs, false, R, 0, c⟩])) (hk : Kept wr w' (fun k => k = b ∨ v.ownBlock = some k)) (hn : NewRow wr v v') (hR : wr.heap.size ≤ R) : OnI w0 w' b lv l (l ++ [o]) := by
  have hw := h.bel.size
  refine ⟨h.bel.trans (hk.below h.bel.size (fun k e => hf k (e.elim .inl (fun e => .inr (.inl e))))), ⟨v', _, g', ha.app ⟨rfl, rfl⟩, ?_⟩, rowKl h.row hk (fun k e hn => bb_ne h.row g k (hn.elim .inl (fun e => .inr (.inl e))) e)⟩
  intro k hk
  rcases hk with rfl | hk | ⟨m, hm, rfl⟩
  · exact hf _ (.inl rfl)
  · rcases hn with e | ⟨k', e, h3⟩
    · rw [e] at hk; exact hf _ (.inr (.inl hk))
    · rw [e] at hk; simp at hk; omega
  · rcases List.mem_append.1 hm with hm | hm
    · exact hf _ (.inr (.inr ⟨m, hm, rfl⟩))
    · simp at hm; subst hm; show w0.heap.size ≤ R; omega
theorem OnI.app {w0 wr w' : World} {b : Nat} {lv lv' : Value} {lr lr' ln : List BbT} (h : OnI w0 wr b lv lr ln) (hk : Kept wr w' (fun k => lv.ownBlock = some k)) (hs : w'.ownsRow w0.heap.size 30 1 lv' lr'.length (lr'.map BbT.v)) : OnI w0 w' b lv' lr' ln := by
  obtain ⟨v, ms, h1, h2, h4⟩ := h.net
  exact ⟨h.bel.trans (hk.below h.bel.size (fun k e => (h.row.lt k e).1)), ⟨v, ms, h1.kept hk (fun k hf e => bb_ne h.row h1 k hf e), h2, h4⟩, hs⟩
theorem OnI.take {w0 wr w' : World} {b : Nat} {lv v v' : Value} {l ln' : List BbT} {A B : List MsD} {x : MsD} (h : OnI w0 wr b lv l l) (g : Nt wr b 3 v (A ++ x :: B)) (hf : ∀ k, Fn b v (A ++ x :: B) k → w0.heap.size ≤ k) (ha : AreT (A ++ B) ln') (g' : Nt w' b 3 v' (A ++ B)) (hk : Kept wr w' (fun k => k = b ∨ v.ownBlock = some k)) (hv : v'.ownBlock = v.ownBlock) : OnI w0 w' b lv l ln' := by
  have hsub : ∀ m ∈ A ++ B, m ∈ A ++ x :: B := fun m hm => by
    rcases List.mem_append.1 hm with hm | hm
    · exact List.mem_append_left _ hm
    · exact List.mem_append_right _ (List.mem_cons_of_mem _ hm)
  refine ⟨h.bel.trans (hk.below h.bel.size (fun k e => hf k (e.elim .inl (fun e => .inr (.inl e))))), ⟨v', _, g', ha, ?_⟩, rowKl h.row hk (fun k e hn => bb_ne h.row g k (hn.elim .inl (fun e => .inr (.inl e))) e)⟩
  intro k hk
  rcases hk with rfl | hk | ⟨m', hm', rfl⟩
  · exact hf _ (.inl rfl)
  · rw [hv] at hk; exact hf _ (.inr (.inl hk))
  · exact hf _ (.inr (.inr ⟨m', hsub m' hm', rfl⟩))

/-- The first j of a list, the one at A's end left out. -/
def restL (A B : List BbT) (j : Nat) : List BbT := if j ≤ A.length then A.take j else A ++ B.take (j - A.length - 1)
theorem restL_zero (A B : List BbT) : restL A B 0 = [] := by simp [restL]
theorem restL_skip (A B : List BbT) : restL A B (A.length + 1) = restL A B A.length := by
  unfold restL
  rw [if_neg (by omega), if_pos (Nat.le_refl _), List.take_length]
  simp
theorem restL_next {A B : List BbT} {x o : BbT} {j : Nat} (h : (A ++ x :: B)[j]? = some o) (hj : j ≠ A.length) : restL A B (j + 1) = restL A B j ++ [o] := by
  unfold restL
  by_cases h1 : j < A.length
  · rw [if_pos (by omega), if_pos (by omega)]
    rw [List.getElem?_append_left h1] at h
    exact take_atL h
  · rw [if_neg (by omega), if_neg (by omega), List.append_assoc]
    congr 1
    rw [List.getElem?_append_right (by omega)] at h
    obtain ⟨q, hq⟩ : ∃ q, j - A.length = q + 1 := ⟨j - A.length - 1, by omega⟩
    rw [hq, List.getElem?_cons_succ] at h
    rw [show j + 1 - A.length - 1 = q + 1 by omega, show j - A.length - 1 = q by omega]
    exact take_atL h
theorem restL_all (A B : List BbT) (x : BbT) : restL A B (A ++ x :: B).length = A ++ B := by
  unfold restL
  rw [if_neg (by simp), List.take_of_length_le (by simp)]
theorem restL_len (A B : List BbT) (j : Nat) : (restL A B j).length ≤ j := by
  unfold restL
  split
  · simp; omega
  · simp; omega
end Go.Proofs.Ytdhdmfibdgepfaa
