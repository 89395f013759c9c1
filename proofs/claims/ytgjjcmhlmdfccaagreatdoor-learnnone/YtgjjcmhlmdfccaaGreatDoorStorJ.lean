/- Plain facts on lists of bytes and their Adler-32 sums, and what it means that a slice value leads to given bytes in memory; no Go function is walked here. -/
import Derived.WalkKit
import Derived.WalkLawsBesides
import Derived.Laws.BitsAllLaws
import Derived.Deep.Draws
import Derived.ArgAppend
import Derived.OneCell
import Derived.Test.YtgjjcmhlmdfccaaGreatDoorProg
namespace Go.Proofs.YtgjjcmhlmdfccaaGreatDoor
open Go.RowKit
set_option maxRecDepth 8000

/-- Bytes: each number is from 0 to 255. -/
def Byts (xs : List Int) : Prop := ∀ x ∈ xs, 0 ≤ x ∧ x ≤ 255

theorem take_next (xs : List Int) (k : Nat) (h : k < xs.length) : xs.take (k + 1) = xs.take k ++ [xs.getD k 0] := by
  rw [List.take_succ_eq_append_getElem h, List.getD_eq_getElem?_getD, List.getElem?_eq_getElem h]; rfl

theorem take_next_eq {xs ys : List Int} {k : Nat} (h : k < xs.length) (g : k < ys.length) (e : xs.take k = ys.take k) (hk : xs.getD k 0 = ys.getD k 0) : xs.take (k + 1) = ys.take (k + 1) := by
  rw [take_next xs k h, take_next ys k g, e, hk]

theorem ne_of_nth {xs ys : List Int} (k : Nat) (h : xs.getD k 0 ≠ ys.getD k 0) : xs ≠ ys := fun e => h (by rw [e])

/-! ### The sum -/
/-! ### A number out of bytes, the highest first -/
/-! ### A slice of bytes in memory -/
/-- The slice value v leads to the bytes xs (read only: of its spare room nothing is said). -/
def Sees (w : World) (v : Value) (xs : List Int) : Prop :=
  ∃ (ao : Option Addr) (cap : Nat), v = .slice ao xs.length cap ∧ xs.length ≤ cap ∧ cap ≤ maxLen ∧ (ao = none → cap = 0) ∧ (xs = [] ∨ ∃ b off, ao = some ⟨b, off, none⟩ ∧ ∀ i, i < xs.length → w.cell? ⟨b, off + i, none⟩ = some (.int .u8 (xs.getD i 0)))

theorem Sees.below {B : Nat} {w w' : World} {v : Value} {xs : List Int} (h : Sees w v xs) (hb : Below B w w') (hB : w.heap.size ≤ B) : Sees w' v xs := by
  obtain ⟨ao, cap, rfl, h1, h2, h0, h3⟩ := h
  refine ⟨ao, cap, rfl, h1, h2, h0, ?_⟩
  rcases h3 with h3 | ⟨b, off, rfl, h3⟩
  · exact .inl h3
  · refine .inr ⟨b, off, rfl, fun i hi => ?_⟩
    have := World.block_lt_of_cell? w _ (h3 i hi)
    rw [hb.cell (p := ⟨b, off + i, none⟩) (by simp at this ⊢; omega)]; exact h3 i hi

theorem Sees.own {w : World} {base : Nat} {v : Value} {xs : List Int} (h : w.ownsRow base 5 1 v xs.length (xs.map (Value.int .u8))) : Sees w v xs := by
  rcases h.2 with ⟨rfl, h0⟩ | ⟨g, cap, cur, rfl, _, _, h2, h3, _, _⟩
  · refine ⟨none, 0, by rw [h0], by omega, by unfold maxLen; omega, fun _ => rfl, .inl (List.eq_nil_of_length_eq_zero h0)⟩
  · refine ⟨_, cap, rfl, h2, h3, fun e => by simp at e, .inr ⟨g, 0, rfl, fun i hi => ?_⟩⟩
    rw [Nat.zero_add, h.cellAt i (by omega)]
    simp [hi, List.getD_eq_getElem?_getD]

/-- A cell of a slice that is seen, asked for in a later world. -/
theorem cell_later {B : Nat} {w w' : World} {a : Addr} {u : Value} (h : w.cell? a = some u) (hb : Below B w w') (hB : w.heap.size ≤ B) : w'.cell? a = some u := by
  rw [hb.cell (p := a) (by have := World.block_lt_of_cell? w _ h; omega)]; exact h

/-- The slice value v owns a row whose elements are the bytes xs, in a block from 'base' on. -/
abbrev Owns (w : World) (base : Nat) (v : Value) (xs : List Int) : Prop := w.ownsRow base 5 1 v xs.length (xs.map (Value.int .u8))

end Go.Proofs.YtgjjcmhlmdfccaaGreatDoor

/- What stays when a call changes some blocks of memory, an append of bytes onto a row that the call owns, and what a Writer and a Reader of package pack are in memory; no Go function is walked here. -/
namespace Go.Proofs.YtgjjcmhlmdfccaaGreatDoor
open Go.RowKit
set_option maxRecDepth 8000

/-- All blocks of w but those of S are in w' as they were. -/
structure Kept (w w' : World) (S : Nat → Prop) : Prop where
  os : w'.os = w.os
  tape : w'.tape = w.tape
  output : w'.output = w.output
  size : w.heap.size ≤ w'.heap.size
  block : ∀ k, k < w.heap.size → ¬ S k → w'.heap[k]? = w.heap[k]?

theorem Kept.refl (w : World) (S : Nat → Prop) : Kept w w S := ⟨rfl, rfl, rfl, Nat.le_refl _, fun _ _ _ => rfl⟩
theorem Kept.mono {w w' : World} {S S' : Nat → Prop} (h : Kept w w' S) (hS : ∀ k, k < w.heap.size → S k → S' k) : Kept w w' S' :=
  ⟨h.os, h.tape, h.output, h.size, fun k hk hn => h.block k hk fun hs => hn (hS k hk hs)⟩
theorem Kept.trans {a b c : World} {S S' : Nat → Prop} (h : Kept a b S) (g : Kept b c S') (hS : ∀ k, k < a.heap.size → S' k → S k) : Kept a c S :=
  ⟨g.os.trans h.os, g.tape.trans h.tape, g.output.trans h.output, Nat.le_trans h.size g.size, fun k hk hn =>
    (g.block k (Nat.lt_of_lt_of_le hk h.size) fun hs => hn (hS k hk hs)).trans (h.block k hk hn)⟩
theorem Kept.alloc {a w : World} {S : Nat → Prop} (h : Kept a w S) (o : Obj) : Kept a (w.alloc o) S :=
  h.trans (S' := fun _ => False) ⟨rfl, rfl, rfl, by simp, fun k hk _ => Below.heap_alloc _ _ _ hk⟩ (fun _ _ h => h.elim)
theorem Kept.grown {a w w' : World} {S : Nat → Prop} {row : Option Nat} (h : Kept a w S) (g : w.grownBy w' row) (hS : ∀ k, k < a.heap.size → row = some k → S k) : Kept a w' S :=
  h.trans (S' := fun k => row = some k) ⟨g.os, g.tape, g.output, g.size, fun k hk hn => g.block k hk fun e => hn e.symm⟩ hS
theorem Kept.setCell {a w : World} {S : Nat → Prop} (h : Kept a w S) (p : Addr) (u : Value) (hS : p.block < a.heap.size → S p.block) : Kept a (w.setCell p u) S :=
  h.trans (S' := fun k => k = p.block) ⟨rfl, rfl, rfl, by simp [World.setCell], fun k _ hn => Below.heap_setCell _ _ _ _ hn⟩ (fun k hk e => by subst e; exact hS hk)
theorem Kept.below {w w' : World} {S : Nat → Prop} {B : Nat} (h : Kept w w' S) (hB : B ≤ w.heap.size) (hS : ∀ k, S k → B ≤ k) : Below B w w' :=
  ⟨h.os, h.tape, h.output, h.size, fun k hk => h.block k (by omega) fun hs => by have := hS k hs; omega⟩
theorem Below.kept {w w' : World} {B : Nat} (h : Below B w w') : Kept w w' (fun k => B ≤ k) := ⟨h.os, h.tape, h.output, h.size, fun k _ hn => h.block k (by omega)⟩
theorem Kept.cell {w w' : World} {S : Nat → Prop} (h : Kept w w' S) {p : Addr} {u : Value} (hc : w.cell? p = some u) (hn : ¬ S p.block) : w'.cell? p = some u :=
  (World.cell?_of_block (h.block p.block (World.block_lt_of_cell? w p hc) hn)).trans hc
theorem Kept.heap {w w' : World} {S : Nat → Prop} (h : Kept w w' S) {k : Nat} {o : Obj} (hc : w.heap[k]? = some o) (hn : ¬ S k) : w'.heap[k]? = some o :=
  (h.block k (lt_of_block hc) hn).trans hc

theorem Sees.kept {w w' : World} {S : Nat → Prop} {v : Value} {xs : List Int} (h : Sees w v xs) (hk : Kept w w' S) (hn : ∀ k, v.ownBlock = some k → ¬ S k) : Sees w' v xs := by
  obtain ⟨ao, cap, rfl, h1, h2, h0, h3⟩ := h
  refine ⟨ao, cap, rfl, h1, h2, h0, ?_⟩
  rcases h3 with h3 | ⟨b, off, rfl, h3⟩
  · exact .inl h3
  · exact .inr ⟨b, off, rfl, fun i hi => hk.cell (h3 i hi) (hn b rfl)⟩

theorem owns_shape {w : World} {base : Nat} {v : Value} {n : Nat} {xs : List Value} (h : w.ownsRow base 5 1 v n xs) : ∃ ao n c, v = .slice ao n c := by
  rcases h.2 with ⟨rfl, _⟩ | ⟨g, cap, cur, rfl, _⟩
  · exact ⟨_, _, _, rfl⟩
  · exact ⟨_, _, _, rfl⟩

end Go.Proofs.YtgjjcmhlmdfccaaGreatDoor

/- A row of cells that is stored over, cell by cell; a result that lies in a variable. No Go function is walked here. -/
namespace Go.Proofs.YtgjjcmhlmdfccaaGreatDoor
open Go.RowKit
set_option maxRecDepth 8000

theorem heap_setR {w : World} {b i : Nat} {cs : Array Value} {t : TypeId} {fr : Nat × Nat} (c : Value) (h : w.heap[b]? = some (.cells cs t fr)) : (w.setCell ⟨b, i, none⟩ c).heap[b]? = some (.cells (cs.setIfInBounds i c) t fr) := by
  rw [setCell_eq_setRow w b i cs t fr c h]
  exact setRow_heap w b cs _ t fr h

theorem stored11 {U : World} {b : Nat} {t : TypeId} {d0 d1 d2 d3 d4 d5 d6 d7 d8 d9 d10 : Value} (c0 c1 c2 c3 c4 c5 c6 c7 c8 c9 c10 : Value) (hbox : U.heap[b]? = some (.cells #[d0, d1, d2, d3, d4, d5, d6, d7, d8, d9, d10] t (0, 0))) :
    (((((((((((U.setCell ⟨b, 0, none⟩ c0).setCell ⟨b, 1, none⟩ c1).setCell ⟨b, 2, none⟩ c2).setCell ⟨b, 3, none⟩ c3).setCell ⟨b, 4, none⟩ c4).setCell ⟨b, 5, none⟩ c5).setCell ⟨b, 6, none⟩ c6).setCell ⟨b, 7, none⟩ c7).setCell ⟨b, 8, none⟩ c8).setCell ⟨b, 9, none⟩ c9).setCell ⟨b, 10, none⟩ c10).heap[b]? = some (.cells #[c0, c1, c2, c3, c4, c5, c6, c7, c8, c9, c10] t (0, 0)) ∧ Kept U (((((((((((U.setCell ⟨b, 0, none⟩ c0).setCell ⟨b, 1, none⟩ c1).setCell ⟨b, 2, none⟩ c2).setCell ⟨b, 3, none⟩ c3).setCell ⟨b, 4, none⟩ c4).setCell ⟨b, 5, none⟩ c5).setCell ⟨b, 6, none⟩ c6).setCell ⟨b, 7, none⟩ c7).setCell ⟨b, 8, none⟩ c8).setCell ⟨b, 9, none⟩ c9).setCell ⟨b, 10, none⟩ c10) (fun k => k = b) := by
  refine ⟨?_, ?_⟩
  · have hrow := (heap_setR (i := 10) c10 (heap_setR (i := 9) c9 (heap_setR (i := 8) c8 (heap_setR (i := 7) c7 (heap_setR (i := 6) c6 (heap_setR (i := 5) c5 (heap_setR (i := 4) c4 (heap_setR (i := 3) c3 (heap_setR (i := 2) c2 (heap_setR (i := 1) c1 (heap_setR (i := 0) c0 hbox)))))))))))
    have e : (((((((((((#[d0, d1, d2, d3, d4, d5, d6, d7, d8, d9, d10].setIfInBounds 0 c0).setIfInBounds 1 c1).setIfInBounds 2 c2).setIfInBounds 3 c3).setIfInBounds 4 c4).setIfInBounds 5 c5).setIfInBounds 6 c6).setIfInBounds 7 c7).setIfInBounds 8 c8).setIfInBounds 9 c9).setIfInBounds 10 c10) = #[c0, c1, c2, c3, c4, c5, c6, c7, c8, c9, c10] := by simp
    rw [e] at hrow
    exact hrow
  · exact (Kept.setCell (Kept.setCell (Kept.setCell (Kept.setCell (Kept.setCell (Kept.setCell (Kept.setCell (Kept.setCell (Kept.setCell (Kept.setCell (Kept.setCell (Kept.refl U (fun k => k = b)) ⟨b, 0, none⟩ c0 (fun _ => rfl)) ⟨b, 1, none⟩ c1 (fun _ => rfl)) ⟨b, 2, none⟩ c2 (fun _ => rfl)) ⟨b, 3, none⟩ c3 (fun _ => rfl)) ⟨b, 4, none⟩ c4 (fun _ => rfl)) ⟨b, 5, none⟩ c5 (fun _ => rfl)) ⟨b, 6, none⟩ c6 (fun _ => rfl)) ⟨b, 7, none⟩ c7 (fun _ => rfl)) ⟨b, 8, none⟩ c8 (fun _ => rfl)) ⟨b, 9, none⟩ c9 (fun _ => rfl)) ⟨b, 10, none⟩ c10 (fun _ => rfl))

theorem stored16 {U : World} {b : Nat} {t : TypeId} {d0 d1 d2 d3 d4 d5 d6 d7 d8 d9 d10 d11 d12 d13 d14 d15 : Value} (c0 c1 c2 c3 c4 c5 c6 c7 c8 c9 c10 c11 c12 c13 c14 c15 : Value) (hbox : U.heap[b]? = some (.cells #[d0, d1, d2, d3, d4, d5, d6, d7, d8, d9, d10, d11, d12, d13, d14, d15] t (0, 0))) :
    ((((((((((((((((U.setCell ⟨b, 0, none⟩ c0).setCell ⟨b, 1, none⟩ c1).setCell ⟨b, 2, none⟩ c2).setCell ⟨b, 3, none⟩ c3).setCell ⟨b, 4, none⟩ c4).setCell ⟨b, 5, none⟩ c5).setCell ⟨b, 6, none⟩ c6).setCell ⟨b, 7, none⟩ c7).setCell ⟨b, 8, none⟩ c8).setCell ⟨b, 9, none⟩ c9).setCell ⟨b, 10, none⟩ c10).setCell ⟨b, 11, none⟩ c11).setCell ⟨b, 12, none⟩ c12).setCell ⟨b, 13, none⟩ c13).setCell ⟨b, 14, none⟩ c14).setCell ⟨b, 15, none⟩ c15).heap[b]? = some (.cells #[c0, c1, c2, c3, c4, c5, c6, c7, c8, c9, c10, c11, c12, c13, c14, c15] t (0, 0)) ∧ Kept U ((((((((((((((((U.setCell ⟨b, 0, none⟩ c0).setCell ⟨b, 1, none⟩ c1).setCell ⟨b, 2, none⟩ c2).setCell ⟨b, 3, none⟩ c3).setCell ⟨b, 4, none⟩ c4).setCell ⟨b, 5, none⟩ c5).setCell ⟨b, 6, none⟩ c6).setCell ⟨b, 7, none⟩ c7).setCell ⟨b, 8, none⟩ c8).setCell ⟨b, 9, none⟩ c9).setCell ⟨b, 10, none⟩ c10).setCell ⟨b, 11, none⟩ c11).setCell ⟨b, 12, none⟩ c12).setCell ⟨b, 13, none⟩ c13).setCell ⟨b, 14, none⟩ c14).setCell ⟨b, 15, none⟩ c15) (fun k => k = b) := by
  refine ⟨?_, ?_⟩
  · have hrow := (heap_setR (i := 15) c15 (heap_setR (i := 14) c14 (heap_setR (i := 13) c13 (heap_setR (i := 12) c12 (heap_setR (i := 11) c11 (heap_setR (i := 10) c10 (heap_setR (i := 9) c9 (heap_setR (i := 8) c8 (heap_setR (i := 7) c7 (heap_setR (i := 6) c6 (heap_setR (i := 5) c5 (heap_setR (i := 4) c4 (heap_setR (i := 3) c3 (heap_setR (i := 2) c2 (heap_setR (i := 1) c1 (heap_setR (i := 0) c0 hbox))))))))))))))))
    have e : ((((((((((((((((#[d0, d1, d2, d3, d4, d5, d6, d7, d8, d9, d10, d11, d12, d13, d14, d15].setIfInBounds 0 c0).setIfInBounds 1 c1).setIfInBounds 2 c2).setIfInBounds 3 c3).setIfInBounds 4 c4).setIfInBounds 5 c5).setIfInBounds 6 c6).setIfInBounds 7 c7).setIfInBounds 8 c8).setIfInBounds 9 c9).setIfInBounds 10 c10).setIfInBounds 11 c11).setIfInBounds 12 c12).setIfInBounds 13 c13).setIfInBounds 14 c14).setIfInBounds 15 c15) = #[c0, c1, c2, c3, c4, c5, c6, c7, c8, c9, c10, c11, c12, c13, c14, c15] := by simp
    rw [e] at hrow
    exact hrow
  · exact (Kept.setCell (Kept.setCell (Kept.setCell (Kept.setCell (Kept.setCell (Kept.setCell (Kept.setCell (Kept.setCell (Kept.setCell (Kept.setCell (Kept.setCell (Kept.setCell (Kept.setCell (Kept.setCell (Kept.setCell (Kept.setCell (Kept.refl U (fun k => k = b)) ⟨b, 0, none⟩ c0 (fun _ => rfl)) ⟨b, 1, none⟩ c1 (fun _ => rfl)) ⟨b, 2, none⟩ c2 (fun _ => rfl)) ⟨b, 3, none⟩ c3 (fun _ => rfl)) ⟨b, 4, none⟩ c4 (fun _ => rfl)) ⟨b, 5, none⟩ c5 (fun _ => rfl)) ⟨b, 6, none⟩ c6 (fun _ => rfl)) ⟨b, 7, none⟩ c7 (fun _ => rfl)) ⟨b, 8, none⟩ c8 (fun _ => rfl)) ⟨b, 9, none⟩ c9 (fun _ => rfl)) ⟨b, 10, none⟩ c10 (fun _ => rfl)) ⟨b, 11, none⟩ c11 (fun _ => rfl)) ⟨b, 12, none⟩ c12 (fun _ => rfl)) ⟨b, 13, none⟩ c13 (fun _ => rfl)) ⟨b, 14, none⟩ c14 (fun _ => rfl)) ⟨b, 15, none⟩ c15 (fun _ => rfl))

theorem resCell1 {fn : Func} {p : Tmp} {ty : TypeId} (h : fn.results = #[.cell p ty]) (tmps : Array Value) (P : Program) (w : World) :
    (results fn tmps).run P w = ((asAddr (tmps.getD p undef)).run P w).andThen fun a w₁ => (loadVar ty a).run P w₁ := by
  simp only [results, h]
  simp [Sem.run_bind, Result.andThen]

theorem rq_size : (Tryz.prog.info? 35).map (·.size) = some 11 := by kernel_rfl
theorem tx_size : (Tryz.prog.info? 37).map (·.size) = some 16 := by kernel_rfl
end Go.Proofs.YtgjjcmhlmdfccaaGreatDoor
