/- The document's Acks in memory; its NewAcks. -/
import Derived.Test.YtlnoighjdmjdeaaQvD
import Derived.Test.YtlnoighjdmjdeaaQuJ
namespace Go.Proofs.Ytlnoighjdmjdeaa
open Go.RowKit Go.Shelf
set_option maxRecDepth 8000

theorem rowKq {w w' : World} {S : Nat → Prop} {base : Nat} {T : TypeId} {z n : Nat} {v : Value} {xs : List Value} (h : w.ownsRow base T z v n xs) (hk : Kept w w' S) (hn : ∀ g, v.ownBlock = some g → ¬ S g) : w'.ownsRow base T z v n xs := by
  obtain ⟨h1, h2 | ⟨g, cap, cur, rfl, a2, a3, a4⟩⟩ := h
  · exact ⟨h1, .inl h2⟩
  · exact ⟨h1, .inr ⟨g, cap, cur, rfl, a2, hk.heap a3 (hn g rfl), a4⟩⟩
theorem rowTq {w : World} {base : Nat} {T : TypeId} {z n : Nat} {v : Value} {xs : List Value} (h : w.ownsRow base T z v n xs) {g : Nat} (hg : v.ownBlock = some g) : ∃ cs, w.heap[g]? = some (.cells cs T (0, 0)) := by
  obtain ⟨_, ⟨rfl, _⟩ | ⟨g', cap, cur, rfl, _, a3, _⟩⟩ := h
  · cases hg
  · simp [Value.ownBlock] at hg
    subst hg
    exact ⟨cur, a3⟩
theorem rowSq {w : World} {base : Nat} {T : TypeId} {z n : Nat} {v : Value} {xs : List Value} (h : w.ownsRow base T z v n xs) : ∃ a c, v = .slice a n c := by
  obtain ⟨_, ⟨rfl, rfl⟩ | ⟨g', cap, cur, rfl, _⟩⟩ := h
  · exact ⟨_, _, rfl⟩
  · exact ⟨_, _, rfl⟩
theorem Try.infoBq : (Try.prog.info? 4).map (fun i => (i.zero, i.size, i.bytes)) = some (some (.bool false), 1, 1) := by kernel_rfl
theorem Try.infoZq : (Try.prog.info? 38).map (fun i => (i.zero, i.size, i.bytes)) = some (some (zx 0 0), 2, 8) := by kernel_rfl
abbrev raRow (r : Nat) (vh vu : Value) : Array Value := #[.pointer (some ⟨r, 0, none⟩), vh, vu]

/-- A NewAcks of the document's under way. -/
structure Nk (w wr : World) (r k : Nat) (vh vu : Value) : Prop where
  row : wr.heap[w.heap.size]? = some (.cells (raRow r vh vu) 75 (0, 0))
  oh : wr.ownsRow (w.heap.size + 1) 4 1 vh k (List.replicate k (.bool false))
  ou : wr.ownsRow (w.heap.size + 1) 38 2 vu k (List.replicate (k * 2) (.int .u32 0))
  be : Below w.heap.size w wr
theorem kept_grown {w w' : World} {row : Option Nat} (h : w.grownBy w' row) : Kept w w' (fun k => row = some k) := ⟨h.os, h.tape, h.output, h.size, fun k hk hn => h.block k hk (fun e => hn e.symm)⟩
theorem kept_cellq (W : World) (g o : Nat) (v : Value) : Kept W (W.setCell ⟨g, o, none⟩ v) (fun k => k = g) := ⟨rfl, rfl, rfl, by simp, fun j _ hn => Deep.blk_setCell_other W _ _ _ hn⟩
theorem row_neq {w : World} {B B' : Nat} {T E : TypeId} {z z' n n' : Nat} {v v' : Value} {xs xs' : List Value} (h : w.ownsRow B T z v n xs) (h' : w.ownsRow B' E z' v' n' xs') (hTE : T ≠ E) {g : Nat} (e : v.ownBlock = some g) (e' : v'.ownBlock = some g) : False := by
  obtain ⟨cs, q⟩ := rowTq h e
  obtain ⟨cs', q'⟩ := rowTq h' e'
  rw [q] at q'
  simp at q'
  exact hTE q'.2
theorem Nk.step {w wr : World} {r k : Nat} {vh vu : Value} (h : Nk w wr r k vh vu) (hk : k ≤ 100) :
    ∃ a1 n1 c1 w1, (∀ ty, (Builtin.append_ #[72, 72] ty #[vh, .slice (some ⟨wr.heap.size, 0, none⟩) 1 1]).run Try.prog (wr.alloc (.cells #[.bool false] 4)) = .ok (.slice a1 n1 c1) w1) ∧ w1.cell? ⟨w.heap.size, 1, none⟩ = some vh ∧ w1.frozen? ⟨w.heap.size, 1, none⟩ = false ∧ w.heap.size < w1.heap.size ∧
    ∃ a2 n2 c2 w2, (∀ ty, (Builtin.append_ #[73, 73] ty #[vu, .slice (some ⟨w1.heap.size, 0, none⟩) 1 1]).run Try.prog ((w1.setCell ⟨w.heap.size, 1, none⟩ (.slice a1 n1 c1)).alloc (.cells #[.int .u32 0, .int .u32 0] 38)) = .ok (.slice a2 n2 c2) w2) ∧ (w1.setCell ⟨w.heap.size, 1, none⟩ (.slice a1 n1 c1)).cell? ⟨w.heap.size, 2, none⟩ = some vu ∧ w2.cell? ⟨w.heap.size, 2, none⟩ = some vu ∧ w2.frozen? ⟨w.heap.size, 2, none⟩ = false ∧ w.heap.size < w2.heap.size ∧
    Hid (Nk w (w2.setCell ⟨w.heap.size, 2, none⟩ (.slice a2 n2 c2)) r (k + 1) (.slice a1 n1 c1) (.slice a2 n2 c2)) := by
  have hq := lt_of_block h.row
  have B1 : Below wr.heap.size wr (wr.alloc (.cells #[.bool false] 4)) := one_alloc wr _
  have row1 := keepH B1 h.row
  have oh1 := h.oh.alloc (.cells #[.bool false] 4)
  have ou1 := h.ou.alloc (.cells #[.bool false] 4)
  have be1 : Below w.heap.size w (wr.alloc (.cells #[.bool false] 4)) := h.be.trans (B1.mono h.be.size)
  obtain ⟨i0, hi, hz, hs, hby⟩ := info_parts Try.infoBq
  obtain ⟨v1, w1, hrun1, own1, g1, _⟩ := app_row (P := Try.prog) (w := wr.alloc (.cells #[.bool false] 4)) (w.heap.size + 1) 72 72 4 i0 _ 1 1 Try.underlying72 hi hz hs hby rfl (by decide) vh k _ oh1 wr.heap.size [.bool false] rfl (heap_alloc_new _ _) (by simp [Value.oneCell']) (by omega) (by decide) (by simp; omega)
  have K1 := kept_grown g1
  have row2 := K1.heap row1 (fun e => by have := (oh1.lt _ e).1; omega)
  have ou2 := rowKq ou1 K1 (fun g e e' => row_neq oh1 ou1 (by decide) e' e)
  have be2 : Below w.heap.size w w1 := be1.trans (K1.below be1.size (fun j e => by have := (oh1.lt _ e).1; omega))
  obtain ⟨a1, c1, rfl⟩ := rowSq own1
  have z1 := lt_of_block row2
  refine ⟨a1, k + 1, c1, w1, fun ty => hrun1, cell_of_row _ _ 1 _ _ _ row2, ?_, z1, ?_⟩
  · have : w1.rowIs w.heap.size 75 3 (fun j => (raRow r vh vu).getD j undef) := ⟨_, row2, rfl, fun j hj => by
      have : j = 0 ∨ j = 1 ∨ j = 2 := by omega
      rcases this with rfl | rfl | rfl <;> rfl⟩
    exact this.frozen 1
  have row3 : (w1.setCell ⟨w.heap.size, 1, none⟩ (.slice a1 (k + 1) c1)).heap[w.heap.size]? = some (.cells (raRow r (.slice a1 (k + 1) c1) vu) 75 (0, 0)) := by
    rw [setCell_eq_setRow w1 w.heap.size 1 _ _ _ _ row2, setRow_heap w1 w.heap.size _ _ _ _ row2]; rfl
  have K3 := kept_cellq w1 w.heap.size 1 (.slice a1 (k + 1) c1)
  have oh3 := rowKq own1 K3 (fun g e e' => by have := (own1.lt _ e).1; omega)
  have ou3 := rowKq ou2 K3 (fun g e e' => by have := (ou2.lt _ e).1; omega)
  have be3 := be2.trans (K3.below be2.size (fun j e => by omega))
  generalize hW3 : w1.setCell ⟨w.heap.size, 1, none⟩ (.slice a1 (k + 1) c1) = W3 at *
  have sz3 : W3.heap.size = w1.heap.size := by rw [← hW3]; simp
  have B4 : Below W3.heap.size W3 (W3.alloc (.cells #[.int .u32 0, .int .u32 0] 38)) := one_alloc W3 _
  have row4 := keepH B4 row3
  have oh4 := oh3.alloc (.cells #[.int .u32 0, .int .u32 0] 38)
  have ou4 := ou3.alloc (.cells #[.int .u32 0, .int .u32 0] 38)
  have be4 : Below w.heap.size w (W3.alloc (.cells #[.int .u32 0, .int .u32 0] 38)) := be3.trans (B4.mono be3.size)
  obtain ⟨i1, hi1, hy1, hs1, hby1⟩ := info_parts Try.infoZq
  obtain ⟨v2, w2, hrun2, own2, g2, _⟩ := app_row (P := Try.prog) (w := W3.alloc (.cells #[.int .u32 0, .int .u32 0] 38)) (w.heap.size + 1) 73 73 38 i1 _ 2 8 Try.underlying73 hi1 hy1 hs1 hby1 rfl (by decide) vu k _ ou4 w1.heap.size [.int .u32 0, .int .u32 0] rfl (by rw [← sz3]; exact heap_alloc_new _ _) (by simp [Value.oneCell']) (by omega) (by decide) (by simp; omega)
  have K5 := kept_grown g2
  have row5 := K5.heap row4 (fun e => by have := (ou4.lt _ e).1; omega)
  have oh5 := rowKq oh4 K5 (fun g e e' => row_neq oh4 ou4 (by decide) e e')
  have be5 : Below w.heap.size w w2 := be4.trans (K5.below be4.size (fun j e => by have := (ou4.lt _ e).1; omega))
  obtain ⟨a2, c2, rfl⟩ := rowSq own2
  have z2 := lt_of_block row5
  refine ⟨a2, k + 1, c2, w2, fun ty => hrun2, cell_of_row _ _ 2 _ _ _ row3, cell_of_row _ _ 2 _ _ _ row5, ?_, z2, ?_⟩
  · have : w2.rowIs w.heap.size 75 3 (fun j => (raRow r (.slice a1 (k + 1) c1) vu).getD j undef) := ⟨_, row5, rfl, fun j hj => by
      have : j = 0 ∨ j = 1 ∨ j = 2 := by omega
      rcases this with rfl | rfl | rfl <;> rfl⟩
    exact this.frozen 2
  have row6 : (w2.setCell ⟨w.heap.size, 2, none⟩ (.slice a2 (k + 1) c2)).heap[w.heap.size]? = some (.cells (raRow r (.slice a1 (k + 1) c1) (.slice a2 (k + 1) c2)) 75 (0, 0)) := by
    rw [setCell_eq_setRow w2 w.heap.size 2 _ _ _ _ row5, setRow_heap w2 w.heap.size _ _ _ _ row5]; rfl
  have K6 := kept_cellq w2 w.heap.size 2 (.slice a2 (k + 1) c2)
  refine ⟨row6, ?_, ?_, be5.trans (K6.below be5.size (fun j e => by omega))⟩
  · have := rowKq oh5 K6 (fun g e e' => by have := (oh5.lt _ e).1; omega)
    rw [List.replicate_succ']
    exact this
  · have := rowKq own2 K6 (fun g e e' => by have := (own2.lt _ e).1; omega)
    rw [show (k + 1) * 2 = k * 2 + 1 + 1 by omega, List.replicate_succ', List.replicate_succ', List.append_assoc]
    exact this

end Go.Proofs.Ytlnoighjdmjdeaa
