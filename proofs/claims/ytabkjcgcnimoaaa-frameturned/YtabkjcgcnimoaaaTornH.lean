/- What is known of joined frames, for FrameTorn and FrameTurned. -/
import Derived.Test.YtabkjcgcnimoaaaTorn3
namespace Go.Proofs.Ytabkjcgcnimoaaa
open Go.ChangeShapes Go.WideShapes Go.ChangeAt Go.RowKit
set_option maxRecDepth 8000
namespace frameTorn
set_option linter.unusedVariables false

theorem sees_ps_below {w w' : World} {v : Value} {ps : List Pcd} (h : SeesPs w v ps) (hb : Below w.heap.size w w') : SeesPs w' v ps := by
  obtain ⟨ao, cap, rfl, h1, h2, h3, h4⟩ := h
  refine ⟨ao, cap, rfl, h1, h2, fun p hp => (h3 p hp).below hb, ?_⟩
  rcases h4 with h4 | ⟨b, off, rfl, h4⟩
  · exact .inl h4
  · exact .inr ⟨b, off, rfl, fun i hi => cell_later (h4 i hi) hb (Nat.le_refl _)⟩

/-- What is known of the joined frames, in a world V and later. -/
structure Have (w : World) (l : List Pcd) (g cva gl cl ga ca : Nat) (V : World) : Prop where
  below : Below w.heap.size w V
  good : ∀ p ∈ l, Good w p ∧ isSz p.ys.length = true
  all : Owns V 0 (.slice (some ⟨g, 0, none⟩) (framesL (ysOf l)).length cva) (framesL (ysOf l))
  lst : ∀ i (h : i < l.length), V.cell? ⟨gl, i, none⟩ = some (.slice l[i].ao l[i].ys.length l[i].cap)
  beg : ∀ i, i < l.length → V.cell? ⟨ga, i, none⟩ = some (.int .i64 (pos ((ysOf l).take i)))

theorem Have.later {w : World} {l : List Pcd} {g cva gl cl ga ca : Nat} {V V' : World} (h : Have w l g cva gl cl ga ca V) (hb : Below V.heap.size V V') : Have w l g cva gl cl ga ca V' :=
  ⟨h.below.trans (hb.mono h.below.size), h.good, row_kept h.all (kept_below hb (fun _ => False)) (fun _ _ h => h), fun i hi => cell_later (h.lst i hi) hb (Nat.le_refl _), fun i hi => cell_later (h.beg i hi) hb (Nat.le_refl _)⟩

theorem Have.cut {w : World} {l : List Pcd} {g cva gl cl ga ca c : Nat} {V : World} (h : Have w l g cva gl cl ga ca V) (hc : c ≤ (framesL (ysOf l)).length) : Sees V (.slice (some ⟨g, 0, none⟩) c cva) ((framesL (ysOf l)).take c) := sees_prefix h.all hc

theorem ys_at {l : List Pcd} {i : Nat} (h : i < l.length) : (ysOf l)[i]'(by simp [ysOf]; exact h) = l[i].ys := by simp [ysOf]
theorem ys_len (l : List Pcd) : (ysOf l).length = l.length := by simp [ysOf]

theorem have_join {w w1 V : World} {l : List Pcd} {va vl vat : Value} (hb : Below w.heap.size w V) (hg : ∀ p ∈ l, Good w p ∧ isSz p.ys.length = true) (h : Join w1.heap.size l va vl vat V) (hl : l ≠ []) :
    ∃ g cva gl cl ga ca, va = .slice (some ⟨g, 0, none⟩) (framesL (ysOf l)).length cva ∧ vl = .slice (some ⟨gl, 0, none⟩) l.length cl ∧ vat = .slice (some ⟨ga, 0, none⟩) l.length ca ∧ Have w l g cva gl cl ga ca V := by
  have hpos : 0 < l.length := List.length_pos_iff.2 hl
  have hF : 0 < (framesL (ysOf l)).length := by
    rw [framesL_len]
    have := pos_ge (ysOf l)
    rw [ys_len] at this
    omega
  obtain ⟨g, cva, rfl, _, _, _⟩ := row_cell h.all hF
  obtain ⟨gl, cl, rfl, _, _, hcl⟩ := row_cell h.lst hpos
  obtain ⟨ga, ca, rfl, _, _, hca⟩ := row_cell h.beg hpos
  refine ⟨g, cva, gl, cl, ga, ca, rfl, rfl, rfl, hb, hg, owns_mono h.all (Nat.zero_le _), fun i hi => ?_, fun i hi => ?_⟩
  · rw [hcl i hi]
    simp [hi, Pcd.v]
  · rw [hca i hi]
    have hi' : i < (starts 0 (ysOf l)).length := by rw [starts_len, ys_len]; exact hi
    have := starts_at (ysOf l) 0 i (by rw [ys_len]; exact hi)
    rw [Nat.zero_add] at this
    rw [List.getElem?_map, List.getElem?_eq_getElem hi', Option.map_some]
    rw [List.getD_eq_getElem?_getD, List.getElem?_eq_getElem hi'] at this
    simp at this
    rw [this]
end frameTorn
end Go.Proofs.Ytabkjcgcnimoaaa
