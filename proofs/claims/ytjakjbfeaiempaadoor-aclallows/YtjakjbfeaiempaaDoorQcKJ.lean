/- What acl's putFor keeps its list with: an entry put behind it, if it does not stand there. -/
import Derived.Test.YtjakjbfeaiempaaDoorQcJJ
import Derived.Maps.AppendAt
namespace Go.Proofs.YtjakjbfeaiempaaDoor
open Go.RowKit Go.Shelf
set_option maxRecDepth 8000

/-- The list with one more, if it does not stand there. -/
def putL (l : List EnT) (x : EnT) : List EnT := if l.any (fun z => enEq x z) then l else l ++ [x]

/-- The caught list: the variable's block, and a row of one's own. -/
def PFx (w0 : World) (fb : Nat) (fv : Value) (l : List EnT) (V : World) : Prop := V.heap[fb]? = some (.cells #[fv] 22 (0, 0)) ∧ V.ownsRow w0.heap.size 39 3 fv l.length (enFlat l) ∧ Below w0.heap.size w0 V ∧ w0.heap.size ≤ fb

theorem PFx.below {w0 V V' : World} {fb : Nat} {fv : Value} {l : List EnT} (h : PFx w0 fb fv l V) (hB : Below V.heap.size V V') : PFx w0 fb fv l V' :=
  ⟨(hB.block _ (lt_of_block h.1)).trans h.1, owns_below h.2.1 hB, h.2.2.1.trans (hB.mono h.2.2.1.size), h.2.2.2⟩

/-- What a put may change: the variable and its row; the row is the same or a new one. -/
def Puts (fb : Nat) (fv fv' : Value) (w w' : World) : Prop := w.heap.size ≤ w'.heap.size ∧ (∀ k, k < w.heap.size → k ≠ fb → some k ≠ fv.ownBlock → w'.heap[k]? = w.heap[k]?) ∧ (fv'.ownBlock = fv.ownBlock ∨ ∃ g, fv'.ownBlock = some g ∧ w.heap.size ≤ g)

theorem ne_own {w : World} {base fb : Nat} {fv u : Value} {n : Nat} {xs : List Value} (h1 : w.heap[fb]? = some (.cells #[u] 22 (0, 0))) (h2 : w.ownsRow base 39 3 fv n xs) : some fb ≠ fv.ownBlock := by
  intro e
  obtain ⟨_, ⟨rfl, _⟩ | ⟨g, cap, cur, rfl, _, a3, _⟩⟩ := h2
  · cases e
  · simp [Value.ownBlock] at e
    subst e
    rw [h1] at a3
    simp only [Option.some.injEq, Obj.cells.injEq] at a3
    exact absurd a3.2.1 (by decide)

theorem heap_setK {w : World} {b i : Nat} {cs : Array Value} {t : TypeId} {fr : Nat × Nat} (c : Value) (h : w.heap[b]? = some (.cells cs t fr)) : (w.setCell ⟨b, i, none⟩ c).heap[b]? = some (.cells (cs.setIfInBounds i c) t fr) := by
  rw [setCell_eq_setRow w b i cs t fr c h]
  exact setRow_heap w b cs _ t fr h

set_option maxHeartbeats 2000000 in
theorem putFor1_any {w0 : World} {fb : Nat} {fv : Value} {l : List EnT} (p : Int) (x : IdT) (w : World) (h : PFx w0 fb fv l w) (hlen : l.length ≤ 1000) :
    Calls Tryd.prog 59 #[.int .i8 p, .agg (idCs x), .pointer (some ⟨fb, 0, none⟩)] w fun e w' => e = .returned (.tuple #[]) ∧ ∃ fv', PFx w0 fb fv' (putL l (p, x.1, x.2)) w' ∧ Puts fb fv fv' w w' := by
  obtain ⟨y, hy⟩ : ∃ y : EnT, y = (p, x.1, x.2) := ⟨_, rfl⟩
  have B1 : Below w.heap.size w (w.alloc (.cells (idCs x) 37)) := (Below.refl _ _).alloc (Nat.le_refl _) _
  have B2 : Below w.heap.size w ((w.alloc (.cells (idCs x) 37)).alloc (.cells (enCs (p, x.1, x.2)) 39)) := B1.alloc (by simp) _
  have h2 := h.below B2
  have hrowE : ((w.alloc (.cells (idCs x) 37)).alloc (.cells (enCs (p, x.1, x.2)) 39)).heap[w.heap.size + 1]? = some (.cells (enCs (p, x.1, x.2)) 39 (0, 0)) := alloc_newq (by simp)
  have hfb := lt_of_block h.1
  have HC : Hid (Calls Tryd.prog 36 #[fv, .agg (enCs (p, x.1, x.2))] ((w.alloc (.cells (idCs x) 37)).alloc (.cells (enCs (p, x.1, x.2)) 39)) fun e w' => e = .returned (.bool (l.any (fun z => enEq (p, x.1, x.2) z))) ∧ Hid (PFx w0 fb fv l w' ∧ w'.heap[w.heap.size + 1]? = some (.cells (enCs (p, x.1, x.2)) 39 (0, 0)) ∧ Below w.heap.size w w')) :=
    (containsE fv l (p, x.1, x.2) _ (SE_owns h2.2.1) hlen).mono (fun e w' hh => ⟨hh.1, h2.below hh.2, (hh.2.block _ (lt_of_block hrowE)).trans hrowE, B2.trans (hh.2.mono B2.size)⟩)
  have c0 : w.cell? ⟨fb, 0, none⟩ = some fv := cell_of_row w fb 0 _ _ _ h.1
  generalize hany : l.any (fun z => enEq (p, x.1, x.2) z) = ba at HC
  have HPut : Hid (putL l (p, x.1, x.2) = if ba then l else l ++ [(p, x.1, x.2)]) := by show _ = _; unfold putL; rw [hany]
  clear hany B1 B2 h2 hrowE h hy
  go_enter Tryd.func59, Tryd.ntmps59
  go_wp2_with fail
  go_at_call 36
  refine (HC.out).mono ?_
  rintro e w1 ⟨rfl, H1⟩
  cases ba
  · obtain ⟨e0, e1, e2⟩ : w1.cell? ⟨w.heap.size + 1, 0, none⟩ = some (.int .i8 p) ∧ w1.cell? ⟨w.heap.size + 1, 1, none⟩ = some (.string x.1) ∧ w1.cell? ⟨w.heap.size + 1, 2, none⟩ = some (.string x.2) := ⟨cell_of_row w1 _ 0 _ _ _ H1.out.2.1, cell_of_row w1 _ 1 _ _ _ H1.out.2.1, cell_of_row w1 _ 2 _ _ _ H1.out.2.1⟩
    have f0 : w1.cell? ⟨fb, 0, none⟩ = some fv := cell_of_row w1 fb 0 _ _ _ H1.out.1.1
    have B3 : Below w1.heap.size w1 (w1.alloc (.cells (enCs (p, x.1, x.2)) 39)) := (Below.refl _ _).alloc (Nat.le_refl _) _
    have h3 := H1.out.1.below B3
    have hm : (w1.alloc (.cells (enCs (p, x.1, x.2)) 39)).heap[w1.heap.size]? = some (.cells (enCs (p, x.1, x.2)) 39 (0, 0)) := heap_alloc_new _ _
    obtain ⟨i, hi, hz, hs, hby⟩ := info3 Tryd.infoEnP
    obtain ⟨v', w', hr, ho, hg, _, hown⟩ := run_append_own_at (P := Tryd.prog) (w1.alloc (.cells (enCs (p, x.1, x.2)) 39)) w0.heap.size 22 22 39 i _ 3 40 Tryd.underlying22 hi hz hs hby rfl (by decide) fv l.length (enFlat l) h3.2.1 ⟨w1.heap.size, 0, none⟩ 1 1 [.int .i8 p, .string x.1, .string x.2] rfl (fun j u hj => by
      rw [Addr.add_lit, Nat.zero_add, cell_of_row _ w1.heap.size j _ _ _ hm, ← Array.getElem?_toList]
      exact hj) (by simp [Value.oneCell']) (by unfold maxLen; omega) (by omega) h3.2.2.1.size
    obtain ⟨g, cap', rfl⟩ : ∃ g cap', v' = .slice (some ⟨g, 0, none⟩) (l.length + 1) cap' := by
      obtain ⟨_, ⟨_, h0⟩ | ⟨g, cap', _, a1, _⟩⟩ := ho
      · omega
      · exact ⟨g, cap', a1⟩
    have hne := ne_own h3.1 h3.2.1
    have hfb3 := lt_of_block h3.1
    have hfr : w'.heap[fb]? = some (.cells #[fv] 22 (0, 0)) := (hg.block _ hfb3 hne).trans h3.1
    have q0 : w'.cell? ⟨fb, 0, none⟩ = some fv := cell_of_row w' fb 0 _ _ _ hfr
    have q1 : w'.frozen? ⟨fb, 0, none⟩ = false := frozen_of_row w' fb 0 _ _ hfr
    have q2 := lt_of_block hfr
    have HE : Hid (PFx w0 fb (.slice (some ⟨g, 0, none⟩) (l.length + 1) cap') (putL l (p, x.1, x.2)) (w'.setCell ⟨fb, 0, none⟩ (.slice (some ⟨g, 0, none⟩) (l.length + 1) cap')) ∧ Puts fb fv (.slice (some ⟨g, 0, none⟩) (l.length + 1) cap') w (w'.setCell ⟨fb, 0, none⟩ (.slice (some ⟨g, 0, none⟩) (l.length + 1) cap'))) := by
      have hgf : g ≠ fb := fun e => ne_own hfr ho (by rw [e]; rfl)
      have hBw' : Below w0.heap.size w0 w' := grown_below h3.2.2.1 h3.2.1 hg
      have hsz3 : (w1.alloc (.cells (enCs (p, x.1, x.2)) 39)).heap.size = w1.heap.size + 1 := by simp
      have hw1 := H1.out.2.2.size
      refine ⟨⟨heap_setK _ hfr, ?_, hBw'.setCell (p := ⟨fb, 0, none⟩) h3.2.2.2 _, h3.2.2.2⟩, ?_, fun k hk hkf hko => ?_, ?_⟩
      · rw [HPut.out, if_neg (by decide), List.length_append, enFlat_app]
        obtain ⟨o1, ⟨o2, o3⟩ | ⟨g2, c2, cu2, o2, o3, o4, o5⟩⟩ := ho
        · cases o2
        · refine ⟨o1, .inr ⟨g2, c2, cu2, o2, o3, ?_, o5⟩⟩
          have hg2 : g2 ≠ fb := by
            have := congrArg Value.ownBlock o2
            simp [Value.ownBlock] at this
            omega
          rw [Below.heap_setCell _ _ _ _ hg2]
          exact o4
      · have := hg.size
        simp only [World.size_setCell]
        omega
      · rw [Below.heap_setCell _ _ _ _ hkf, hg.block k (by omega) hko, Below.heap_alloc _ _ _ (by omega)]
        exact H1.out.2.2.block k hk
      · rcases hown with e | e
        · exact .inl e
        · exact .inr ⟨_, e, by omega⟩
    clear h3 hm hi hz hs hby ho hg hown hne hfr HPut H1
    go_wp2_with (at_builtin; refine Lib.wpList_append_run_sl _ rfl _ _ 22 rfl _ _ rfl rfl hr ?_)
    all_goals (first | go_end0 | refine bodyPost_ret (results_none rfl _ _ _) rfl ?_)
    all_goals exact ⟨rfl, _, HE.out⟩
  · go_wp2
    all_goals (first | go_end0 | refine bodyPost_ret (results_none rfl _ _ _) rfl ?_)
    all_goals exact ⟨rfl, fv, by rw [HPut.out]; exact H1.out.1, ⟨H1.out.2.2.size, fun k hk _ _ => H1.out.2.2.block k hk, .inl rfl⟩⟩

end Go.Proofs.YtjakjbfeaiempaaDoor
