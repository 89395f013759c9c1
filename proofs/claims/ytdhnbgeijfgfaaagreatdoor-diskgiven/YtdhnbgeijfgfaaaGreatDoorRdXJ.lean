/- The document's disk: Start, round by round. -/
import Derived.Test.YtdhnbgeijfgfaaaGreatDoorRdWJ
import Derived.Test.YtdhnbgeijfgfaaaGreatDoorDnAJ
namespace Go.Proofs.YtdhnbgeijfgfaaaGreatDoor
open Go.RowKit Go.Shelf
set_option maxRecDepth 8000

/-- A copy of a file's first bytes (the file itself is not too long). -/
theorem IsRd.copy2 {w : World} {p g n c : Nat} {vs : List Value} {R : RD} (h : IsRd w p (.slice (some ⟨g, 0, none⟩) n c) vs R) (i : Nat) (hi : i < R.files.length) (hu : R.files[i].bytes.length ≤ 1000000000) {x : Option Addr} {L y : Nat} (hv : vs[i]? = some (.slice x L y)) (K : Nat) (hK : K ≤ R.files[i].bytes.length) (V : World) (hV : Below w.heap.size w V) :
    Calls Tryz.prog 28 #[.slice x K y] V fun e w' => ∃ x' y', e = .returned (.slice x' K y') ∧ Owns w' 0 (.slice x' K y') (R.files[i].bytes.take K) ∧ (∀ k, (Value.slice x' K y').ownBlock = some k → w.heap.size ≤ k) ∧ Below V.heap.size V w' := by
  have ho := h.img.bys i _ _ hv (List.getElem?_eq_getElem hi)
  have ho2 := own_front ho K hK
  have hlt : ∀ k, (Value.slice x K y).ownBlock = some k → k < w.heap.size := fun k e => rows_ltK ho (k := k) (by cases x <;> exact e)
  have hs : Sees V (.slice x K y) (R.files[i].bytes.take K) := Sees.own (ho2.kept (Below.kept hV) (fun k e e' => by have := hlt k e; omega))
  have hl : (R.files[i].bytes.take K).length = K := by rw [List.length_take]; omega
  refine (copyBytes_any _ _ V hs (by rw [hl]; omega)).mono ?_
  rintro e w' ⟨v', rfl, ho3, hb3⟩
  obtain ⟨x', y', e', _⟩ := own_shape (owns_mono ho3 (Nat.zero_le _))
  rw [hl] at e'
  subst e'
  exact ⟨x', y', rfl, owns_mono ho3 (Nat.zero_le _), fun k e => Nat.le_trans hV.size (ho3.lt k e).1, hb3⟩

/-- The loop of Start: its state. -/
structure StK (w : World) (p : Nat) (fv : Value) (vs : List Value) (R : RD) (ks : List Int) (k : Nat) (wr : World) : Prop where
  turned : ∃ vs', RdTo w p fv vs wr { R with power := true, files := lossK R.files ks k } fv vs'

/-- A round of it: what it needs. -/
theorem StK.round {w : World} {p : Nat} {fv : Value} {vs : List Value} {R : RD} {ks : List Int} {k : Nat} {wr : World} (h : StK w p fv vs R ks k wr) (ok : RdOk R) (hd : ∀ f ∈ R.files, 0 ≤ f.dur ∧ f.dur ≤ f.bytes.length) (hk : k < R.files.length) :
    ∃ g c x y, fv = .slice (some ⟨g, 0, none⟩) R.files.length c ∧ R.files[k].bytes.length ≤ y ∧ y ≤ 9223372036854775807 ∧ p < wr.heap.size ∧ g < wr.heap.size ∧ wr.cell? ⟨p, 1, none⟩ = some (.slice (some ⟨g, 0, none⟩) R.files.length c) ∧ wr.cell? ⟨g, k * 3, none⟩ = some (.string R.files[k].name) ∧ wr.cell? ⟨g, k * 3 + 1, none⟩ = some (.slice x R.files[k].bytes.length y) ∧ wr.cell? ⟨g, k * 3 + 2, none⟩ = some (.int .i64 R.files[k].dur) ∧
      ∀ V : World, Below wr.heap.size wr V → V.heap[wr.heap.size]? = some (.cells #[.string R.files[k].name, .slice x R.files[k].bytes.length y, .int .i64 R.files[k].dur] 38 (0, 0)) →
        Calls Tryz.prog 28 #[.slice x (leftN R.files[k] (ks.getD k 0)) y] V fun e w' => ∃ x' y', e = .returned (.slice x' (leftN R.files[k] (ks.getD k 0)) y') ∧
          (w'.cell? ⟨p, 1, none⟩ = some (.slice (some ⟨g, 0, none⟩) R.files.length c) ∧ w'.cell? ⟨wr.heap.size, 1, none⟩ = some (.slice x R.files[k].bytes.length y) ∧ w'.cell? ⟨wr.heap.size, 2, none⟩ = some (.int .i64 R.files[k].dur)) ∧ w'.frozen? ⟨g, k * 3 + 1, none⟩ = false ∧ w'.cell? ⟨g, k * 3 + 1, none⟩ = some (.slice x R.files[k].bytes.length y) ∧
          ((w'.setCell ⟨g, k * 3 + 1, none⟩ (.slice x' (leftN R.files[k] (ks.getD k 0)) y')).cell? ⟨p, 1, none⟩ = some (.slice (some ⟨g, 0, none⟩) R.files.length c) ∧ (w'.setCell ⟨g, k * 3 + 1, none⟩ (.slice x' (leftN R.files[k] (ks.getD k 0)) y')).cell? ⟨wr.heap.size, 1, none⟩ = some (.slice x R.files[k].bytes.length y) ∧ (w'.setCell ⟨g, k * 3 + 1, none⟩ (.slice x' (leftN R.files[k] (ks.getD k 0)) y')).cell? ⟨wr.heap.size, 2, none⟩ = some (.int .i64 R.files[k].dur)) ∧
          (w'.setCell ⟨g, k * 3 + 1, none⟩ (.slice x' (leftN R.files[k] (ks.getD k 0)) y')).cell? ⟨g, k * 3 + 2, none⟩ = some (.int .i64 R.files[k].dur) ∧ (w'.setCell ⟨g, k * 3 + 1, none⟩ (.slice x' (leftN R.files[k] (ks.getD k 0)) y')).frozen? ⟨g, k * 3 + 2, none⟩ = false ∧
          ((((w'.setCell ⟨g, k * 3 + 1, none⟩ (.slice x' (leftN R.files[k] (ks.getD k 0)) y')).drew).setCell ⟨g, k * 3 + 2, none⟩ (.int .i64 (leftN R.files[k] (ks.getD k 0)))).cell? ⟨p, 1, none⟩ = some (.slice (some ⟨g, 0, none⟩) R.files.length c) ∧ (((w'.setCell ⟨g, k * 3 + 1, none⟩ (.slice x' (leftN R.files[k] (ks.getD k 0)) y')).drew).setCell ⟨g, k * 3 + 2, none⟩ (.int .i64 (leftN R.files[k] (ks.getD k 0)))).cell? ⟨wr.heap.size, 2, none⟩ = some (.int .i64 R.files[k].dur)) ∧
          Hid (StK w p fv vs R ks (k + 1) (((w'.setCell ⟨g, k * 3 + 1, none⟩ (.slice x' (leftN R.files[k] (ks.getD k 0)) y')).drew).setCell ⟨g, k * 3 + 2, none⟩ (.int .i64 (leftN R.files[k] (ks.getD k 0))))) := by
  obtain ⟨vs', ht⟩ := h.turned
  have hk2 : k < ({ R with power := true, files := lossK R.files ks k } : RD).files.length := by show k < (lossK R.files ks k).length; rw [lossK_len]; exact hk
  have hat : ({ R with power := true, files := lossK R.files ks k } : RD).files[k] = R.files[k] := by
    have h1 := lossK_at R.files ks k hk
    rw [List.getElem?_eq_getElem (by rw [lossK_len]; exact hk)] at h1
    exact Option.some.inj h1
  obtain ⟨g, c, u, e0, hc1, hc2, hu, a0, a1, a2, ho⟩ := ht.is.file k hk2
  have hlen : ({ R with power := true, files := lossK R.files ks k } : RD).files.length = R.files.length := lossK_len _ _ _
  rw [hlen] at e0
  subst e0
  obtain ⟨x, y, hu2, hx1, hx2⟩ := own_shape ho
  unfold maxLen at hx2
  rw [hat] at a0 a2 hu2 hx1
  subst hu2
  obtain ⟨f, hf⟩ : ∃ f, f = R.files[k] := ⟨_, rfl⟩
  have hdk := hd _ (List.getElem_mem hk)
  have hbl : R.files[k].bytes.length ≤ 1000000000 := Nat.le_trans (len_used (List.getElem_mem hk)) ok.used
  have hln := leftN_le R.files[k] (ks.getD k 0) hdk.1 hdk.2
  refine ⟨g, c, x, y, rfl, hx1, by omega, lt_of_block ht.is.row, ht.is.lt (mem_rfoot_fv rfl), ht.is.cells.2.1, a0, a1, a2, fun V hV hrow => ?_⟩
  have hcp := ht.is.copy2 k hk2 (by rw [hat]; exact hbl) hu (leftN R.files[k] (ks.getD k 0)) (by rw [hat]; exact hln.1) V hV
  rw [hat] at hcp
  have hloss : (lossK R.files ks k).set k ⟨f.name, f.bytes.take (leftN f (ks.getD k 0)), leftN f (ks.getD k 0)⟩ = lossK R.files ks (k + 1) := by
    rw [← lossK_next R.files ks k hk, hf]
    rfl
  rw [← hf] at hrow hcp hln a0 a1 a2 hat ⊢
  generalize leftN f (ks.getD k 0) = K at *
  refine hcp.mono ?_
  rintro e w3 ⟨x', y', rfl, ho3, hnew, hb3⟩
  have hb13 : Below wr.heap.size wr w3 := hV.trans (hb3.mono hV.size)
  obtain ⟨hgp, hne⟩ := rfoot_ne ht.is.nd
  have hgl : g < wr.heap.size := ht.is.lt (mem_rfoot_fv rfl)
  have hpl := lt_of_block ht.is.row
  have hbl3 : w3.heap[wr.heap.size]? = some (.cells #[.string f.name, .slice x f.bytes.length y, .int .i64 f.dur] 38 (0, 0)) := (Below.kept hb3).heap hrow (fun e => by have := lt_of_block hrow; omega)
  have i3 := ht.is.later hb13
  obtain ⟨cur, hg3⟩ : ∃ cur, w3.heap[g]? = some (.cells cur 38 (0, 0)) := by
    obtain ⟨_, ⟨e, _⟩ | ⟨g', cap, cur, e, _, h3, _⟩⟩ := i3.img.own
    · cases e
    · simp only [Value.slice.injEq, Option.some.injEq, Addr.mk.injEq] at e
      obtain ⟨⟨rfl, _⟩, _⟩ := e
      exact ⟨cur, h3⟩
  have q1 : w3.cell? ⟨wr.heap.size, 1, none⟩ = some (.slice x f.bytes.length y) := cell_of_row w3 _ 1 _ _ _ hbl3
  have q2 : w3.cell? ⟨wr.heap.size, 2, none⟩ = some (.int .i64 f.dur) := cell_of_row w3 _ 2 _ _ _ hbl3
  have oth : ∀ (W : World) (o1 o2 b : Nat) (vv : Value), b ≠ g → (W.setCell ⟨g, o1, none⟩ vv).cell? ⟨b, o2, none⟩ = W.cell? ⟨b, o2, none⟩ := fun W o1 o2 b vv hb => World.cell?_setCell_other W ⟨g, o1, none⟩ ⟨b, o2, none⟩ vv (fun e => hb (congrArg Addr.block e).symm)
  have hbg : wr.heap.size ≠ g := by omega
  have p1 := i3.cells.2.1
  have g2 : w3.cell? ⟨g, k * 3 + 2, none⟩ = some (.int .i64 f.dur) := (Below.kept hb13).cell a2 (fun e => by have : wr.heap.size ≤ g := e; omega)
  have g1 : w3.cell? ⟨g, k * 3 + 1, none⟩ = some (.slice x f.bytes.length y) := (Below.kept hb13).cell a1 (fun e => by have : wr.heap.size ≤ g := e; omega)
  refine ⟨x', y', rfl, ⟨p1, q1, q2⟩, frozen_of_row w3 g _ _ _ hg3, g1, ⟨?_, ?_, ?_⟩, ?_, ?_, ⟨?_, ?_⟩, ?_⟩
  · rw [oth _ _ _ _ _ (fun e => hgp e.symm)]; exact p1
  · rw [oth _ _ _ _ _ hbg]; exact q1
  · rw [oth _ _ _ _ _ hbg]; exact q2
  · rw [World.cell?_setCell_other (a := ⟨g, k * 3 + 1, none⟩) (b := ⟨g, k * 3 + 2, none⟩) (h := fun e => by have := congrArg Addr.off e; simp at this)]
    exact g2
  · exact frozen_of_row _ g _ _ _ (heap_setK _ hg3)
  · rw [oth _ _ _ _ _ (fun e => hgp e.symm)]
    show (w3.setCell _ _).cell? _ = _
    rw [oth _ _ _ _ _ (fun e => hgp e.symm)]
    exact p1
  · rw [oth _ _ _ _ _ hbg]
    show (w3.setCell _ _).cell? _ = _
    rw [oth _ _ _ _ _ hbg]
    exact q2
  · have hvl : k < vs'.length := (List.getElem?_eq_some_iff.1 hu).1
    have s1 := ht.is.setB (w1 := w3) k hk2 hvl (.slice x' K y') (f.bytes.take K) ((Below.kept hb13).mono (fun q hq e => absurd hq (Nat.not_lt.2 e))) ho3 (fun q e => .inl (hnew q e))
    have hb4 : Below (w3.setCell ⟨g, k * 3 + 1, none⟩ (.slice x' K y')).heap.size (w3.setCell ⟨g, k * 3 + 1, none⟩ (.slice x' K y')) (w3.setCell ⟨g, k * 3 + 1, none⟩ (.slice x' K y')).drew := below_drewN (Below.refl _ _) 1
    have s2 := s1.then hb4
    have hl1 : k < ((lossK R.files ks k).set k ⟨({ R with power := true, files := lossK R.files ks k } : RD).files[k].name, f.bytes.take K, ({ R with power := true, files := lossK R.files ks k } : RD).files[k].dur⟩).length := by simpa [lossK_len] using hk
    have s3 := s2.is.setD k hl1 (K : Int)
    have s4 := ht.trans (s2.trans s3)
    have e5 : ((lossK R.files ks k).set k ⟨({ R with power := true, files := lossK R.files ks k } : RD).files[k].name, f.bytes.take K, ({ R with power := true, files := lossK R.files ks k } : RD).files[k].dur⟩).set k ⟨(((lossK R.files ks k).set k ⟨({ R with power := true, files := lossK R.files ks k } : RD).files[k].name, f.bytes.take K, ({ R with power := true, files := lossK R.files ks k } : RD).files[k].dur⟩)[k]'hl1).name, (((lossK R.files ks k).set k ⟨({ R with power := true, files := lossK R.files ks k } : RD).files[k].name, f.bytes.take K, ({ R with power := true, files := lossK R.files ks k } : RD).files[k].dur⟩)[k]'hl1).bytes, (K : Int)⟩ = lossK R.files ks (k + 1) := by
      rw [← hloss]
      simp only [List.set_set, List.getElem_set_self]
      rw [hat]
    show StK _ _ _ _ _ _ _ _
    have e6 : ({ R with power := true, files := lossK R.files ks (k + 1) } : RD) = { R with power := true, files := ((lossK R.files ks k).set k ⟨({ R with power := true, files := lossK R.files ks k } : RD).files[k].name, f.bytes.take K, ({ R with power := true, files := lossK R.files ks k } : RD).files[k].dur⟩).set k ⟨(((lossK R.files ks k).set k ⟨({ R with power := true, files := lossK R.files ks k } : RD).files[k].name, f.bytes.take K, ({ R with power := true, files := lossK R.files ks k } : RD).files[k].dur⟩)[k]'hl1).name, (((lossK R.files ks k).set k ⟨({ R with power := true, files := lossK R.files ks k } : RD).files[k].name, f.bytes.take K, ({ R with power := true, files := lossK R.files ks k } : RD).files[k].dur⟩)[k]'hl1).bytes, (K : Int)⟩ } := by rw [e5]
    exact ⟨⟨vs'.set k (.slice x' K y'), e6 ▸ s4⟩⟩
end Go.Proofs.YtdhnbgeijfgfaaaGreatDoor
