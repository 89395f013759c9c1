/- The statements' Bag that holds lists of bytes, ids, entries, requests and transactions: one more list of a kind. -/
import Derived.Test.YtoeialngbbfoeaaGreatDoorBqAJ
import Derived.Test.YtoeialngbbfoeaaGreatDoorApartJ
import Derived.Test.YtoeialngbbfoeaaGreatDoorBgIJ
import Derived.Test.YtoeialngbbfoeaaGreatDoorBgQJ
import Derived.Test.YtoeialngbbfoeaaGreatDoorBgVJ
namespace Go.Proofs.YtoeialngbbfoeaaGreatDoor
open Go.RowKit Go.Shelf
set_option maxRecDepth 8000
set_option linter.unusedVariables false
set_option linter.unusedSimpArgs false

abbrev nilQ : Value := .slice none 0 0
/-- The lists of a Bag, by kind. -/
structure QL where
  b : List Value
  i : List Value
  a : List Value
  r : List Value
  t : List Value
def QL.nil : QL := ⟨[], [], [], [], []⟩
def QL.add (L M : QL) : QL := ⟨L.b ++ M.b, L.i ++ M.i, L.a ++ M.a, L.r ++ M.r, L.t ++ M.t⟩
def QL.cut (L : QL) : QL := ⟨L.b.take 600, L.i.take 600, L.a.take 600, L.r.take 600, L.t.take 600⟩
theorem QL.add_nil (L : QL) : L.add QL.nil = L := by simp [QL.add, QL.nil]
theorem QL.nil_add (L : QL) : QL.nil.add L = L := by simp [QL.add, QL.nil]
theorem QL.add_add (L M N : QL) : (L.add M).add N = L.add (M.add N) := by simp [QL.add]

/-- The five fields of a Bag. -/
structure QV where
  b : Value
  i : Value
  a : Value
  r : Value
  t : Value
def QV.nil : QV := ⟨nilQ, nilQ, nilQ, nilQ, nilQ⟩
def QV.own (V : QV) (k : Nat) : Prop := V.b.ownBlock = some k ∨ V.i.ownBlock = some k ∨ V.a.ownBlock = some k ∨ V.r.ownBlock = some k ∨ V.t.ownBlock = some k
abbrev bagQ (V : QV) : Array Value := #[V.b, nilQ, nilQ, nilQ, V.i, V.a, V.r, V.t, nilQ, nilQ, nilQ, nilQ, nilQ, nilQ, nilQ, nilQ, nilQ, nilQ, nilQ, nilQ, nilQ]

structure BagQ (w : World) (g : Nat) (V : QV) (L : QL) (B : Nat) : Prop where
  row : w.heap[g]? = some (.cells (bagQ V) 63 (0, 0))
  b : w.ownsRow B 28 1 V.b L.b.length L.b
  i : w.ownsRow B 30 1 V.i L.i.length L.i
  a : w.ownsRow B 29 1 V.a L.a.length L.a
  r : w.ownsRow B 31 1 V.r L.r.length L.r
  t : w.ownsRow B 145 1 V.t L.t.length L.t

theorem BagQ.new {w : World} {g B : Nat} (h : w.heap[g]? = some (.cells (bagQ QV.nil) 63 (0, 0))) : BagQ w g QV.nil QL.nil B :=
  ⟨h, ⟨rfl, .inl ⟨rfl, rfl⟩⟩, ⟨rfl, .inl ⟨rfl, rfl⟩⟩, ⟨rfl, .inl ⟨rfl, rfl⟩⟩, ⟨rfl, .inl ⟨rfl, rfl⟩⟩, ⟨rfl, .inl ⟨rfl, rfl⟩⟩⟩

theorem BagQ.kept {w w' : World} {g B : Nat} {V : QV} {L : QL} {S : Nat → Prop} (h : BagQ w g V L B) (hk : Kept w w' S) (hg : ¬ S g) (hS : ∀ k, V.own k → ¬ S k) : BagQ w' g V L B :=
  ⟨hk.heap h.row hg, row_kept h.b hk (fun k e => hS k (.inl e)), row_kept h.i hk (fun k e => hS k (.inr (.inl e))), row_kept h.a hk (fun k e => hS k (.inr (.inr (.inl e)))), row_kept h.r hk (fun k e => hS k (.inr (.inr (.inr (.inl e))))), row_kept h.t hk (fun k e => hS k (.inr (.inr (.inr (.inr e)))))⟩
theorem BagQ.owns {w : World} {g B : Nat} {V : QV} {L : QL} (h : BagQ w g V L B) {k : Nat} (hk : V.own k) : B ≤ k ∧ k < w.heap.size := by
  rcases hk with e | e | e | e | e
  · exact ⟨row_base h.b e, row_lt h.b e⟩
  · exact ⟨row_base h.i e, row_lt h.i e⟩
  · exact ⟨row_base h.a e, row_lt h.a e⟩
  · exact ⟨row_base h.r e, row_lt h.r e⟩
  · exact ⟨row_base h.t e, row_lt h.t e⟩

/-- What a call that adds lists changes: the Bag, and its own rows. -/
structure BagStep (w w' : World) (g : Nat) (V V' : QV) : Prop where
  kept : Kept w w' (fun k => k = g ∨ V.own k)
  own : ∀ k, V'.own k → V.own k ∨ w.heap.size ≤ k
theorem BagStep.refl (w : World) (g : Nat) (V : QV) : BagStep w w g V V := ⟨Kept.refl _ _, fun _ h => .inl h⟩
theorem BagStep.trans {w w1 w2 : World} {g : Nat} {V V1 V2 : QV} (h : BagStep w w1 g V V1) (h' : BagStep w1 w2 g V1 V2) : BagStep w w2 g V V2 := by
  refine ⟨h.kept.trans h'.kept (fun k hk e => ?_), fun k e => ?_⟩
  · rcases e with e | e
    · exact .inl e
    · rcases h.own k e with e | e
      · exact .inr e
      · omega
  · have hs := h.kept.size
    rcases h'.own k e with e | e
    · exact h.own k e
    · exact .inr (by omega)

/-- A block of another kind is not this row's. -/
theorem row_notQ {w : World} {g B : Nat} {v : Value} {n z : Nat} {xs : List Value} {T E : TypeId} {cs : Array Value} {fr : Nat × Nat} (h : w.ownsRow B E z v n xs) (hr : w.heap[g]? = some (.cells cs T fr)) (hTE : T ≠ E) : v.ownBlock ≠ some g := by
  intro e
  obtain ⟨cs', e'⟩ := row_type h e
  rw [hr] at e'
  simp at e'
  exact hTE e'.2.1

theorem bagQ_cells {w : World} {g : Nat} {V : QV} (h : w.heap[g]? = some (.cells (bagQ V) 63 (0, 0))) : ∀ j, j < 21 → w.cell? ⟨g, j, none⟩ = (bagQ V)[j]? := fun j _ => cell_of_row w g j _ _ _ h

/-- The append and the store of one more list. -/
theorem BagQ.putBytes {w : World} {g B : Nat} {vb vi va vr vt : Value} {lb li la lr lt : List Value} (pa : Option Addr) (pn pc : Nat) (h : BagQ w g ⟨vb, vi, va, vr, vt⟩ ⟨lb, li, la, lr, lt⟩ B) (hn : lb.length < 600) (hB : B ≤ w.heap.size) :
    ∃ ao cap ao' n' cap' w1, vb = .slice ao lb.length cap ∧ (Builtin.append_ #[41, 41] 41 #[vb, .slice (some ⟨w.heap.size, 0, none⟩) 1 1]).run Tryz.prog (w.alloc (.cells #[.slice pa pn pc] 28)) = .ok (.slice ao' n' cap') w1 ∧
      w.cell? ⟨g, 0, none⟩ = some vb ∧ w1.cell? ⟨g, 0, none⟩ = some vb ∧ w1.frozen? ⟨g, 0, none⟩ = false ∧ g < w1.heap.size ∧ g < w.heap.size ∧
      BagQ (w1.setCell ⟨g, 0, none⟩ (.slice ao' n' cap')) g ⟨(.slice ao' n' cap'), vi, va, vr, vt⟩ ⟨lb ++ [.slice pa pn pc], li, la, lr, lt⟩ B ∧ BagStep w (w1.setCell ⟨g, 0, none⟩ (.slice ao' n' cap')) g ⟨vb, vi, va, vr, vt⟩ ⟨(.slice ao' n' cap'), vi, va, vr, vt⟩ := by
  obtain ⟨i1, gi, gz0, gz1, gz2⟩ := info_parts Tryz.infoBytes
  have hb : w.ownsRow B 28 1 vb lb.length lb := h.b
  have hgw : g < w.heap.size := lt_of_block h.row
  have hna := row_notQ hb h.row (by decide)
  have hk0 : Kept w (w.alloc (.cells #[.slice pa pn pc] 28)) (fun _ => False) := (Kept.refl w _).alloc _
  obtain ⟨v', w1, hr, hown, hgrow, hcase⟩ := app_row (P := Tryz.prog) B 41 41 28 i1 (.slice none 0 0) 1 24 Tryz.underlying41 gi gz0 gz1 gz2 rfl (by decide) _ _ _ (row_kept hb hk0 (fun _ _ h => h)) w.heap.size [.slice pa pn pc] rfl (heap_alloc_new _ _) (by simp [Value.oneCell']) (by omega) (by decide) (Nat.le_trans hB hk0.size)
  have hk1 : Kept w w1 (fun k => vb.ownBlock = some k) := (hk0.mono (fun _ _ h => h.elim)).trans ⟨hgrow.os, hgrow.tape, hgrow.output, hgrow.size, fun k hk hne => hgrow.block k hk (fun e => hne e.symm)⟩ (fun _ _ h => h)
  have hrow1 := hk1.heap h.row hna
  have hnew : NewRow w vb v' := by
    rcases hcase with ⟨g2, cp, e1, rfl⟩ | ⟨e, _⟩
    · exact .inl (by rw [e1]; rfl)
    · exact .inr ⟨_, e, by simp⟩
  obtain ⟨ao, cap, hv⟩ : ∃ ao cap, vb = .slice ao lb.length cap := row_val hb
  obtain ⟨ao', n', cap', rfl⟩ := row_form hown
  have hks : Kept w1 (w1.setCell ⟨g, 0, none⟩ (.slice ao' n' cap')) (fun k => k = g) := Kept.setCell (S := fun k => k = g) (Kept.refl w1 _) ⟨g, 0, none⟩ _ (fun _ => rfl)
  refine ⟨ao, cap, ao', n', cap', w1, hv, hr, by rw [bagQ_cells h.row 0 (by omega)]; rfl, by rw [bagQ_cells hrow1 0 (by omega)]; rfl, frozen_of_row w1 g 0 _ _ hrow1, lt_of_block hrow1, hgw, ⟨?_, ?_, ?_, ?_, ?_, ?_⟩, ?_⟩
  · rw [setCell_eq_setRow w1 g 0 _ _ _ _ hrow1, setRow_heap w1 g _ _ _ _ hrow1]; rfl
  · show World.ownsRow _ B 28 1 (.slice ao' n' cap') (lb ++ [Value.slice pa pn pc]).length (lb ++ [.slice pa pn pc])
    rw [List.length_append]
    exact row_kept hown hks (fun k hv e => by subst e; exact row_notQ hown hrow1 (by decide) hv)
  · exact row_kept (row_kept h.i hk1 (type_ne (by decide) h.i hb)) hks (fun k hv e => by subst e; exact row_notQ h.i h.row (by decide) hv)
  · exact row_kept (row_kept h.a hk1 (type_ne (by decide) h.a hb)) hks (fun k hv e => by subst e; exact row_notQ h.a h.row (by decide) hv)
  · exact row_kept (row_kept h.r hk1 (type_ne (by decide) h.r hb)) hks (fun k hv e => by subst e; exact row_notQ h.r h.row (by decide) hv)
  · exact row_kept (row_kept h.t hk1 (type_ne (by decide) h.t hb)) hks (fun k hv e => by subst e; exact row_notQ h.t h.row (by decide) hv)
  · refine ⟨(hk1.mono (fun _ _ h => .inr (.inl h))).trans hks (fun _ _ h => .inl h), fun k e => ?_⟩
    rcases e with e | e | e | e | e
    · rcases hnew with hnew | ⟨k', hnew, hk'⟩
      · exact .inl (.inl (hnew ▸ e))
      · have e' : k' = k := by
          have e2 : (Value.slice ao' n' cap').ownBlock = some k := e
          rw [hnew] at e2
          exact Option.some.inj e2
        exact .inr (by omega)
    · exact .inl (.inr (.inl e))
    · exact .inl (.inr (.inr (.inl e)))
    · exact .inl (.inr (.inr (.inr (.inl e))))
    · exact .inl (.inr (.inr (.inr (.inr e))))

set_option maxHeartbeats 400000 in
theorem addBytes_q (g : Nat) (vb vi va vr vt : Value) (lb li la lr lt : List Value) (B : Nat) (pa : Option Addr) (pn pc : Nat) (w : World) (h : BagQ w g ⟨vb, vi, va, vr, vt⟩ ⟨lb, li, la, lr, lt⟩ B) (hn : lb.length < 600) (hB : B ≤ w.heap.size) :
    Calls Tryz.prog 26 #[.pointer (some ⟨g, 0, none⟩), .slice pa pn pc] w fun e w' => e = .returned (.tuple #[]) ∧ ∃ V', BagQ w' g V' ⟨lb ++ [.slice pa pn pc], li, la, lr, lt⟩ B ∧ BagStep w w' g ⟨vb, vi, va, vr, vt⟩ V' := by
  obtain ⟨ao, cap, ao', n', cap', w1, rfl, hr, c0, c1, f1, l1, l0, hQ, hS⟩ := h.putBytes pa pn pc hn hB
  have HR : Hid _ := And.intro hQ hS
  have hd : decide ((lb.length : Int) < 600) = true := by simp; omega
  clear h hQ hS
  go_enter Tryz.func26, Tryz.ntmps26
  go_wp2_with (at_builtin; refine Lib.wpList_append_run_sl _ rfl _ _ 41 rfl _ _ rfl rfl hr ?_)
  go_end0
  exact ⟨rfl, _, HR.out⟩

theorem addBytes_qfull (g : Nat) (vb vi va vr vt : Value) (lb li la lr lt : List Value) (B : Nat) (pa : Option Addr) (pn pc : Nat) (w : World) (h : BagQ w g ⟨vb, vi, va, vr, vt⟩ ⟨lb, li, la, lr, lt⟩ B) (hn : 600 ≤ lb.length) :
    Calls Tryz.prog 26 #[.pointer (some ⟨g, 0, none⟩), .slice pa pn pc] w fun e w' => e = .returned (.tuple #[]) ∧ w' = w := by
  have c0 : w.cell? ⟨g, 0, none⟩ = some vb := by rw [bagQ_cells h.row 0 (by omega)]; rfl
  have hb : w.ownsRow B 28 1 vb lb.length lb := h.b
  obtain ⟨ao, cap, rfl⟩ : ∃ ao cap, vb = .slice ao lb.length cap := row_val hb
  have hgw : g < w.heap.size := lt_of_block h.row
  have hd : decide ((lb.length : Int) < 600) = false := by simp; omega
  clear h hb
  go_enter Tryz.func26, Tryz.ntmps26
  go_wp2
  go_end0
  exact ⟨rfl, rfl⟩

/-- One more list, where there is room. -/
theorem addBytes_more (g : Nat) (V : QV) (L : QL) (B : Nat) (pa : Option Addr) (pn pc : Nat) (w : World) (h : BagQ w g V L.cut B) (hB : B ≤ w.heap.size) :
    Calls Tryz.prog 26 #[.pointer (some ⟨g, 0, none⟩), .slice pa pn pc] w fun e w' => e = .returned (.tuple #[]) ∧ ∃ V', BagQ w' g V' (L.add ⟨[.slice pa pn pc], [], [], [], []⟩).cut B ∧ BagStep w w' g V V' := by
  obtain ⟨vb, vi, va, vr, vt⟩ := V
  obtain ⟨lb, li, la, lr, lt⟩ := L
  by_cases hl : lb.length < 600
  · have e : ((QL.mk lb li la lr lt).add ⟨[.slice pa pn pc], [], [], [], []⟩).cut = ⟨lb.take 600 ++ [.slice pa pn pc], li.take 600, la.take 600, lr.take 600, lt.take 600⟩ := by
      have e1 : (lb ++ [Value.slice pa pn pc]).take 600 = lb.take 600 ++ [Value.slice pa pn pc] := by
        rw [List.take_of_length_le (by simp; omega), List.take_of_length_le (by omega)]
      simp only [QL.add, QL.cut, List.append_nil, e1]
    rw [e]
    exact addBytes_q g vb vi va vr vt _ _ _ _ _ B pa pn pc w h (by show (lb.take 600).length < 600; rw [List.length_take]; omega) hB
  · have e : ((QL.mk lb li la lr lt).add ⟨[.slice pa pn pc], [], [], [], []⟩).cut = (QL.mk lb li la lr lt).cut := by
      have e1 : (lb ++ [Value.slice pa pn pc]).take 600 = lb.take 600 := by rw [List.take_append_of_le_length (by omega)]
      simp only [QL.add, QL.cut, List.append_nil, e1]
    rw [e]
    refine (addBytes_qfull g vb vi va vr vt _ _ _ _ _ B pa pn pc w h (by show 600 ≤ (lb.take 600).length; rw [List.length_take]; omega)).mono ?_
    rintro e w' ⟨rfl, rfl⟩
    exact ⟨rfl, _, h, BagStep.refl _ _ _⟩

/-- The append and the store of one more list. -/
theorem BagQ.putIds {w : World} {g B : Nat} {vb vi va vr vt : Value} {lb li la lr lt : List Value} (pa : Option Addr) (pn pc : Nat) (h : BagQ w g ⟨vb, vi, va, vr, vt⟩ ⟨lb, li, la, lr, lt⟩ B) (hn : li.length < 600) (hB : B ≤ w.heap.size) :
    ∃ ao cap ao' n' cap' w1, vi = .slice ao li.length cap ∧ (Builtin.append_ #[45, 45] 45 #[vi, .slice (some ⟨w.heap.size, 0, none⟩) 1 1]).run Tryz.prog (w.alloc (.cells #[.slice pa pn pc] 30)) = .ok (.slice ao' n' cap') w1 ∧
      w.cell? ⟨g, 4, none⟩ = some vi ∧ w1.cell? ⟨g, 4, none⟩ = some vi ∧ w1.frozen? ⟨g, 4, none⟩ = false ∧ g < w1.heap.size ∧ g < w.heap.size ∧
      BagQ (w1.setCell ⟨g, 4, none⟩ (.slice ao' n' cap')) g ⟨vb, (.slice ao' n' cap'), va, vr, vt⟩ ⟨lb, li ++ [.slice pa pn pc], la, lr, lt⟩ B ∧ BagStep w (w1.setCell ⟨g, 4, none⟩ (.slice ao' n' cap')) g ⟨vb, vi, va, vr, vt⟩ ⟨vb, (.slice ao' n' cap'), va, vr, vt⟩ := by
  obtain ⟨i1, gi, gz0, gz1, gz2⟩ := info3B Tryz.infoIL
  have hb : w.ownsRow B 30 1 vi li.length li := h.i
  have hgw : g < w.heap.size := lt_of_block h.row
  have hna := row_notQ hb h.row (by decide)
  have hk0 : Kept w (w.alloc (.cells #[.slice pa pn pc] 30)) (fun _ => False) := (Kept.refl w _).alloc _
  obtain ⟨v', w1, hr, hown, hgrow, hcase⟩ := app_row (P := Tryz.prog) B 45 45 30 i1 (.slice none 0 0) 1 24 Tryz.underlying45 gi gz0 gz1 gz2 rfl (by decide) _ _ _ (row_kept hb hk0 (fun _ _ h => h)) w.heap.size [.slice pa pn pc] rfl (heap_alloc_new _ _) (by simp [Value.oneCell']) (by omega) (by decide) (Nat.le_trans hB hk0.size)
  have hk1 : Kept w w1 (fun k => vi.ownBlock = some k) := (hk0.mono (fun _ _ h => h.elim)).trans ⟨hgrow.os, hgrow.tape, hgrow.output, hgrow.size, fun k hk hne => hgrow.block k hk (fun e => hne e.symm)⟩ (fun _ _ h => h)
  have hrow1 := hk1.heap h.row hna
  have hnew : NewRow w vi v' := by
    rcases hcase with ⟨g2, cp, e1, rfl⟩ | ⟨e, _⟩
    · exact .inl (by rw [e1]; rfl)
    · exact .inr ⟨_, e, by simp⟩
  obtain ⟨ao, cap, hv⟩ : ∃ ao cap, vi = .slice ao li.length cap := row_val hb
  obtain ⟨ao', n', cap', rfl⟩ := row_form hown
  have hks : Kept w1 (w1.setCell ⟨g, 4, none⟩ (.slice ao' n' cap')) (fun k => k = g) := Kept.setCell (S := fun k => k = g) (Kept.refl w1 _) ⟨g, 4, none⟩ _ (fun _ => rfl)
  refine ⟨ao, cap, ao', n', cap', w1, hv, hr, by rw [bagQ_cells h.row 4 (by omega)]; rfl, by rw [bagQ_cells hrow1 4 (by omega)]; rfl, frozen_of_row w1 g 4 _ _ hrow1, lt_of_block hrow1, hgw, ⟨?_, ?_, ?_, ?_, ?_, ?_⟩, ?_⟩
  · rw [setCell_eq_setRow w1 g 4 _ _ _ _ hrow1, setRow_heap w1 g _ _ _ _ hrow1]; rfl
  · exact row_kept (row_kept h.b hk1 (type_ne (by decide) h.b hb)) hks (fun k hv e => by subst e; exact row_notQ h.b h.row (by decide) hv)
  · show World.ownsRow _ B 30 1 (.slice ao' n' cap') (li ++ [Value.slice pa pn pc]).length (li ++ [.slice pa pn pc])
    rw [List.length_append]
    exact row_kept hown hks (fun k hv e => by subst e; exact row_notQ hown hrow1 (by decide) hv)
  · exact row_kept (row_kept h.a hk1 (type_ne (by decide) h.a hb)) hks (fun k hv e => by subst e; exact row_notQ h.a h.row (by decide) hv)
  · exact row_kept (row_kept h.r hk1 (type_ne (by decide) h.r hb)) hks (fun k hv e => by subst e; exact row_notQ h.r h.row (by decide) hv)
  · exact row_kept (row_kept h.t hk1 (type_ne (by decide) h.t hb)) hks (fun k hv e => by subst e; exact row_notQ h.t h.row (by decide) hv)
  · refine ⟨(hk1.mono (fun _ _ h => .inr (.inr (.inl h)))).trans hks (fun _ _ h => .inl h), fun k e => ?_⟩
    rcases e with e | e | e | e | e
    · exact .inl (.inl e)
    · rcases hnew with hnew | ⟨k', hnew, hk'⟩
      · exact .inl (.inr (.inl (hnew ▸ e)))
      · have e' : k' = k := by
          have e2 : (Value.slice ao' n' cap').ownBlock = some k := e
          rw [hnew] at e2
          exact Option.some.inj e2
        exact .inr (by omega)
    · exact .inl (.inr (.inr (.inl e)))
    · exact .inl (.inr (.inr (.inr (.inl e))))
    · exact .inl (.inr (.inr (.inr (.inr e))))

set_option maxHeartbeats 400000 in
theorem addIds_q (g : Nat) (vb vi va vr vt : Value) (lb li la lr lt : List Value) (B : Nat) (pa : Option Addr) (pn pc : Nat) (w : World) (h : BagQ w g ⟨vb, vi, va, vr, vt⟩ ⟨lb, li, la, lr, lt⟩ B) (hn : li.length < 600) (hB : B ≤ w.heap.size) :
    Calls Tryz.prog 28 #[.pointer (some ⟨g, 0, none⟩), .slice pa pn pc] w fun e w' => e = .returned (.tuple #[]) ∧ ∃ V', BagQ w' g V' ⟨lb, li ++ [.slice pa pn pc], la, lr, lt⟩ B ∧ BagStep w w' g ⟨vb, vi, va, vr, vt⟩ V' := by
  obtain ⟨ao, cap, ao', n', cap', w1, rfl, hr, c0, c1, f1, l1, l0, hQ, hS⟩ := h.putIds pa pn pc hn hB
  have HR : Hid _ := And.intro hQ hS
  have hd : decide ((li.length : Int) < 600) = true := by simp; omega
  clear h hQ hS
  go_enter Tryz.func28, Tryz.ntmps28
  go_wp2_with (at_builtin; refine Lib.wpList_append_run_sl _ rfl _ _ 45 rfl _ _ rfl rfl hr ?_)
  go_end0
  exact ⟨rfl, _, HR.out⟩

theorem addIds_qfull (g : Nat) (vb vi va vr vt : Value) (lb li la lr lt : List Value) (B : Nat) (pa : Option Addr) (pn pc : Nat) (w : World) (h : BagQ w g ⟨vb, vi, va, vr, vt⟩ ⟨lb, li, la, lr, lt⟩ B) (hn : 600 ≤ li.length) :
    Calls Tryz.prog 28 #[.pointer (some ⟨g, 0, none⟩), .slice pa pn pc] w fun e w' => e = .returned (.tuple #[]) ∧ w' = w := by
  have c0 : w.cell? ⟨g, 4, none⟩ = some vi := by rw [bagQ_cells h.row 4 (by omega)]; rfl
  have hb : w.ownsRow B 30 1 vi li.length li := h.i
  obtain ⟨ao, cap, rfl⟩ : ∃ ao cap, vi = .slice ao li.length cap := row_val hb
  have hgw : g < w.heap.size := lt_of_block h.row
  have hd : decide ((li.length : Int) < 600) = false := by simp; omega
  clear h hb
  go_enter Tryz.func28, Tryz.ntmps28
  go_wp2
  go_end0
  exact ⟨rfl, rfl⟩

/-- One more list, where there is room. -/
theorem addIds_more (g : Nat) (V : QV) (L : QL) (B : Nat) (pa : Option Addr) (pn pc : Nat) (w : World) (h : BagQ w g V L.cut B) (hB : B ≤ w.heap.size) :
    Calls Tryz.prog 28 #[.pointer (some ⟨g, 0, none⟩), .slice pa pn pc] w fun e w' => e = .returned (.tuple #[]) ∧ ∃ V', BagQ w' g V' (L.add ⟨[], [.slice pa pn pc], [], [], []⟩).cut B ∧ BagStep w w' g V V' := by
  obtain ⟨vb, vi, va, vr, vt⟩ := V
  obtain ⟨lb, li, la, lr, lt⟩ := L
  by_cases hl : li.length < 600
  · have e : ((QL.mk lb li la lr lt).add ⟨[], [.slice pa pn pc], [], [], []⟩).cut = ⟨lb.take 600, li.take 600 ++ [.slice pa pn pc], la.take 600, lr.take 600, lt.take 600⟩ := by
      have e1 : (li ++ [Value.slice pa pn pc]).take 600 = li.take 600 ++ [Value.slice pa pn pc] := by
        rw [List.take_of_length_le (by simp; omega), List.take_of_length_le (by omega)]
      simp only [QL.add, QL.cut, List.append_nil, e1]
    rw [e]
    exact addIds_q g vb vi va vr vt _ _ _ _ _ B pa pn pc w h (by show (li.take 600).length < 600; rw [List.length_take]; omega) hB
  · have e : ((QL.mk lb li la lr lt).add ⟨[], [.slice pa pn pc], [], [], []⟩).cut = (QL.mk lb li la lr lt).cut := by
      have e1 : (li ++ [Value.slice pa pn pc]).take 600 = li.take 600 := by rw [List.take_append_of_le_length (by omega)]
      simp only [QL.add, QL.cut, List.append_nil, e1]
    rw [e]
    refine (addIds_qfull g vb vi va vr vt _ _ _ _ _ B pa pn pc w h (by show 600 ≤ (li.take 600).length; rw [List.length_take]; omega)).mono ?_
    rintro e w' ⟨rfl, rfl⟩
    exact ⟨rfl, _, h, BagStep.refl _ _ _⟩

/-- The append and the store of one more list. -/
theorem BagQ.putAcl {w : World} {g B : Nat} {vb vi va vr vt : Value} {lb li la lr lt : List Value} (pa : Option Addr) (pn pc : Nat) (h : BagQ w g ⟨vb, vi, va, vr, vt⟩ ⟨lb, li, la, lr, lt⟩ B) (hn : la.length < 600) (hB : B ≤ w.heap.size) :
    ∃ ao cap ao' n' cap' w1, va = .slice ao la.length cap ∧ (Builtin.append_ #[46, 46] 46 #[va, .slice (some ⟨w.heap.size, 0, none⟩) 1 1]).run Tryz.prog (w.alloc (.cells #[.slice pa pn pc] 29)) = .ok (.slice ao' n' cap') w1 ∧
      w.cell? ⟨g, 5, none⟩ = some va ∧ w1.cell? ⟨g, 5, none⟩ = some va ∧ w1.frozen? ⟨g, 5, none⟩ = false ∧ g < w1.heap.size ∧ g < w.heap.size ∧
      BagQ (w1.setCell ⟨g, 5, none⟩ (.slice ao' n' cap')) g ⟨vb, vi, (.slice ao' n' cap'), vr, vt⟩ ⟨lb, li, la ++ [.slice pa pn pc], lr, lt⟩ B ∧ BagStep w (w1.setCell ⟨g, 5, none⟩ (.slice ao' n' cap')) g ⟨vb, vi, va, vr, vt⟩ ⟨vb, vi, (.slice ao' n' cap'), vr, vt⟩ := by
  obtain ⟨i1, gi, gz0, gz1, gz2⟩ := info3B Tryz.infoEL
  have hb : w.ownsRow B 29 1 va la.length la := h.a
  have hgw : g < w.heap.size := lt_of_block h.row
  have hna := row_notQ hb h.row (by decide)
  have hk0 : Kept w (w.alloc (.cells #[.slice pa pn pc] 29)) (fun _ => False) := (Kept.refl w _).alloc _
  obtain ⟨v', w1, hr, hown, hgrow, hcase⟩ := app_row (P := Tryz.prog) B 46 46 29 i1 (.slice none 0 0) 1 24 Tryz.underlying46 gi gz0 gz1 gz2 rfl (by decide) _ _ _ (row_kept hb hk0 (fun _ _ h => h)) w.heap.size [.slice pa pn pc] rfl (heap_alloc_new _ _) (by simp [Value.oneCell']) (by omega) (by decide) (Nat.le_trans hB hk0.size)
  have hk1 : Kept w w1 (fun k => va.ownBlock = some k) := (hk0.mono (fun _ _ h => h.elim)).trans ⟨hgrow.os, hgrow.tape, hgrow.output, hgrow.size, fun k hk hne => hgrow.block k hk (fun e => hne e.symm)⟩ (fun _ _ h => h)
  have hrow1 := hk1.heap h.row hna
  have hnew : NewRow w va v' := by
    rcases hcase with ⟨g2, cp, e1, rfl⟩ | ⟨e, _⟩
    · exact .inl (by rw [e1]; rfl)
    · exact .inr ⟨_, e, by simp⟩
  obtain ⟨ao, cap, hv⟩ : ∃ ao cap, va = .slice ao la.length cap := row_val hb
  obtain ⟨ao', n', cap', rfl⟩ := row_form hown
  have hks : Kept w1 (w1.setCell ⟨g, 5, none⟩ (.slice ao' n' cap')) (fun k => k = g) := Kept.setCell (S := fun k => k = g) (Kept.refl w1 _) ⟨g, 5, none⟩ _ (fun _ => rfl)
  refine ⟨ao, cap, ao', n', cap', w1, hv, hr, by rw [bagQ_cells h.row 5 (by omega)]; rfl, by rw [bagQ_cells hrow1 5 (by omega)]; rfl, frozen_of_row w1 g 5 _ _ hrow1, lt_of_block hrow1, hgw, ⟨?_, ?_, ?_, ?_, ?_, ?_⟩, ?_⟩
  · rw [setCell_eq_setRow w1 g 5 _ _ _ _ hrow1, setRow_heap w1 g _ _ _ _ hrow1]; rfl
  · exact row_kept (row_kept h.b hk1 (type_ne (by decide) h.b hb)) hks (fun k hv e => by subst e; exact row_notQ h.b h.row (by decide) hv)
  · exact row_kept (row_kept h.i hk1 (type_ne (by decide) h.i hb)) hks (fun k hv e => by subst e; exact row_notQ h.i h.row (by decide) hv)
  · show World.ownsRow _ B 29 1 (.slice ao' n' cap') (la ++ [Value.slice pa pn pc]).length (la ++ [.slice pa pn pc])
    rw [List.length_append]
    exact row_kept hown hks (fun k hv e => by subst e; exact row_notQ hown hrow1 (by decide) hv)
  · exact row_kept (row_kept h.r hk1 (type_ne (by decide) h.r hb)) hks (fun k hv e => by subst e; exact row_notQ h.r h.row (by decide) hv)
  · exact row_kept (row_kept h.t hk1 (type_ne (by decide) h.t hb)) hks (fun k hv e => by subst e; exact row_notQ h.t h.row (by decide) hv)
  · refine ⟨(hk1.mono (fun _ _ h => .inr (.inr (.inr (.inl h))))).trans hks (fun _ _ h => .inl h), fun k e => ?_⟩
    rcases e with e | e | e | e | e
    · exact .inl (.inl e)
    · exact .inl (.inr (.inl e))
    · rcases hnew with hnew | ⟨k', hnew, hk'⟩
      · exact .inl (.inr (.inr (.inl (hnew ▸ e))))
      · have e' : k' = k := by
          have e2 : (Value.slice ao' n' cap').ownBlock = some k := e
          rw [hnew] at e2
          exact Option.some.inj e2
        exact .inr (by omega)
    · exact .inl (.inr (.inr (.inr (.inl e))))
    · exact .inl (.inr (.inr (.inr (.inr e))))

set_option maxHeartbeats 400000 in
theorem addAcl_q (g : Nat) (vb vi va vr vt : Value) (lb li la lr lt : List Value) (B : Nat) (pa : Option Addr) (pn pc : Nat) (w : World) (h : BagQ w g ⟨vb, vi, va, vr, vt⟩ ⟨lb, li, la, lr, lt⟩ B) (hn : la.length < 600) (hB : B ≤ w.heap.size) :
    Calls Tryz.prog 27 #[.pointer (some ⟨g, 0, none⟩), .slice pa pn pc] w fun e w' => e = .returned (.tuple #[]) ∧ ∃ V', BagQ w' g V' ⟨lb, li, la ++ [.slice pa pn pc], lr, lt⟩ B ∧ BagStep w w' g ⟨vb, vi, va, vr, vt⟩ V' := by
  obtain ⟨ao, cap, ao', n', cap', w1, rfl, hr, c0, c1, f1, l1, l0, hQ, hS⟩ := h.putAcl pa pn pc hn hB
  have HR : Hid _ := And.intro hQ hS
  have hd : decide ((la.length : Int) < 600) = true := by simp; omega
  clear h hQ hS
  go_enter Tryz.func27, Tryz.ntmps27
  go_wp2_with (at_builtin; refine Lib.wpList_append_run_sl _ rfl _ _ 46 rfl _ _ rfl rfl hr ?_)
  go_end0
  exact ⟨rfl, _, HR.out⟩

theorem addAcl_qfull (g : Nat) (vb vi va vr vt : Value) (lb li la lr lt : List Value) (B : Nat) (pa : Option Addr) (pn pc : Nat) (w : World) (h : BagQ w g ⟨vb, vi, va, vr, vt⟩ ⟨lb, li, la, lr, lt⟩ B) (hn : 600 ≤ la.length) :
    Calls Tryz.prog 27 #[.pointer (some ⟨g, 0, none⟩), .slice pa pn pc] w fun e w' => e = .returned (.tuple #[]) ∧ w' = w := by
  have c0 : w.cell? ⟨g, 5, none⟩ = some va := by rw [bagQ_cells h.row 5 (by omega)]; rfl
  have hb : w.ownsRow B 29 1 va la.length la := h.a
  obtain ⟨ao, cap, rfl⟩ : ∃ ao cap, va = .slice ao la.length cap := row_val hb
  have hgw : g < w.heap.size := lt_of_block h.row
  have hd : decide ((la.length : Int) < 600) = false := by simp; omega
  clear h hb
  go_enter Tryz.func27, Tryz.ntmps27
  go_wp2
  go_end0
  exact ⟨rfl, rfl⟩

/-- One more list, where there is room. -/
theorem addAcl_more (g : Nat) (V : QV) (L : QL) (B : Nat) (pa : Option Addr) (pn pc : Nat) (w : World) (h : BagQ w g V L.cut B) (hB : B ≤ w.heap.size) :
    Calls Tryz.prog 27 #[.pointer (some ⟨g, 0, none⟩), .slice pa pn pc] w fun e w' => e = .returned (.tuple #[]) ∧ ∃ V', BagQ w' g V' (L.add ⟨[], [], [.slice pa pn pc], [], []⟩).cut B ∧ BagStep w w' g V V' := by
  obtain ⟨vb, vi, va, vr, vt⟩ := V
  obtain ⟨lb, li, la, lr, lt⟩ := L
  by_cases hl : la.length < 600
  · have e : ((QL.mk lb li la lr lt).add ⟨[], [], [.slice pa pn pc], [], []⟩).cut = ⟨lb.take 600, li.take 600, la.take 600 ++ [.slice pa pn pc], lr.take 600, lt.take 600⟩ := by
      have e1 : (la ++ [Value.slice pa pn pc]).take 600 = la.take 600 ++ [Value.slice pa pn pc] := by
        rw [List.take_of_length_le (by simp; omega), List.take_of_length_le (by omega)]
      simp only [QL.add, QL.cut, List.append_nil, e1]
    rw [e]
    exact addAcl_q g vb vi va vr vt _ _ _ _ _ B pa pn pc w h (by show (la.take 600).length < 600; rw [List.length_take]; omega) hB
  · have e : ((QL.mk lb li la lr lt).add ⟨[], [], [.slice pa pn pc], [], []⟩).cut = (QL.mk lb li la lr lt).cut := by
      have e1 : (la ++ [Value.slice pa pn pc]).take 600 = la.take 600 := by rw [List.take_append_of_le_length (by omega)]
      simp only [QL.add, QL.cut, List.append_nil, e1]
    rw [e]
    refine (addAcl_qfull g vb vi va vr vt _ _ _ _ _ B pa pn pc w h (by show 600 ≤ (la.take 600).length; rw [List.length_take]; omega)).mono ?_
    rintro e w' ⟨rfl, rfl⟩
    exact ⟨rfl, _, h, BagStep.refl _ _ _⟩

/-- The append and the store of one more list. -/
theorem BagQ.putRequests {w : World} {g B : Nat} {vb vi va vr vt : Value} {lb li la lr lt : List Value} (pa : Option Addr) (pn pc : Nat) (h : BagQ w g ⟨vb, vi, va, vr, vt⟩ ⟨lb, li, la, lr, lt⟩ B) (hn : lr.length < 600) (hB : B ≤ w.heap.size) :
    ∃ ao cap ao' n' cap' w1, vr = .slice ao lr.length cap ∧ (Builtin.append_ #[47, 47] 47 #[vr, .slice (some ⟨w.heap.size, 0, none⟩) 1 1]).run Tryz.prog (w.alloc (.cells #[.slice pa pn pc] 31)) = .ok (.slice ao' n' cap') w1 ∧
      w.cell? ⟨g, 6, none⟩ = some vr ∧ w1.cell? ⟨g, 6, none⟩ = some vr ∧ w1.frozen? ⟨g, 6, none⟩ = false ∧ g < w1.heap.size ∧ g < w.heap.size ∧
      BagQ (w1.setCell ⟨g, 6, none⟩ (.slice ao' n' cap')) g ⟨vb, vi, va, (.slice ao' n' cap'), vt⟩ ⟨lb, li, la, lr ++ [.slice pa pn pc], lt⟩ B ∧ BagStep w (w1.setCell ⟨g, 6, none⟩ (.slice ao' n' cap')) g ⟨vb, vi, va, vr, vt⟩ ⟨vb, vi, va, (.slice ao' n' cap'), vt⟩ := by
  obtain ⟨i1, gi, gz0, gz1, gz2⟩ := info3B Tryz.infoRqL
  have hb : w.ownsRow B 31 1 vr lr.length lr := h.r
  have hgw : g < w.heap.size := lt_of_block h.row
  have hna := row_notQ hb h.row (by decide)
  have hk0 : Kept w (w.alloc (.cells #[.slice pa pn pc] 31)) (fun _ => False) := (Kept.refl w _).alloc _
  obtain ⟨v', w1, hr, hown, hgrow, hcase⟩ := app_row (P := Tryz.prog) B 47 47 31 i1 (.slice none 0 0) 1 24 Tryz.underlying47 gi gz0 gz1 gz2 rfl (by decide) _ _ _ (row_kept hb hk0 (fun _ _ h => h)) w.heap.size [.slice pa pn pc] rfl (heap_alloc_new _ _) (by simp [Value.oneCell']) (by omega) (by decide) (Nat.le_trans hB hk0.size)
  have hk1 : Kept w w1 (fun k => vr.ownBlock = some k) := (hk0.mono (fun _ _ h => h.elim)).trans ⟨hgrow.os, hgrow.tape, hgrow.output, hgrow.size, fun k hk hne => hgrow.block k hk (fun e => hne e.symm)⟩ (fun _ _ h => h)
  have hrow1 := hk1.heap h.row hna
  have hnew : NewRow w vr v' := by
    rcases hcase with ⟨g2, cp, e1, rfl⟩ | ⟨e, _⟩
    · exact .inl (by rw [e1]; rfl)
    · exact .inr ⟨_, e, by simp⟩
  obtain ⟨ao, cap, hv⟩ : ∃ ao cap, vr = .slice ao lr.length cap := row_val hb
  obtain ⟨ao', n', cap', rfl⟩ := row_form hown
  have hks : Kept w1 (w1.setCell ⟨g, 6, none⟩ (.slice ao' n' cap')) (fun k => k = g) := Kept.setCell (S := fun k => k = g) (Kept.refl w1 _) ⟨g, 6, none⟩ _ (fun _ => rfl)
  refine ⟨ao, cap, ao', n', cap', w1, hv, hr, by rw [bagQ_cells h.row 6 (by omega)]; rfl, by rw [bagQ_cells hrow1 6 (by omega)]; rfl, frozen_of_row w1 g 6 _ _ hrow1, lt_of_block hrow1, hgw, ⟨?_, ?_, ?_, ?_, ?_, ?_⟩, ?_⟩
  · rw [setCell_eq_setRow w1 g 6 _ _ _ _ hrow1, setRow_heap w1 g _ _ _ _ hrow1]; rfl
  · exact row_kept (row_kept h.b hk1 (type_ne (by decide) h.b hb)) hks (fun k hv e => by subst e; exact row_notQ h.b h.row (by decide) hv)
  · exact row_kept (row_kept h.i hk1 (type_ne (by decide) h.i hb)) hks (fun k hv e => by subst e; exact row_notQ h.i h.row (by decide) hv)
  · exact row_kept (row_kept h.a hk1 (type_ne (by decide) h.a hb)) hks (fun k hv e => by subst e; exact row_notQ h.a h.row (by decide) hv)
  · show World.ownsRow _ B 31 1 (.slice ao' n' cap') (lr ++ [Value.slice pa pn pc]).length (lr ++ [.slice pa pn pc])
    rw [List.length_append]
    exact row_kept hown hks (fun k hv e => by subst e; exact row_notQ hown hrow1 (by decide) hv)
  · exact row_kept (row_kept h.t hk1 (type_ne (by decide) h.t hb)) hks (fun k hv e => by subst e; exact row_notQ h.t h.row (by decide) hv)
  · refine ⟨(hk1.mono (fun _ _ h => .inr (.inr (.inr (.inr (.inl h)))))).trans hks (fun _ _ h => .inl h), fun k e => ?_⟩
    rcases e with e | e | e | e | e
    · exact .inl (.inl e)
    · exact .inl (.inr (.inl e))
    · exact .inl (.inr (.inr (.inl e)))
    · rcases hnew with hnew | ⟨k', hnew, hk'⟩
      · exact .inl (.inr (.inr (.inr (.inl (hnew ▸ e)))))
      · have e' : k' = k := by
          have e2 : (Value.slice ao' n' cap').ownBlock = some k := e
          rw [hnew] at e2
          exact Option.some.inj e2
        exact .inr (by omega)
    · exact .inl (.inr (.inr (.inr (.inr e))))

end Go.Proofs.YtoeialngbbfoeaaGreatDoor
