/- The statements' Bag that holds lists of ids and of entries alone: AddIds, AddAcl. -/
import Derived.Test.YtgoiefhhbgollaaGreatDoorBgFJ
import Derived.Test.YtgoiefhhbgollaaGreatDoorMemJ
import Derived.Maps.AppendAt
namespace Go.Proofs.YtgoiefhhbgollaaGreatDoor
open Go.RowKit Go.Shelf
set_option maxRecDepth 8000

abbrev nilB : Value := .slice none 0 0
/-- The cells of a Bag that holds lists of ids and of entries alone. -/
abbrev bagIA (iv av : Value) : Array Value := #[nilB, nilB, nilB, nilB, iv, av, nilB, nilB, nilB, nilB, nilB, nilB, nilB, nilB, nilB, nilB, nilB, nilB, nilB, nilB, nilB]

structure BagIA (w : World) (g : Nat) (iv av : Value) (ps qs : List Value) (B : Nat) : Prop where
  row : w.heap[g]? = some (.cells (bagIA iv av) 63 (0, 0))
  ids : w.ownsRow B 23 1 iv ps.length ps
  acl : w.ownsRow B 22 1 av qs.length qs

/-- A block of another kind is not this row's. -/
theorem row_not {w : World} {g B : Nat} {v : Value} {n z : Nat} {xs : List Value} {T E : TypeId} {cs : Array Value} {fr : Nat × Nat} (h : w.ownsRow B E z v n xs) (hr : w.heap[g]? = some (.cells cs T fr)) (hTE : T ≠ E) : v.ownBlock ≠ some g := by
  intro e
  obtain ⟨cs', e'⟩ := row_type h e
  rw [hr] at e'
  simp at e'
  exact hTE e'.2.1

theorem bagIA_c4 {w : World} {g : Nat} {iv av : Value} (h : w.heap[g]? = some (.cells (bagIA iv av) 63 (0, 0))) : w.cell? ⟨g, 4, none⟩ = some iv := by rw [cell_of_row w g 4 _ _ _ h]; rfl
theorem bagIA_c5 {w : World} {g : Nat} {iv av : Value} (h : w.heap[g]? = some (.cells (bagIA iv av) 63 (0, 0))) : w.cell? ⟨g, 5, none⟩ = some av := by rw [cell_of_row w g 5 _ _ _ h]; rfl

set_option maxHeartbeats 400000 in
theorem addIds_any (g : Nat) (iv av : Value) (ps qs : List Value) (B : Nat) (pa : Option Addr) (pn pc : Nat) (w : World) (h : BagIA w g iv av ps qs B) (hn : ps.length < 600) (hB : B ≤ w.heap.size) :
    Calls Tryz.prog 16 #[.pointer (some ⟨g, 0, none⟩), .slice pa pn pc] w fun e w' => e = .returned (.tuple #[]) ∧ ∃ v', BagIA w' g v' av (ps ++ [.slice pa pn pc]) qs B ∧ Kept w w' (fun k => k = g ∨ iv.ownBlock = some k) ∧ NewRow w iv v' := by
  obtain ⟨i1, gi, gz0, gz1, gz2⟩ := info3B Tryz.infoIL
  have c0 := bagIA_c4 h.row
  have f0 := frozen_of_row w g 4 _ _ h.row
  have H : Hid (BagIA w g iv av ps qs B) := h
  obtain ⟨ao, n, cap, hv⟩ : ∃ ao n cap, iv = .slice ao n cap ∧ n = ps.length := by
    rcases h.ids.2 with ⟨rfl, h0⟩ | ⟨g', c, cur, rfl, _⟩
    · exact ⟨none, 0, 0, rfl, h0.symm⟩
    · exact ⟨_, _, _, rfl, rfl⟩
  obtain ⟨rfl, rfl⟩ := hv
  have hgw : g < w.heap.size := lt_of_block h.row
  have hna := row_not h.ids h.row (by decide)
  have hk0 : Kept w (w.alloc (.cells #[.slice pa pn pc] 23)) (fun _ => False) := (Kept.refl w _).alloc _
  obtain ⟨v', w1, hr, hown, hgrow, hcase⟩ := app_row (P := Tryz.prog) B 45 45 23 i1 (.slice none 0 0) 1 24 Tryz.underlying45 gi gz0 gz1 gz2 rfl (by decide) _ _ _ (row_kept h.ids hk0 (fun _ _ h => h)) w.heap.size [.slice pa pn pc] rfl (heap_alloc_new _ _) (by simp [Value.oneCell']) (by omega) (by decide) (Nat.le_trans hB hk0.size)
  have hk1 : Kept w w1 (fun k => (Value.slice ao ps.length cap).ownBlock = some k) := (hk0.mono (fun _ _ h => h.elim)).trans ⟨hgrow.os, hgrow.tape, hgrow.output, hgrow.size, fun k hk hne => hgrow.block k hk (fun e => hne e.symm)⟩ (fun _ _ h => h)
  have hrow1 := hk1.heap h.row hna
  have hnew : NewRow w (.slice ao ps.length cap) v' := by
    rcases hcase with ⟨g2, cp, e1, rfl⟩ | ⟨e, _⟩
    · simp only [Value.slice.injEq] at e1
      exact .inl (by rw [e1.1]; rfl)
    · exact .inr ⟨_, e, by simp⟩
  have c1 := bagIA_c4 hrow1
  have f1 := frozen_of_row w1 g 4 _ _ hrow1
  obtain ⟨ao', n', cap', rfl⟩ := row_form hown
  have HR : Hid (BagIA (w1.setCell ⟨g, 4, none⟩ (.slice ao' n' cap')) g (.slice ao' n' cap') av (ps ++ [.slice pa pn pc]) qs B ∧ Kept w (w1.setCell ⟨g, 4, none⟩ (.slice ao' n' cap')) (fun k => k = g ∨ (Value.slice ao ps.length cap).ownBlock = some k) ∧ NewRow w (.slice ao ps.length cap) (.slice ao' n' cap')) := by
    have hks : Kept w1 (w1.setCell ⟨g, 4, none⟩ (.slice ao' n' cap')) (fun k => k = g) := (Kept.refl w1 _).setCell _ _ (fun _ => rfl)
    have hmine : (w1.setCell ⟨g, 4, none⟩ (.slice ao' n' cap')).ownsRow B 23 1 (.slice ao' n' cap') (ps ++ [Value.slice pa pn pc]).length (ps ++ [.slice pa pn pc]) := by
      rw [List.length_append]
      exact row_kept hown hks (fun k hv e => by subst e; exact row_not hown hrow1 (by decide) hv)
    have hother := row_kept (row_kept h.acl hk1 (type_ne (by decide) h.acl h.ids)) hks (fun k hv e => by subst e; exact row_not h.acl h.row (by decide) hv)
    refine ⟨⟨?_, hmine, hother⟩, (hk1.mono (fun _ _ h => .inr h)).trans hks (fun _ _ h => .inl h), hnew⟩
    rw [setCell_eq_setRow w1 g 4 _ _ _ _ hrow1, setRow_heap w1 g _ _ _ _ hrow1]; rfl
  clear h hna hk0 hown hgrow hcase hk1 hrow1 hnew
  go_enter Tryz.func16, Tryz.ntmps16
  go_wp2_with (at_builtin; refine Lib.wpList_append_run_sl _ rfl _ _ 45 rfl _ _ rfl rfl hr ?_)
  go_end0
  exact ⟨rfl, _, HR.out⟩

set_option maxHeartbeats 400000 in
theorem addAcl_any (g : Nat) (iv av : Value) (ps qs : List Value) (B : Nat) (pa : Option Addr) (pn pc : Nat) (w : World) (h : BagIA w g iv av ps qs B) (hn : qs.length < 600) (hB : B ≤ w.heap.size) :
    Calls Tryz.prog 15 #[.pointer (some ⟨g, 0, none⟩), .slice pa pn pc] w fun e w' => e = .returned (.tuple #[]) ∧ ∃ v', BagIA w' g iv v' ps (qs ++ [.slice pa pn pc]) B ∧ Kept w w' (fun k => k = g ∨ av.ownBlock = some k) ∧ NewRow w av v' := by
  obtain ⟨i1, gi, gz0, gz1, gz2⟩ := info3B Tryz.infoEL
  have c0 := bagIA_c5 h.row
  have f0 := frozen_of_row w g 5 _ _ h.row
  have H : Hid (BagIA w g iv av ps qs B) := h
  obtain ⟨ao, n, cap, hv⟩ : ∃ ao n cap, av = .slice ao n cap ∧ n = qs.length := by
    rcases h.acl.2 with ⟨rfl, h0⟩ | ⟨g', c, cur, rfl, _⟩
    · exact ⟨none, 0, 0, rfl, h0.symm⟩
    · exact ⟨_, _, _, rfl, rfl⟩
  obtain ⟨rfl, rfl⟩ := hv
  have hgw : g < w.heap.size := lt_of_block h.row
  have hna := row_not h.acl h.row (by decide)
  have hk0 : Kept w (w.alloc (.cells #[.slice pa pn pc] 22)) (fun _ => False) := (Kept.refl w _).alloc _
  obtain ⟨v', w1, hr, hown, hgrow, hcase⟩ := app_row (P := Tryz.prog) B 46 46 22 i1 (.slice none 0 0) 1 24 Tryz.underlying46 gi gz0 gz1 gz2 rfl (by decide) _ _ _ (row_kept h.acl hk0 (fun _ _ h => h)) w.heap.size [.slice pa pn pc] rfl (heap_alloc_new _ _) (by simp [Value.oneCell']) (by omega) (by decide) (Nat.le_trans hB hk0.size)
  have hk1 : Kept w w1 (fun k => (Value.slice ao qs.length cap).ownBlock = some k) := (hk0.mono (fun _ _ h => h.elim)).trans ⟨hgrow.os, hgrow.tape, hgrow.output, hgrow.size, fun k hk hne => hgrow.block k hk (fun e => hne e.symm)⟩ (fun _ _ h => h)
  have hrow1 := hk1.heap h.row hna
  have hnew : NewRow w (.slice ao qs.length cap) v' := by
    rcases hcase with ⟨g2, cp, e1, rfl⟩ | ⟨e, _⟩
    · simp only [Value.slice.injEq] at e1
      exact .inl (by rw [e1.1]; rfl)
    · exact .inr ⟨_, e, by simp⟩
  have c1 := bagIA_c5 hrow1
  have f1 := frozen_of_row w1 g 5 _ _ hrow1
  obtain ⟨ao', n', cap', rfl⟩ := row_form hown
  have HR : Hid (BagIA (w1.setCell ⟨g, 5, none⟩ (.slice ao' n' cap')) g iv (.slice ao' n' cap') ps (qs ++ [.slice pa pn pc]) B ∧ Kept w (w1.setCell ⟨g, 5, none⟩ (.slice ao' n' cap')) (fun k => k = g ∨ (Value.slice ao qs.length cap).ownBlock = some k) ∧ NewRow w (.slice ao qs.length cap) (.slice ao' n' cap')) := by
    have hks : Kept w1 (w1.setCell ⟨g, 5, none⟩ (.slice ao' n' cap')) (fun k => k = g) := (Kept.refl w1 _).setCell _ _ (fun _ => rfl)
    have hmine : (w1.setCell ⟨g, 5, none⟩ (.slice ao' n' cap')).ownsRow B 22 1 (.slice ao' n' cap') (qs ++ [Value.slice pa pn pc]).length (qs ++ [.slice pa pn pc]) := by
      rw [List.length_append]
      exact row_kept hown hks (fun k hv e => by subst e; exact row_not hown hrow1 (by decide) hv)
    have hother := row_kept (row_kept h.ids hk1 (type_ne (by decide) h.ids h.acl)) hks (fun k hv e => by subst e; exact row_not h.ids h.row (by decide) hv)
    refine ⟨⟨?_, hother, hmine⟩, (hk1.mono (fun _ _ h => .inr h)).trans hks (fun _ _ h => .inl h), hnew⟩
    rw [setCell_eq_setRow w1 g 5 _ _ _ _ hrow1, setRow_heap w1 g _ _ _ _ hrow1]; rfl
  clear h hna hk0 hown hgrow hcase hk1 hrow1 hnew
  go_enter Tryz.func15, Tryz.ntmps15
  go_wp2_with (at_builtin; refine Lib.wpList_append_run_sl _ rfl _ _ 46 rfl _ _ rfl rfl hr ?_)
  go_end0
  exact ⟨rfl, _, HR.out⟩

end Go.Proofs.YtgoiefhhbgollaaGreatDoor

/- Lists in memory, their room, and what stays when some cells are written over; no Go function is walked here. -/
namespace Go.Proofs.YtgoiefhhbgollaaGreatDoor
open Go.RowKit
set_option maxRecDepth 8000

/-- All cells but those of S are in w' as they were; no block is gone, or has another length. -/
structure Turned (w w' : World) (S : Nat → Nat → Prop) : Prop where
  os : w'.os = w.os
  tape : w'.tape = w.tape
  output : w'.output = w.output
  size : w.heap.size ≤ w'.heap.size
  same : ∀ k, k < w.heap.size → (∀ i, ¬ S k i) → w'.heap[k]? = w.heap[k]?
  row : ∀ k cs t fr, w.heap[k]? = some (.cells cs t fr) → ∃ cs', w'.heap[k]? = some (.cells cs' t fr) ∧ cs'.size = cs.size ∧ ∀ i, ¬ S k i → cs'[i]? = cs[i]?

section
variable {a b c w w' : World} {S S' : Nat → Nat → Prop}

theorem Turned.refl (w : World) (S : Nat → Nat → Prop) : Turned w w S := ⟨rfl, rfl, rfl, Nat.le_refl _, fun _ _ _ => rfl, fun _ cs _ _ h => ⟨cs, h, rfl, fun _ _ => rfl⟩⟩

theorem Turned.mono (h : Turned w w' S) (hS : ∀ k i, k < w.heap.size → S k i → S' k i) : Turned w w' S' :=
  ⟨h.os, h.tape, h.output, h.size, fun k hk hn => h.same k hk fun i hs => hn i (hS k i hk hs), fun k cs t fr hr => by
    obtain ⟨cs', h1, h2, h3⟩ := h.row k cs t fr hr
    exact ⟨cs', h1, h2, fun i hn => h3 i fun hs => hn (hS k i (lt_of_block hr) hs)⟩⟩

theorem Turned.trans (h : Turned a b S) (g : Turned b c S') (hS : ∀ k i, k < a.heap.size → S' k i → S k i) : Turned a c S :=
  ⟨g.os.trans h.os, g.tape.trans h.tape, g.output.trans h.output, Nat.le_trans h.size g.size,
    fun k hk hn => (g.same k (Nat.lt_of_lt_of_le hk h.size) fun i hs => hn i (hS k i hk hs)).trans (h.same k hk hn), fun k cs t fr hr => by
    obtain ⟨c1, h1, h2, h3⟩ := h.row k cs t fr hr
    obtain ⟨c2, k1, k2, k3⟩ := g.row k c1 t fr h1
    exact ⟨c2, k1, k2.trans h2, fun i hn => (k3 i fun hs => hn (hS k i (lt_of_block hr) hs)).trans (h3 i hn)⟩⟩

theorem Turned.of_kept (h : Kept w w' (fun _ => False)) (S : Nat → Nat → Prop) : Turned w w' S :=
  ⟨h.os, h.tape, h.output, h.size, fun k hk _ => h.block k hk (fun h => h), fun _ cs _ _ hr => ⟨cs, h.heap hr (fun h => h), rfl, fun _ _ => rfl⟩⟩

theorem Turned.new (h : Turned a w S) (hk : Kept w w' (fun _ => False)) : Turned a w' S := h.trans (Turned.of_kept hk (fun _ _ => False)) (fun _ _ _ h => h.elim)
theorem Turned.alloc (h : Turned a w S) (o : Obj) : Turned a (w.alloc o) S := h.new ((Kept.refl w _).alloc o)

/-- A block that was not there at the start may be written over at will. -/
theorem Turned.own (h : Turned a w S) {B : Nat} (hB : a.heap.size ≤ B) (hk : Kept w w' (fun k => B ≤ k)) : Turned a w' S :=
  ⟨hk.os.trans h.os, hk.tape.trans h.tape, hk.output.trans h.output, Nat.le_trans h.size hk.size,
    fun k hk' hn => (hk.block k (Nat.lt_of_lt_of_le hk' h.size) (by omega)).trans (h.same k hk' hn), fun k cs t fr hr => by
    obtain ⟨c1, h1, h2, h3⟩ := h.row k cs t fr hr
    have := lt_of_block hr
    exact ⟨c1, hk.heap h1 (by omega), h2, h3⟩⟩

theorem Turned.setCell (h : Turned a w S) {k i : Nat} (v : Value) (hS : k < a.heap.size → S k i) : Turned a (w.setCell ⟨k, i, none⟩ v) S := by
  refine ⟨h.os, h.tape, h.output, ?_, fun j hj hn => ?_, fun j cs t fr hr => ?_⟩
  · have : (w.setCell ⟨k, i, none⟩ v).heap.size = w.heap.size := by simp [World.setCell]
    rw [this]; exact h.size
  · rw [Below.heap_setCell _ _ _ _ (fun e => by have e' : j = k := e; subst e'; exact hn i (hS hj))]
    exact h.same j hj hn
  · obtain ⟨c1, h1, h2, h3⟩ := h.row j cs t fr hr
    by_cases e : j = k
    · subst e
      refine ⟨c1.setIfInBounds i v, ?_, by rw [Array.size_setIfInBounds]; exact h2, fun x hx => ?_⟩
      · rw [setCell_eq_setRow w j i c1 t fr v h1]; exact setRow_heap w j c1 _ t fr h1
      · rw [Array.getElem?_setIfInBounds_ne (fun e => hx (by subst e; exact hS (lt_of_block hr)))]
        exact h3 x hx
    · exact ⟨c1, by rw [Below.heap_setCell _ _ _ _ e]; exact h1, h2, h3⟩

theorem cell_row {k i : Nat} {v : Value} (h : w.cell? ⟨k, i, none⟩ = some v) : ∃ cs t fr, w.heap[k]? = some (.cells cs t fr) ∧ cs[i]? = some v := by
  unfold World.cell? at h
  split at h
  · rename_i cs t fr hr
    exact ⟨cs, t, fr, hr, by simpa using h⟩
  · simp at h

theorem Turned.cell (h : Turned w w' S) {k i : Nat} {v : Value} (hc : w.cell? ⟨k, i, none⟩ = some v) (hn : ¬ S k i) : w'.cell? ⟨k, i, none⟩ = some v := by
  obtain ⟨cs, t, fr, hr, hi⟩ := cell_row hc
  obtain ⟨cs', h1, _, h3⟩ := h.row k cs t fr hr
  rw [cell_of_row w' k i cs' t fr h1, h3 i hn, hi]

theorem Turned.below (h : Turned w w' S) {B : Nat} (hB : B ≤ w.heap.size) (hS : ∀ k i, S k i → B ≤ k) : Below B w w' :=
  ⟨h.os, h.tape, h.output, h.size, fun k hk => h.same k (by omega) fun i hs => by have := hS k i hs; omega⟩

end

/-- A list: where it lies, its length, its room. -/
structure Pc where
  ao : Option Addr
  n : Nat
  cap : Nat

def Pc.val (p : Pc) : Value := .slice p.ao p.n p.cap
/-- The cells of a list's room; of its spare room. -/
def Pc.foot (p : Pc) (k i : Nat) : Prop := ∃ off, p.ao = some ⟨k, off, none⟩ ∧ off ≤ i ∧ i < off + p.cap
def Pc.spare (p : Pc) (k i : Nat) : Prop := ∃ off, p.ao = some ⟨k, off, none⟩ ∧ off + p.n ≤ i ∧ i < off + p.cap

/-- A list lies in a row of elements of type E, all of its room. -/
structure Lies (w : World) (E : TypeId) (p : Pc) : Prop where
  le : p.n ≤ p.cap
  most : p.cap ≤ maxLen
  nil : p.ao = none → p.cap = 0
  at' : 0 < p.cap → ∃ k off cs, p.ao = some ⟨k, off, none⟩ ∧ w.heap[k]? = some (.cells cs E (0, 0)) ∧ off + p.cap ≤ cs.size

/-- The elements of a list. -/
def Pc.Has (w : World) (p : Pc) (xs : List Value) : Prop := xs.length = p.n ∧ (xs = [] ∨ ∃ k off, p.ao = some ⟨k, off, none⟩ ∧ ∀ i (h : i < xs.length), w.cell? ⟨k, off + i, none⟩ = some xs[i])

section
variable {w w' : World} {S : Nat → Nat → Prop} {E : TypeId} {p q : Pc} {xs : List Value}

theorem Lies.turned (h : Lies w E p) (ht : Turned w w' S) : Lies w' E p :=
  ⟨h.le, h.most, h.nil, fun h0 => by
    obtain ⟨k, off, cs, h1, h2, h3⟩ := h.at' h0
    obtain ⟨cs', k1, k2, _⟩ := ht.row k cs E (0, 0) h2
    exact ⟨k, off, cs', h1, k1, by omega⟩⟩

theorem Pc.Has.turned (h : p.Has w xs) (ht : Turned w w' S) (hn : ∀ k i, p.foot k i → p.spare k i ∨ ¬ S k i) (hc : p.n ≤ p.cap) : p.Has w' xs := by
  refine ⟨h.1, ?_⟩
  rcases h.2 with h0 | ⟨k, off, h1, h2⟩
  · exact .inl h0
  · refine .inr ⟨k, off, h1, fun i hi => ht.cell (h2 i hi) ?_⟩
    have hl := h.1
    rcases hn k (off + i) ⟨off, h1, by omega, by omega⟩ with ⟨off', e, h3, _⟩ | hn
    · rw [h1] at e; simp at e; all_goals omega
    · exact hn

theorem Pc.spare_foot {k i : Nat} (h : p.spare k i) : p.foot k i := by
  obtain ⟨off, h1, h2, h3⟩ := h
  exact ⟨off, h1, by omega, h3⟩

theorem Lies.foot_lt (h : Lies w E p) {k i : Nat} (hf : p.foot k i) : k < w.heap.size ∧ ∃ cs, w.heap[k]? = some (.cells cs E (0, 0)) := by
  obtain ⟨off, h1, h2, h3⟩ := hf
  obtain ⟨k', off', cs, k1, k2, k3⟩ := h.at' (by omega)
  rw [h1] at k1
  simp at k1
  obtain ⟨rfl, rfl⟩ := k1
  exact ⟨lt_of_block k2, cs, k2⟩

/-- Lists of a call's own make. -/
theorem own_has {base : Nat} {v : Value} (h : w.ownsRow base E 1 v xs.length xs) : ∃ p : Pc, v = p.val ∧ p.n = xs.length ∧ p.Has w xs ∧ Lies w E p ∧ ∀ k i, p.foot k i → base ≤ k := by
  rcases h.2 with ⟨rfl, h0⟩ | ⟨g, cap, cur, rfl, hb, hg, h1, h2, h3, h4⟩
  · have hx : xs = [] := List.eq_nil_of_length_eq_zero h0
    subst hx
    exact ⟨⟨none, 0, 0⟩, rfl, rfl, ⟨rfl, .inl rfl⟩, ⟨Nat.le_refl _, Nat.zero_le _, fun _ => rfl, fun h => by simp at h⟩, fun k i ⟨off, e, _⟩ => by simp at e⟩
  · refine ⟨⟨some ⟨g, 0, none⟩, xs.length, cap⟩, rfl, rfl, ⟨rfl, .inr ⟨g, 0, rfl, fun i hi => ?_⟩⟩, ⟨h1, h2, fun e => by simp at e, fun _ => ⟨g, 0, cur, rfl, hg, by simp at h3 ⊢; omega⟩⟩, fun k i ⟨off, e, _⟩ => by simp at e; omega⟩
    rw [Nat.zero_add, cell_of_row w g i cur E (0, 0) hg]
    have e : cur.toList.take xs.length = xs := by simpa using h4
    have e2 : (cur.toList.take xs.length)[i]? = some xs[i] := by rw [e]; exact List.getElem?_eq_getElem hi
    rw [List.getElem?_take, if_pos hi, Array.getElem?_toList] at e2
    exact e2

end

/-- A list that is grown: the room of p is filled, or there is a new row. -/
def Grown (wi wr : World) (E : TypeId) (p : Pc) (m : Value) (xs : List Value) : Prop :=
  Turned wi wr p.spare ∧ p.n ≤ xs.length ∧ ((m = (⟨p.ao, xs.length, p.cap⟩ : Pc).val ∧ xs.length ≤ p.cap ∧ (⟨p.ao, xs.length, p.cap⟩ : Pc).Has wr xs) ∨ wr.ownsRow wi.heap.size E 1 m xs.length xs)

theorem Grown.start {w : World} {E : TypeId} {p : Pc} {xs : List Value} (h : p.Has w xs) (hl : Lies w E p) : Grown w w E p p.val xs := by
  obtain ⟨ao, n, cap⟩ := p
  have e : xs.length = n := h.1
  subst e
  exact ⟨Turned.refl _ _, Nat.le_refl _, .inl ⟨rfl, hl.le, h⟩⟩

theorem Pc.Has.kept {w w' : World} {p : Pc} {xs : List Value} (h : p.Has w xs) (hk : Kept w w' (fun _ => False)) : p.Has w' xs := by
  refine ⟨h.1, ?_⟩
  rcases h.2 with h0 | ⟨k, off, h1, h2⟩
  · exact .inl h0
  · exact .inr ⟨k, off, h1, fun i hi => hk.cell (h2 i hi) (fun h => h)⟩

theorem Grown.alloc {wi wr : World} {E : TypeId} {p : Pc} {m : Value} {xs : List Value} (h : Grown wi wr E p m xs) (o : Obj) : Grown wi (wr.alloc o) E p m xs := by
  have hk : Kept wr (wr.alloc o) (fun _ => False) := (Kept.refl wr _).alloc o
  refine ⟨h.1.new hk, h.2.1, ?_⟩
  rcases h.2.2 with ⟨h1, h2, h3⟩ | h
  · exact .inl ⟨h1, h2, h3.kept hk⟩
  · refine .inr ⟨h.1, ?_⟩
    rcases h.2 with h | ⟨g, cap, cur, e, h1, h2, h3⟩
    · exact .inl h
    · exact .inr ⟨g, cap, cur, e, h1, hk.heap h2 (fun h => h), h3⟩

end Go.Proofs.YtgoiefhhbgollaaGreatDoor
