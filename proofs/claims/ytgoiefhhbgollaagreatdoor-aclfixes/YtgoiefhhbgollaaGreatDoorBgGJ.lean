/- The statements' Bag that holds lists of ids and of entries alone: AddIds, AddAcl. -/
import Derived.Test.YtgoiefhhbgollaaGreatDoorBgFJ
namespace Go.Proofs.YtgoiefhhbgollaaGreatDoor
open Go.RowKit Go.Shelf
set_option maxRecDepth 8000

abbrev nilB : Value := .slice none 0 0
/-- The cells of a Bag that holds lists of ids and of entries alone. -/
abbrev bagIA (iv av : Value) : Array Value := #[nilB, nilB, nilB, nilB, iv, av, nilB, nilB, nilB, nilB, nilB, nilB, nilB, nilB, nilB, nilB, nilB, nilB, nilB, nilB, nilB]

structure BagIA (w : World) (g : Nat) (iv av : Value) (ps qs : List Value) (B : Nat) : Prop where
  row : w.heap[g]? = some (.cells (bagIA iv av) 63 (0, 0))
  ids : w.ownsRow B 23 1 iv ps.length ps
  acl : w.ownsRow B 22 1 av qs.length qs

/-- A block of another kind is not this row's. -/
theorem row_not {w : World} {g B : Nat} {v : Value} {n z : Nat} {xs : List Value} {T E : TypeId} {cs : Array Value} {fr : Nat × Nat} (h : w.ownsRow B E z v n xs) (hr : w.heap[g]? = some (.cells cs T fr)) (hTE : T ≠ E) : v.ownBlock ≠ some g := by
  intro e
  obtain ⟨cs', e'⟩ := row_type h e
  rw [hr] at e'
  simp at e'
  exact hTE e'.2.1

theorem bagIA_c4 {w : World} {g : Nat} {iv av : Value} (h : w.heap[g]? = some (.cells (bagIA iv av) 63 (0, 0))) : w.cell? ⟨g, 4, none⟩ = some iv := by rw [cell_of_row w g 4 _ _ _ h]; rfl
theorem bagIA_c5 {w : World} {g : Nat} {iv av : Value} (h : w.heap[g]? = some (.cells (bagIA iv av) 63 (0, 0))) : w.cell? ⟨g, 5, none⟩ = some av := by rw [cell_of_row w g 5 _ _ _ h]; rfl

set_option maxHeartbeats 400000 in
theorem addIds_any (g : Nat) (iv av : Value) (ps qs : List Value) (B : Nat) (pa : Option Addr) (pn pc : Nat) (w : World) (h : BagIA w g iv av ps qs B) (hn : ps.length < 600) (hB : B ≤ w.heap.size) :
    Calls Tryz.prog 16 #[.pointer (some ⟨g, 0, none⟩), .slice pa pn pc] w fun e w' => e = .returned (.tuple #[]) ∧ ∃ v', BagIA w' g v' av (ps ++ [.slice pa pn pc]) qs B ∧ Kept w w' (fun k => k = g ∨ iv.ownBlock = some k) ∧ NewRow w iv v' := by
  obtain ⟨i1, gi, gz0, gz1, gz2⟩ := info3B Tryz.infoIL
  have c0 := bagIA_c4 h.row
  have f0 := frozen_of_row w g 4 _ _ h.row
  have H : Hid (BagIA w g iv av ps qs B) := h
  obtain ⟨ao, n, cap, hv⟩ : ∃ ao n cap, iv = .slice ao n cap ∧ n = ps.length := by
    rcases h.ids.2 with ⟨rfl, h0⟩ | ⟨g', c, cur, rfl, _⟩
    · exact ⟨none, 0, 0, rfl, h0.symm⟩
    · exact ⟨_, _, _, rfl, rfl⟩
  obtain ⟨rfl, rfl⟩ := hv
  have hgw : g < w.heap.size := lt_of_block h.row
  have hna := row_not h.ids h.row (by decide)
  have hk0 : Kept w (w.alloc (.cells #[.slice pa pn pc] 23)) (fun _ => False) := (Kept.refl w _).alloc _
  obtain ⟨v', w1, hr, hown, hgrow, hcase⟩ := app_row (P := Tryz.prog) B 45 45 23 i1 (.slice none 0 0) 1 24 Tryz.underlying45 gi gz0 gz1 gz2 rfl (by decide) _ _ _ (row_kept h.ids hk0 (fun _ _ h => h)) w.heap.size [.slice pa pn pc] rfl (heap_alloc_new _ _) (by simp [Value.oneCell']) (by omega) (by decide) (Nat.le_trans hB hk0.size)
  have hk1 : Kept w w1 (fun k => (Value.slice ao ps.length cap).ownBlock = some k) := (hk0.mono (fun _ _ h => h.elim)).trans ⟨hgrow.os, hgrow.tape, hgrow.output, hgrow.size, fun k hk hne => hgrow.block k hk (fun e => hne e.symm)⟩ (fun _ _ h => h)
  have hrow1 := hk1.heap h.row hna
  have hnew : NewRow w (.slice ao ps.length cap) v' := by
    rcases hcase with ⟨g2, cp, e1, rfl⟩ | ⟨e, _⟩
    · simp only [Value.slice.injEq] at e1
      exact .inl (by rw [e1.1]; rfl)
    · exact .inr ⟨_, e, by simp⟩
  have c1 := bagIA_c4 hrow1
  have f1 := frozen_of_row w1 g 4 _ _ hrow1
  obtain ⟨ao', n', cap', rfl⟩ := row_form hown
  have HR : Hid (BagIA (w1.setCell ⟨g, 4, none⟩ (.slice ao' n' cap')) g (.slice ao' n' cap') av (ps ++ [.slice pa pn pc]) qs B ∧ Kept w (w1.setCell ⟨g, 4, none⟩ (.slice ao' n' cap')) (fun k => k = g ∨ (Value.slice ao ps.length cap).ownBlock = some k) ∧ NewRow w (.slice ao ps.length cap) (.slice ao' n' cap')) := by
    have hks : Kept w1 (w1.setCell ⟨g, 4, none⟩ (.slice ao' n' cap')) (fun k => k = g) := (Kept.refl w1 _).setCell _ _ (fun _ => rfl)
    have hmine : (w1.setCell ⟨g, 4, none⟩ (.slice ao' n' cap')).ownsRow B 23 1 (.slice ao' n' cap') (ps ++ [Value.slice pa pn pc]).length (ps ++ [.slice pa pn pc]) := by
      rw [List.length_append]
      exact row_kept hown hks (fun k hv e => by subst e; exact row_not hown hrow1 (by decide) hv)
    have hother := row_kept (row_kept h.acl hk1 (type_ne (by decide) h.acl h.ids)) hks (fun k hv e => by subst e; exact row_not h.acl h.row (by decide) hv)
    refine ⟨⟨?_, hmine, hother⟩, (hk1.mono (fun _ _ h => .inr h)).trans hks (fun _ _ h => .inl h), hnew⟩
    rw [setCell_eq_setRow w1 g 4 _ _ _ _ hrow1, setRow_heap w1 g _ _ _ _ hrow1]; rfl
  clear h hna hk0 hown hgrow hcase hk1 hrow1 hnew
  go_enter Tryz.func16, Tryz.ntmps16
  go_wp2_with (at_builtin; refine Lib.wpList_append_run_sl _ rfl _ _ 45 rfl _ _ rfl rfl hr ?_)
  go_end0
  exact ⟨rfl, _, HR.out⟩

set_option maxHeartbeats 400000 in
theorem addAcl_any (g : Nat) (iv av : Value) (ps qs : List Value) (B : Nat) (pa : Option Addr) (pn pc : Nat) (w : World) (h : BagIA w g iv av ps qs B) (hn : qs.length < 600) (hB : B ≤ w.heap.size) :
    Calls Tryz.prog 15 #[.pointer (some ⟨g, 0, none⟩), .slice pa pn pc] w fun e w' => e = .returned (.tuple #[]) ∧ ∃ v', BagIA w' g iv v' ps (qs ++ [.slice pa pn pc]) B ∧ Kept w w' (fun k => k = g ∨ av.ownBlock = some k) ∧ NewRow w av v' := by
  obtain ⟨i1, gi, gz0, gz1, gz2⟩ := info3B Tryz.infoEL
  have c0 := bagIA_c5 h.row
  have f0 := frozen_of_row w g 5 _ _ h.row
  have H : Hid (BagIA w g iv av ps qs B) := h
  obtain ⟨ao, n, cap, hv⟩ : ∃ ao n cap, av = .slice ao n cap ∧ n = qs.length := by
    rcases h.acl.2 with ⟨rfl, h0⟩ | ⟨g', c, cur, rfl, _⟩
    · exact ⟨none, 0, 0, rfl, h0.symm⟩
    · exact ⟨_, _, _, rfl, rfl⟩
  obtain ⟨rfl, rfl⟩ := hv
  have hgw : g < w.heap.size := lt_of_block h.row
  have hna := row_not h.acl h.row (by decide)
  have hk0 : Kept w (w.alloc (.cells #[.slice pa pn pc] 22)) (fun _ => False) := (Kept.refl w _).alloc _
  obtain ⟨v', w1, hr, hown, hgrow, hcase⟩ := app_row (P := Tryz.prog) B 46 46 22 i1 (.slice none 0 0) 1 24 Tryz.underlying46 gi gz0 gz1 gz2 rfl (by decide) _ _ _ (row_kept h.acl hk0 (fun _ _ h => h)) w.heap.size [.slice pa pn pc] rfl (heap_alloc_new _ _) (by simp [Value.oneCell']) (by omega) (by decide) (Nat.le_trans hB hk0.size)
  have hk1 : Kept w w1 (fun k => (Value.slice ao qs.length cap).ownBlock = some k) := (hk0.mono (fun _ _ h => h.elim)).trans ⟨hgrow.os, hgrow.tape, hgrow.output, hgrow.size, fun k hk hne => hgrow.block k hk (fun e => hne e.symm)⟩ (fun _ _ h => h)
  have hrow1 := hk1.heap h.row hna
  have hnew : NewRow w (.slice ao qs.length cap) v' := by
    rcases hcase with ⟨g2, cp, e1, rfl⟩ | ⟨e, _⟩
    · simp only [Value.slice.injEq] at e1
      exact .inl (by rw [e1.1]; rfl)
    · exact .inr ⟨_, e, by simp⟩
  have c1 := bagIA_c5 hrow1
  have f1 := frozen_of_row w1 g 5 _ _ hrow1
  obtain ⟨ao', n', cap', rfl⟩ := row_form hown
  have HR : Hid (BagIA (w1.setCell ⟨g, 5, none⟩ (.slice ao' n' cap')) g iv (.slice ao' n' cap') ps (qs ++ [.slice pa pn pc]) B ∧ Kept w (w1.setCell ⟨g, 5, none⟩ (.slice ao' n' cap')) (fun k => k = g ∨ (Value.slice ao qs.length cap).ownBlock = some k) ∧ NewRow w (.slice ao qs.length cap) (.slice ao' n' cap')) := by
    have hks : Kept w1 (w1.setCell ⟨g, 5, none⟩ (.slice ao' n' cap')) (fun k => k = g) := (Kept.refl w1 _).setCell _ _ (fun _ => rfl)
    have hmine : (w1.setCell ⟨g, 5, none⟩ (.slice ao' n' cap')).ownsRow B 22 1 (.slice ao' n' cap') (qs ++ [Value.slice pa pn pc]).length (qs ++ [.slice pa pn pc]) := by
      rw [List.length_append]
      exact row_kept hown hks (fun k hv e => by subst e; exact row_not hown hrow1 (by decide) hv)
    have hother := row_kept (row_kept h.ids hk1 (type_ne (by decide) h.ids h.acl)) hks (fun k hv e => by subst e; exact row_not h.ids h.row (by decide) hv)
    refine ⟨⟨?_, hother, hmine⟩, (hk1.mono (fun _ _ h => .inr h)).trans hks (fun _ _ h => .inl h), hnew⟩
    rw [setCell_eq_setRow w1 g 5 _ _ _ _ hrow1, setRow_heap w1 g _ _ _ _ hrow1]; rfl
  clear h hna hk0 hown hgrow hcase hk1 hrow1 hnew
  go_enter Tryz.func15, Tryz.ntmps15
  go_wp2_with (at_builtin; refine Lib.wpList_append_run_sl _ rfl _ _ 46 rfl _ _ rfl rfl hr ?_)
  go_end0
  exact ⟨rfl, _, HR.out⟩

end Go.Proofs.YtgoiefhhbgollaaGreatDoor
