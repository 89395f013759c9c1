/- The statements' Bag: one list of lists of bytes is put in, and each of its lists; all are apart. -/
import Derived.Test.YtabkjcgcnimoaaaDoorApartP
import Derived.Test.YtabkjcgcnimoaaaDoorApartNil
namespace Go.Proofs.YtabkjcgcnimoaaaDoor
open Go.RowKit
set_option maxRecDepth 8000

abbrev nilS : Value := .slice none 0 0
/-- The cells of a Bag that holds lists of bytes and lists of these alone. -/
abbrev bagCells (bv pv : Value) : Array Value := #[bv, nilS, nilS, pv, nilS, nilS, nilS, nilS, nilS, nilS, nilS, nilS, nilS, nilS, nilS, nilS, nilS, nilS, nilS, nilS, nilS]

structure BagIs (w : World) (g : Nat) (bv pv : Value) (ps qs : List Pc) (B : Nat) : Prop where
  row : w.heap[g]? = some (.cells (bagCells bv pv) 53 (0, 0))
  bs : w.ownsRow B 22 1 bv ps.length (ps.map Pc.val)
  pc : w.ownsRow B 31 1 pv qs.length (qs.map Pc.val)

theorem own_not {w : World} {g B : Nat} {v : Value} {n : Nat} {xs : List Value} {T E : TypeId} {cs : Array Value} {fr : Nat × Nat} (h : w.ownsRow B E 1 v n xs) (hr : w.heap[g]? = some (.cells cs T fr)) (hTE : T ≠ E) : v.ownBlock ≠ some g := by
  intro e
  rcases h.2 with ⟨rfl, _⟩ | ⟨g', cap, cur, rfl, _, h2, _⟩
  · simp [Value.ownBlock] at e
  · simp [Value.ownBlock] at e
    subst e
    rw [hr] at h2
    simp at h2
    exact hTE h2.2.1

theorem own_apart {w : World} {B B' : Nat} {v v' : Value} {n n' : Nat} {xs xs' : List Value} {T E : TypeId} (h : w.ownsRow B T 1 v n xs) (h' : w.ownsRow B' E 1 v' n' xs') (hTE : T ≠ E) : ∀ k, v.ownBlock = some k → v'.ownBlock ≠ some k := by
  intro k e
  rcases h.2 with ⟨rfl, _⟩ | ⟨g', cap, cur, rfl, _, h2, _⟩
  · simp [Value.ownBlock] at e
  · simp [Value.ownBlock] at e
    subst e
    exact own_not h' h2 hTE

theorem ownsRow_kept' {w w' : World} {base : Nat} {T : TypeId} {v : Value} {n : Nat} {xs : List Value} {S : Nat → Prop} (h : w.ownsRow base T 1 v n xs) (hk : Kept w w' S) (hn : ∀ k, v.ownBlock = some k → ¬ S k) : w'.ownsRow base T 1 v n xs :=
  ownsRow_kept h (fun g _ hg _ hv => hk.block g (lt_of_block hg) (hn g hv))

theorem bag_c0 {w : World} {g : Nat} {bv pv : Value} (h : w.heap[g]? = some (.cells (bagCells bv pv) 53 (0, 0))) : w.cell? ⟨g, 0, none⟩ = some bv := by rw [cell_of_row w g 0 _ _ _ h]; rfl
theorem bag_c3 {w : World} {g : Nat} {bv pv : Value} (h : w.heap[g]? = some (.cells (bagCells bv pv) 53 (0, 0))) : w.cell? ⟨g, 3, none⟩ = some pv := by rw [cell_of_row w g 3 _ _ _ h]; rfl

set_option maxRecDepth 8000 in
set_option maxHeartbeats 400000 in
theorem addBytes_any (g : Nat) (bv pv : Value) (ps qs : List Pc) (B : Nat) (p : Pc) (w : World) (h : BagIs w g bv pv ps qs B) (hn : ps.length < 600) (hB : B ≤ w.heap.size) :
    Calls Tryd.prog 21 #[.pointer (some ⟨g, 0, none⟩), p.val] w fun e w' => e = .returned (.tuple #[]) ∧ ∃ bv', BagIs w' g bv' pv (ps ++ [p]) qs B ∧ Kept w w' (fun k => k = g ∨ bv.ownBlock = some k) ∧ NewRow w bv bv' := by
  obtain ⟨i1, gi, gz0, gz1, gz2⟩ := info_parts Tryd.infoBytes
  have c0 := bag_c0 h.row
  have f0 := frozen_of_row w g 0 _ _ h.row
  have H : Hid (BagIs w g bv pv ps qs B) := h
  obtain ⟨pa, pn, pc⟩ := p
  obtain ⟨ao, n, cap, hbv⟩ : ∃ ao n cap, bv = .slice ao n cap ∧ n = ps.length := by
    rcases h.bs.2 with ⟨rfl, h0⟩ | ⟨g', c, cur, rfl, _⟩
    · exact ⟨none, 0, 0, rfl, h0.symm⟩
    · exact ⟨_, _, _, rfl, rfl⟩
  obtain ⟨rfl, rfl⟩ := hbv
  have hgw : g < w.heap.size := lt_of_block h.row
  have hna := own_not h.bs h.row (by decide)
  have HNA : Hid ((Value.slice ao ps.length cap).ownBlock ≠ some g) := hna
  clear h hna
  unfold Pc.val
  simp only
  go_enter Tryd.func21, Tryd.ntmps21
  go_wp2_with (at_builtin; refine wpList_append_own_at _ rfl (.tmp 14) (.tmp 16) 31 rfl B 22 i1 _ 1 24 Tryd.underlying31 gi gz0 gz1 gz2 rfl (by decide) (.slice ao ps.length cap) ps.length (ps.map Pc.val) rfl (ownsRow_kept' H.out.bs ((Kept.refl w (fun _ => False)).alloc _) (fun _ _ h => h)) ⟨w.heap.size, 0, none⟩ 1 1 [.slice pa pn pc] rfl rfl (new_cell1 _ _ _) ?one (by unfold maxLen; omega) (by omega) (by simp; omega) ?_)
  case one => intro u hu; simp at hu; subst hu; rfl
  intro v' w1 hown hgrow _ hat
  have hk1 : Kept w w1 (fun k => (Value.slice ao ps.length cap).ownBlock = some k) := ((Kept.refl w _).alloc _).trans (kept_grown hgrow (fun k e => e)) (fun _ _ h => h)
  have hrow1 := hk1.heap H.out.row HNA.out
  have hnew : NewRow w (.slice ao ps.length cap) v' := by
    rcases hat with e | e
    · exact .inl e
    · exact .inr ⟨_, e, by simp⟩
  have c1 := bag_c0 hrow1
  have f1 := frozen_of_row w1 g 0 _ _ hrow1
  obtain ⟨ao', n', cap', rfl⟩ : ∃ a n c, v' = .slice a n c := by
    rcases hown.2 with ⟨rfl, _⟩ | ⟨g', c, cur, rfl, _⟩
    · exact ⟨_, _, _, rfl⟩
    · exact ⟨_, _, _, rfl⟩
  have HR : Hid (BagIs (w1.setCell ⟨g, 0, none⟩ (.slice ao' n' cap')) g (.slice ao' n' cap') pv (ps ++ [⟨pa, pn, pc⟩]) qs B ∧ Kept w (w1.setCell ⟨g, 0, none⟩ (.slice ao' n' cap')) (fun k => k = g ∨ (Value.slice ao ps.length cap).ownBlock = some k) ∧ NewRow w (.slice ao ps.length cap) (.slice ao' n' cap')) := by
    have hks : Kept w1 (w1.setCell ⟨g, 0, none⟩ (.slice ao' n' cap')) (fun k => k = g) := (Kept.refl w1 _).setCell _ _ (fun _ => rfl)
    refine ⟨⟨?_, ?_, ?_⟩, (hk1.mono (fun _ _ h => .inr h)).trans hks (fun _ _ h => .inl h), hnew⟩
    · rw [setCell_eq_setRow w1 g 0 _ _ _ _ hrow1, setRow_heap w1 g _ _ _ _ hrow1]; rfl
    · have e : (ps ++ [(⟨pa, pn, pc⟩ : Pc)]).map Pc.val = ps.map Pc.val ++ [.slice pa pn pc] := by rw [List.map_append]; rfl
      rw [e, List.length_append]
      exact ownsRow_kept' hown hks (fun k hv e => by subst e; exact own_not hown hrow1 (by decide) hv)
    · exact ownsRow_kept' (ownsRow_kept' H.out.pc hk1 (own_apart H.out.pc H.out.bs (by decide))) hks (fun k hv e => by subst e; exact own_not H.out.pc H.out.row (by decide) hv)
  clear hown hgrow hat hk1 hrow1 hnew
  go_wp2
  go_end0
  exact ⟨rfl, _, HR.out⟩

end Go.Proofs.YtabkjcgcnimoaaaDoor
