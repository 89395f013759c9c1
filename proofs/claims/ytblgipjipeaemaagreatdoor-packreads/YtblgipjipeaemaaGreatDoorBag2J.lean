/- The statements' Bag: one list of lists of bytes is put in, and each of its lists; all are apart. -/
import Derived.Test.YtblgipjipeaemaaGreatDoorApartPJ
import Derived.Test.YtblgipjipeaemaaGreatDoorApartNilJ
namespace Go.Proofs.YtblgipjipeaemaaGreatDoor
open Go.RowKit
set_option maxRecDepth 8000

abbrev nilS : Value := .slice none 0 0
/-- The cells of a Bag that holds lists of bytes and lists of these alone. -/
abbrev bagCells (bv pv : Value) : Array Value := #[bv, nilS, nilS, pv, nilS, nilS, nilS, nilS, nilS, nilS, nilS, nilS, nilS, nilS, nilS, nilS, nilS, nilS, nilS, nilS, nilS]

structure BagIs (w : World) (g : Nat) (bv pv : Value) (ps qs : List Pc) (B : Nat) : Prop where
  row : w.heap[g]? = some (.cells (bagCells bv pv) 73 (0, 0))
  bs : w.ownsRow B 22 1 bv ps.length (ps.map Pc.val)
  pc : w.ownsRow B 51 1 pv qs.length (qs.map Pc.val)

theorem own_not {w : World} {g B : Nat} {v : Value} {n : Nat} {xs : List Value} {T E : TypeId} {cs : Array Value} {fr : Nat × Nat} (h : w.ownsRow B E 1 v n xs) (hr : w.heap[g]? = some (.cells cs T fr)) (hTE : T ≠ E) : v.ownBlock ≠ some g := by
  intro e
  rcases h.2 with ⟨rfl, _⟩ | ⟨g', cap, cur, rfl, _, h2, _⟩
  · simp [Value.ownBlock] at e
  · simp [Value.ownBlock] at e
    subst e
    rw [hr] at h2
    simp at h2
    exact hTE h2.2.1

theorem own_apart {w : World} {B B' : Nat} {v v' : Value} {n n' : Nat} {xs xs' : List Value} {T E : TypeId} (h : w.ownsRow B T 1 v n xs) (h' : w.ownsRow B' E 1 v' n' xs') (hTE : T ≠ E) : ∀ k, v.ownBlock = some k → v'.ownBlock ≠ some k := by
  intro k e
  rcases h.2 with ⟨rfl, _⟩ | ⟨g', cap, cur, rfl, _, h2, _⟩
  · simp [Value.ownBlock] at e
  · simp [Value.ownBlock] at e
    subst e
    exact own_not h' h2 hTE

theorem ownsRow_same' {w w' : World} {base : Nat} {T : TypeId} {v : Value} {n : Nat} {xs : List Value} {S : Nat → Prop} (h : w.ownsRow base T 1 v n xs) (hk : Kept w w' S) (hn : ∀ k, v.ownBlock = some k → ¬ S k) : w'.ownsRow base T 1 v n xs :=
  ownsRow_same h (fun g _ hg _ hv => hk.block g (lt_of_block hg) (hn g hv))

theorem bag_c0 {w : World} {g : Nat} {bv pv : Value} (h : w.heap[g]? = some (.cells (bagCells bv pv) 73 (0, 0))) : w.cell? ⟨g, 0, none⟩ = some bv := by rw [cell_of_row w g 0 _ _ _ h]; rfl
theorem bag_c3 {w : World} {g : Nat} {bv pv : Value} (h : w.heap[g]? = some (.cells (bagCells bv pv) 73 (0, 0))) : w.cell? ⟨g, 3, none⟩ = some pv := by rw [cell_of_row w g 3 _ _ _ h]; rfl

set_option maxRecDepth 8000 in
set_option maxHeartbeats 400000 in
theorem addBytes_any (g : Nat) (bv pv : Value) (ps qs : List Pc) (B : Nat) (p : Pc) (w : World) (h : BagIs w g bv pv ps qs B) (hn : ps.length < 600) (hB : B ≤ w.heap.size) :
    Calls Tryz.prog 52 #[.pointer (some ⟨g, 0, none⟩), p.val] w fun e w' => e = .returned (.tuple #[]) ∧ ∃ bv', BagIs w' g bv' pv (ps ++ [p]) qs B ∧ Kept w w' (fun k => k = g ∨ bv.ownBlock = some k) ∧ NewRow w bv bv' := by
  obtain ⟨i1, gi, gz0, gz1, gz2⟩ := info_parts Tryz.infoBytes
  have c0 := bag_c0 h.row
  have f0 := frozen_of_row w g 0 _ _ h.row
  have H : Hid (BagIs w g bv pv ps qs B) := h
  obtain ⟨pa, pn, pc⟩ := p
  obtain ⟨ao, n, cap, hbv⟩ : ∃ ao n cap, bv = .slice ao n cap ∧ n = ps.length := by
    rcases h.bs.2 with ⟨rfl, h0⟩ | ⟨g', c, cur, rfl, _⟩
    · exact ⟨none, 0, 0, rfl, h0.symm⟩
    · exact ⟨_, _, _, rfl, rfl⟩
  obtain ⟨rfl, rfl⟩ := hbv
  have hgw : g < w.heap.size := lt_of_block h.row
  have hna := own_not h.bs h.row (by decide)
  have HNA : Hid ((Value.slice ao ps.length cap).ownBlock ≠ some g) := hna
  clear h hna
  unfold Pc.val
  simp only
  go_enter Tryz.func52, Tryz.ntmps52
  go_wp2_with (at_builtin; refine wpList_append_own_at _ rfl (.tmp 14) (.tmp 16) 51 rfl B 22 i1 _ 1 24 Tryz.underlying51 gi gz0 gz1 gz2 rfl (by decide) (.slice ao ps.length cap) ps.length (ps.map Pc.val) rfl (ownsRow_same' H.out.bs ((Kept.refl w (fun _ => False)).alloc _) (fun _ _ h => h)) ⟨w.heap.size, 0, none⟩ 1 1 [.slice pa pn pc] rfl rfl (new_cell1 _ _ _) ?one (by unfold maxLen; omega) (by omega) (by simp; omega) ?_)
  case one => intro u hu; simp at hu; subst hu; rfl
  intro v' w1 hown hgrow _ hat
  have hk1 : Kept w w1 (fun k => (Value.slice ao ps.length cap).ownBlock = some k) := ((Kept.refl w _).alloc _).trans (kept_grown hgrow (fun k e => e)) (fun _ _ h => h)
  have hrow1 := hk1.heap H.out.row HNA.out
  have hnew : NewRow w (.slice ao ps.length cap) v' := by
    rcases hat with e | e
    · exact .inl e
    · exact .inr ⟨_, e, by simp⟩
  have c1 := bag_c0 hrow1
  have f1 := frozen_of_row w1 g 0 _ _ hrow1
  obtain ⟨ao', n', cap', rfl⟩ : ∃ a n c, v' = .slice a n c := by
    rcases hown.2 with ⟨rfl, _⟩ | ⟨g', c, cur, rfl, _⟩
    · exact ⟨_, _, _, rfl⟩
    · exact ⟨_, _, _, rfl⟩
  have HR : Hid (BagIs (w1.setCell ⟨g, 0, none⟩ (.slice ao' n' cap')) g (.slice ao' n' cap') pv (ps ++ [⟨pa, pn, pc⟩]) qs B ∧ Kept w (w1.setCell ⟨g, 0, none⟩ (.slice ao' n' cap')) (fun k => k = g ∨ (Value.slice ao ps.length cap).ownBlock = some k) ∧ NewRow w (.slice ao ps.length cap) (.slice ao' n' cap')) := by
    have hks : Kept w1 (w1.setCell ⟨g, 0, none⟩ (.slice ao' n' cap')) (fun k => k = g) := (Kept.refl w1 _).setCell _ _ (fun _ => rfl)
    refine ⟨⟨?_, ?_, ?_⟩, (hk1.mono (fun _ _ h => .inr h)).trans hks (fun _ _ h => .inl h), hnew⟩
    · rw [setCell_eq_setRow w1 g 0 _ _ _ _ hrow1, setRow_heap w1 g _ _ _ _ hrow1]; rfl
    · have e : (ps ++ [(⟨pa, pn, pc⟩ : Pc)]).map Pc.val = ps.map Pc.val ++ [.slice pa pn pc] := by rw [List.map_append]; rfl
      rw [e, List.length_append]
      exact ownsRow_same' hown hks (fun k hv e => by subst e; exact own_not hown hrow1 (by decide) hv)
    · exact ownsRow_same' (ownsRow_same' H.out.pc hk1 (own_apart H.out.pc H.out.bs (by decide))) hks (fun k hv e => by subst e; exact own_not H.out.pc H.out.row (by decide) hv)
  clear hown hgrow hat hk1 hrow1 hnew
  go_wp2
  go_end0
  exact ⟨rfl, _, HR.out⟩

end Go.Proofs.YtblgipjipeaemaaGreatDoor

/- The statements' Bag, filled with one list of lists of bytes, and its Apart. -/
namespace Go.Proofs.YtblgipjipeaemaaGreatDoor
open Go.RowKit
set_option maxRecDepth 8000

theorem sees_own {w : World} {B : Nat} {T : TypeId} {v : Value} {ps : List Pc} (h : w.ownsRow B T 1 v ps.length (ps.map Pc.val)) : SeesPcs w T v ps := by
  rcases h.2 with ⟨rfl, h0⟩ | ⟨g, cap, cur, rfl, _, hr, h1, h2, h3, h4⟩
  · have e : ps = [] := List.eq_nil_of_length_eq_zero h0
    subst e
    exact ⟨none, 0, rfl, Nat.le_refl _, Nat.zero_le _, .inl rfl⟩
  · refine ⟨_, cap, rfl, h1, h2, .inr ⟨g, 0, rfl, ⟨cur, _, hr⟩, fun i hi => ?_⟩⟩
    rw [Nat.zero_add, cell_of_row w g i cur _ _ hr, ← Array.getElem?_toList]
    have e2 : (cur.toList.take (ps.length * 1))[i]? = some (Pc.val ps[i]) := by rw [h4, List.getElem?_map, List.getElem?_eq_getElem hi]; rfl
    rw [List.getElem?_take, if_pos (by omega)] at e2
    exact e2

set_option maxRecDepth 8000 in
set_option maxHeartbeats 1000000 in
theorem addPieces_one (g B : Nat) (ao : Option Addr) (cap : Nat) (ks : List Pc) (w : World) (h : BagIs w g nilS nilS [] [] B) (hs : SeesPcs w 22 (.slice ao ks.length cap) ks) (hB : B ≤ w.heap.size) :
    Calls Tryz.prog 27 #[.pointer (some ⟨g, 0, none⟩), .slice ao ks.length cap] w fun e w' => e = .returned (.tuple #[]) ∧ ∃ bv pv, BagIs w' g bv pv (ks.take 600) [⟨ao, ks.length, cap⟩] B ∧ Kept w w' (fun k => k = g) := by
  obtain ⟨i1, gi, gz0, gz1, gz2⟩ := info_parts Tryz.infoBytes2
  have c3 := bag_c3 h.row
  have f3 := frozen_of_row w g 3 _ _ h.row
  have hgw : g < w.heap.size := lt_of_block h.row
  have H : Hid (BagIs w g nilS nilS [] [] B) := h
  obtain ⟨ao', cap', e, hlc, hcm, h3⟩ := hs
  simp only [Value.slice.injEq, true_and] at e
  obtain ⟨rfl, rfl⟩ := e
  unfold maxLen at hcm
  have H3 : Hid (ks = [] ∨ ∃ b off, ao = some ⟨b, off, none⟩ ∧ (∃ cs fr, w.heap[b]? = some (.cells cs 22 fr)) ∧ ∀ i (h : i < ks.length), w.cell? ⟨b, off + i, none⟩ = some ks[i].val) := h3
  clear h h3
  go_enter Tryz.func27, Tryz.ntmps27
  go_wp2_with (at_builtin; refine wpList_append_own_at _ rfl (.tmp 15) (.tmp 17) 54 rfl B 51 i1 _ 1 24 Tryz.underlying54 gi gz0 gz1 gz2 rfl (by decide) (.slice none 0 0) 0 [] rfl (World.ownsRow_nil _ _ _ _) ⟨w.heap.size, 0, none⟩ 1 1 [.slice ao ks.length cap] rfl rfl (new_cell1 _ _ _) ?one (by unfold maxLen; omega) (by omega) (by simp; omega) ?_)
  case one => intro u hu; simp at hu; subst hu; rfl
  intro v' w1 hown hgrow _ hat
  have hk1 : Kept w w1 (fun _ => False) := ((Kept.refl w _).alloc _).trans (kept_grown hgrow (fun k e => by simp [Value.ownBlock] at e)) (fun _ _ h => h)
  have hrow1 := hk1.heap H.out.row (fun h => h)
  have c1 := bag_c3 hrow1
  have f1 := frozen_of_row w1 g 3 _ _ hrow1
  obtain ⟨pa, pn, pc, rfl⟩ : ∃ a n c, v' = .slice a n c := by
    rcases hown.2 with ⟨rfl, _⟩ | ⟨g', c, cur, rfl, _⟩
    · exact ⟨_, _, _, rfl⟩
    · exact ⟨_, _, _, rfl⟩
  have HR : Hid (BagIs (w1.setCell ⟨g, 3, none⟩ (.slice pa pn pc)) g nilS (.slice pa pn pc) [] [⟨ao, ks.length, cap⟩] B ∧ Kept w (w1.setCell ⟨g, 3, none⟩ (.slice pa pn pc)) (fun k => k = g)) := by
    have hks : Kept w1 (w1.setCell ⟨g, 3, none⟩ (.slice pa pn pc)) (fun k => k = g) := (Kept.refl w1 _).setCell _ _ (fun _ => rfl)
    refine ⟨⟨?_, World.ownsRow_nil _ _ _ _, ?_⟩, (hk1.mono (fun _ _ h => h.elim)).trans hks (fun _ _ h => h)⟩
    · rw [setCell_eq_setRow w1 g 3 _ _ _ _ hrow1, setRow_heap w1 g _ _ _ _ hrow1]; rfl
    · exact ownsRow_same' hown hks (fun k hv e => by subst e; exact own_not hown hrow1 (by decide) hv)
  clear hown hgrow hat hk1 hrow1
  generalize hw2 : w1.setCell ⟨g, 3, none⟩ (.slice pa pn pc) = w2 at *
  go_wp2
  go_loopw [4] (fun iv wr => ∃ (i : Nat) (bv : Value), iv = .int .i64 i ∧ i ≤ ks.length ∧ i ≤ 600 ∧ BagIs wr g bv (.slice pa pn pc) (ks.take i) [⟨ao, ks.length, cap⟩] B ∧ Kept w wr (fun k => k = g) ∧ ∀ k, bv.ownBlock = some k → w.heap.size ≤ k) (fun iv _ => 600 - (intOf iv).toNat)
  case atStart => exact ⟨0, nilS, rfl, Nat.zero_le _, by omega, HR.out.1, HR.out.2, fun k e => by simp [Value.ownBlock] at e⟩
  case round =>
    obtain ⟨i, bv, rfl, hil, hi6, hbag, hk, hbo⟩ := hrel
    have HX : Hid (BagIs wr g bv (.slice pa pn pc) (ks.take i) [⟨ao, ks.length, cap⟩] B ∧ Kept w wr (fun k => k = g) ∧ ∀ k, bv.ownBlock = some k → w.heap.size ≤ k) := ⟨hbag, hk, hbo⟩
    clear hbag hbo
    by_cases hlt : i < ks.length
    · by_cases hlt6 : i < 600
      · obtain ⟨b, off, rfl, hT, h4⟩ : ∃ b off, ao = some ⟨b, off, none⟩ ∧ (∃ cs fr, w.heap[b]? = some (.cells cs 22 fr)) ∧ ∀ i (h : i < ks.length), w.cell? ⟨b, off + i, none⟩ = some ks[i].val := by
          rcases H3.out with h3 | h3
          · subst h3; simp at hlt
          · exact h3
        have hcl : wr.cell? ⟨b, off + i, none⟩ = some (.slice ks[i].ao ks[i].n ks[i].cap) := hk.cell (h4 i hlt) (fun e => by
          obtain ⟨cs, fr, hr⟩ := hT
          have e' : b = g := e
          subst e'
          rw [H.out.row] at hr
          simp at hr)
        clear hk h4 hT
        generalize hpi : ks[i] = p at *
        obtain ⟨xa, xn, xc⟩ := p
        simp only at hcl
        have HP : Hid (ks[i] = ⟨xa, xn, xc⟩) := hpi
        clear hpi
        have hsz := HX.out.2.1.size
        go_wp2_with fail
        refine (addBytes_any g bv (.slice pa pn pc) (ks.take i) [⟨some ⟨b, off, none⟩, ks.length, cap⟩] B ⟨xa, xn, xc⟩ _ HX.out.1 (by rw [List.length_take]; omega) (by omega)).mono ?_
        rintro e w3 ⟨rfl, bv', hb3, hk3, hn3⟩
        have HN : Hid (BagIs w3 g bv' (.slice pa pn pc) (ks.take (i + 1)) [⟨some ⟨b, off, none⟩, ks.length, cap⟩] B ∧ Kept w w3 (fun k => k = g) ∧ ∀ k, bv'.ownBlock = some k → w.heap.size ≤ k) := by
          refine ⟨?_, HX.out.2.1.trans hk3 (fun k hk hs => ?_), fun k e => ?_⟩
          · rw [List.take_succ_eq_append_getElem hlt, HP.out]; exact hb3
          · rcases hs with hs | hs
            · exact hs
            · have := HX.out.2.2 k hs; omega
          · rcases hn3 with e' | ⟨k', e', hk'⟩
            · rw [e'] at e; exact HX.out.2.2 k e
            · rw [e'] at e; simp at e; omega
        clear hb3 hk3 hn3 HX
        go_wp2
        go_roundw
        case rel => exact ⟨i + 1, bv', by go_num, by omega, by omega, HN.out⟩
        case measure => simp [intOf]; omega
      · obtain rfl : i = 600 := by omega
        go_wp2
        go_end0
        exact ⟨rfl, bv, _, HX.out.1, HX.out.2.1⟩
    · obtain rfl : i = ks.length := by omega
      have HZ : Hid (BagIs wr g bv (.slice pa pn pc) (ks.take 600) [⟨ao, ks.length, cap⟩] B ∧ Kept w wr (fun k => k = g)) := by
        refine ⟨?_, HX.out.2.1⟩
        have := HX.out.1
        rw [List.take_length] at this
        rw [List.take_of_length_le hi6]
        exact this
      clear HX hk
      go_wp2
      go_end0
      exact ⟨rfl, bv, _, HZ.out⟩

end Go.Proofs.YtblgipjipeaemaaGreatDoor
