/- The statements' Bag that holds lists of bytes and of messages: AddBytes, AddMessages, Apart. -/
import Derived.Test.YtghngopclhhoeaaDoorLpLJ
import Derived.Test.YtghngopclhhoeaaDoorApartJ
import Derived.Test.YtghngopclhhoeaaDoorApartNilJ
import Derived.Test.YtghngopclhhoeaaDoorApartNil2J
namespace Go.Proofs.YtghngopclhhoeaaDoor
open Go.RowKit Go.Shelf
set_option maxRecDepth 8000
set_option linter.unusedVariables false
set_option linter.unusedSimpArgs false

abbrev nilM : Value := .slice none 0 0
/-- The cells of a Bag that holds lists of bytes and of messages. -/
abbrev bagM (bv mv : Value) : Array Value := #[bv, nilM, nilM, nilM, nilM, nilM, nilM, nilM, nilM, nilM, nilM, nilM, nilM, nilM, mv, nilM, nilM, nilM, nilM, nilM, nilM]

structure BagM (w : World) (g : Nat) (bv mv : Value) (ps : List Pc) (ms : List Value) (B : Nat) : Prop where
  row : w.heap[g]? = some (.cells (bagM bv mv) 66 (0, 0))
  bs : w.ownsRow B 39 1 bv ps.length (ps.map Pc.val)
  me : w.ownsRow B 35 1 mv ms.length ms

theorem BagM.new {w : World} {g B : Nat} (h : w.heap[g]? = some (.cells (bagM nilM nilM) 66 (0, 0))) : BagM w g nilM nilM [] [] B :=
  ⟨h, ⟨rfl, .inl ⟨rfl, rfl⟩⟩, ⟨rfl, .inl ⟨rfl, rfl⟩⟩⟩

/-- A list of bytes as a piece. -/
def pcM : Value → Pc
  | .slice a n c => ⟨a, n, c⟩
  | _ => ⟨none, 0, 0⟩

/-- The bytes of n messages. -/
def msPc (xs : List Value) (n : Nat) : List Pc := (List.range n).map (fun i => pcM (xs.getD (i * 4 + 2) undef))

theorem msPc_len (xs : List Value) (n : Nat) : (msPc xs n).length = n := by simp [msPc]
theorem msPc_at (xs : List Value) (n i : Nat) (hi : i < n) : (msPc xs n)[i]'(by rw [msPc_len]; exact hi) = pcM (xs.getD (i * 4 + 2) undef) := by simp [msPc]

theorem row_notM {w : World} {g B : Nat} {v : Value} {n z : Nat} {xs : List Value} {T E : TypeId} {cs : Array Value} {fr : Nat × Nat} (h : w.ownsRow B E z v n xs) (hr : w.heap[g]? = some (.cells cs T fr)) (hTE : T ≠ E) : v.ownBlock ≠ some g := by
  intro e
  obtain ⟨cs', e'⟩ := row_type h e
  rw [hr] at e'
  simp at e'
  exact hTE e'.2.1

theorem seesL_ownM {w : World} {B : Nat} {T1 : TypeId} {lv : Value} {rs : List Rw} (h : w.ownsRow B T1 1 lv (rs.map Rw.v).length (rs.map Rw.v)) : SeesL w T1 lv rs := by
  obtain ⟨hl, ⟨rfl, h0⟩ | ⟨g, cap, cur, rfl, a2, a3, a4, a5, a6, a7⟩⟩ := h
  · have e : rs = [] := by
      rw [List.length_map] at h0
      exact List.length_eq_zero_iff.mp h0
    subst e
    exact ⟨none, 0, rfl, Nat.le_refl _, fun h => absurd rfl h⟩
  · rw [List.length_map] at a4 a7 ⊢
    refine ⟨some ⟨g, 0, none⟩, cap, rfl, a4, fun _ => ⟨g, 0, rfl, ⟨cur, (0, 0), a3⟩, fun j hj => ?_⟩⟩
    rw [cell_of_row w g _ _ _ _ a3, Nat.zero_add, ← Array.getElem?_toList]
    have e : (cur.toList.take (rs.length * 1))[j]? = some rs[j].v := by rw [a7]; simp [hj]
    rw [List.getElem?_take] at e
    split at e
    · exact e
    · cases e

theorem sees_ownM {w : World} {B : Nat} {T : TypeId} {v : Value} {ps : List Pc} (h : w.ownsRow B T 1 v ps.length (ps.map Pc.val)) : SeesPcs w T v ps := by
  rcases h.2 with ⟨rfl, h0⟩ | ⟨g, cap, cur, rfl, _, hr, h1, h2, h3, h4⟩
  · have e : ps = [] := List.eq_nil_of_length_eq_zero h0
    subst e
    exact ⟨none, 0, rfl, Nat.le_refl _, Nat.zero_le _, .inl rfl⟩
  · refine ⟨_, cap, rfl, h1, h2, .inr ⟨g, 0, rfl, ⟨cur, _, hr⟩, fun i hi => ?_⟩⟩
    rw [Nat.zero_add, cell_of_row w g i cur _ _ hr, ← Array.getElem?_toList]
    have e2 : (cur.toList.take (ps.length * 1))[i]? = some (Pc.val ps[i]) := by rw [h4, List.getElem?_map, List.getElem?_eq_getElem hi]; rfl
    rw [List.getElem?_take, if_pos (by omega)] at e2
    exact e2

theorem blkR_notM {w : World} {T E : TypeId} {z : Nat} {rs : List Rw} {Xs : Nat → List Value} (h : RowsR w T z rs Xs) {k : Nat} {cs : Array Value} {fr : Nat × Nat} (hr : w.heap[k]? = some (.cells cs E fr)) (hTE : E ≠ T) : ¬ BlkR rs k := fun hk => by
  obtain ⟨j, hj, e⟩ := hk
  obtain ⟨cs', e⟩ := row_type (h j hj) e
  rw [hr] at e
  simp at e
  exact hTE e.2.1

theorem bagM_c0 {w : World} {g : Nat} {bv mv : Value} (h : w.heap[g]? = some (.cells (bagM bv mv) 66 (0, 0))) : w.cell? ⟨g, 0, none⟩ = some bv := by rw [cell_of_row w g 0 _ _ _ h]; rfl
theorem bagM_cells {w : World} {g : Nat} {bv mv : Value} (h : w.heap[g]? = some (.cells (bagM bv mv) 66 (0, 0))) : ∀ j, j < 21 → w.cell? ⟨g, j, none⟩ = (bagM bv mv)[j]? := fun j _ => cell_of_row w g j _ _ _ h
theorem bagM_c14 {w : World} {g : Nat} {bv mv : Value} (h : w.heap[g]? = some (.cells (bagM bv mv) 66 (0, 0))) : w.cell? ⟨g, 14, none⟩ = some mv := by rw [cell_of_row w g 14 _ _ _ h]; rfl

/-- A row of another kind than bytes stands where lists of bytes are turned. -/
theorem row_turnedM {w w' : World} {base : Nat} {T : TypeId} {z n : Nat} {v : Value} {xs : List Value} {ps : List Pc} (h : w.ownsRow base T z v n xs) (ht : Turned w w' (feet ps)) (hl : ∀ q ∈ ps, Lies w 5 q) (hT : T ≠ 5) : w'.ownsRow base T z v n xs := by
  obtain ⟨h1, h2 | ⟨g, cap, cur, rfl, a2, a3, a4⟩⟩ := h
  · exact ⟨h1, .inl h2⟩
  · refine ⟨h1, .inr ⟨g, cap, cur, rfl, a2, ?_, a4⟩⟩
    rw [ht.same g (lt_of_block a3) (fun x hs => ?_)]
    · exact a3
    · obtain ⟨q, hq, hf⟩ := hs
      obtain ⟨_, cs2, hr2⟩ := (hl q hq).foot_lt hf
      rw [a3] at hr2
      simp at hr2
      exact hT hr2.2

set_option maxHeartbeats 400000 in
theorem addBytes_m (g : Nat) (bv mv : Value) (qs : List Pc) (ms : List Value) (B : Nat) (pa : Option Addr) (pn pc : Nat) (w : World) (h : BagM w g bv mv qs ms B) (hn : qs.length < 600) (hB : B ≤ w.heap.size) :
    Calls Tryd.prog 21 #[.pointer (some ⟨g, 0, none⟩), .slice pa pn pc] w fun e w' => e = .returned (.tuple #[]) ∧ ∃ v', BagM w' g v' mv (qs ++ [⟨pa, pn, pc⟩]) ms B ∧ Kept w w' (fun k => k = g ∨ bv.ownBlock = some k) ∧ NewRow w bv v' := by
  obtain ⟨i1, gi, gz0, gz1, gz2⟩ := info_parts Tryd.infoBytes
  have c0 := bagM_c0 h.row
  have f0 := frozen_of_row w g 0 _ _ h.row
  obtain ⟨ao, n, cap, hv⟩ : ∃ ao n cap, bv = .slice ao n cap ∧ n = qs.length := by
    rcases h.bs.2 with ⟨rfl, h0⟩ | ⟨g', c, cur, rfl, _⟩
    · exact ⟨none, 0, 0, rfl, h0.symm⟩
    · exact ⟨_, _, _, rfl, rfl⟩
  obtain ⟨rfl, rfl⟩ := hv
  have hgw : g < w.heap.size := lt_of_block h.row
  have hna := row_notM h.bs h.row (by decide)
  have hd : decide ((qs.length : Int) < 600) = true := by simp; omega
  have hk0 : Kept w (w.alloc (.cells #[.slice pa pn pc] 39)) (fun _ => False) := (Kept.refl w _).alloc _
  obtain ⟨v', w1, hr, hown, hgrow, hcase⟩ := app_row (P := Tryd.prog) B 44 44 39 i1 (.slice none 0 0) 1 24 Tryd.underlying44 gi gz0 gz1 gz2 rfl (by decide) _ _ _ (row_kept h.bs hk0 (fun _ _ h => h)) w.heap.size [.slice pa pn pc] rfl (heap_alloc_new _ _) (by simp [Value.oneCell']) (by omega) (by decide) (Nat.le_trans hB hk0.size)
  have hk1 : Kept w w1 (fun k => (Value.slice ao qs.length cap).ownBlock = some k) := (hk0.mono (fun _ _ h => h.elim)).trans ⟨hgrow.os, hgrow.tape, hgrow.output, hgrow.size, fun k hk hne => hgrow.block k hk (fun e => hne e.symm)⟩ (fun _ _ h => h)
  have hrow1 := hk1.heap h.row hna
  have hnew : NewRow w (.slice ao qs.length cap) v' := by
    rcases hcase with ⟨g2, cp, e1, rfl⟩ | ⟨e, _⟩
    · simp only [Value.slice.injEq] at e1
      exact .inl (by rw [e1.1]; rfl)
    · exact .inr ⟨_, e, by simp⟩
  have c1 := bagM_c0 hrow1
  have f1 := frozen_of_row w1 g 0 _ _ hrow1
  obtain ⟨ao', n', cap', rfl⟩ := row_form hown
  have HR : Hid (BagM (w1.setCell ⟨g, 0, none⟩ (.slice ao' n' cap')) g (.slice ao' n' cap') mv (qs ++ [⟨pa, pn, pc⟩]) ms B ∧ Kept w (w1.setCell ⟨g, 0, none⟩ (.slice ao' n' cap')) (fun k => k = g ∨ (Value.slice ao qs.length cap).ownBlock = some k) ∧ NewRow w (.slice ao qs.length cap) (.slice ao' n' cap')) := by
    have hks : Kept w1 (w1.setCell ⟨g, 0, none⟩ (.slice ao' n' cap')) (fun k => k = g) := Kept.setCell (S := fun k => k = g) (Kept.refl w1 _) ⟨g, 0, none⟩ _ (fun _ => rfl)
    have hmine : (w1.setCell ⟨g, 0, none⟩ (.slice ao' n' cap')).ownsRow B 39 1 (.slice ao' n' cap') (qs ++ [(⟨pa, pn, pc⟩ : Pc)]).length ((qs ++ [(⟨pa, pn, pc⟩ : Pc)]).map Pc.val) := by
      rw [List.length_append, List.map_append]
      exact row_kept hown hks (fun k hv e => by subst e; exact row_notM hown hrow1 (by decide) hv)
    have hfi := row_kept (row_kept h.me hk1 (type_ne (by decide) h.me h.bs)) hks (fun k hv e => by subst e; exact row_notM h.me h.row (by decide) hv)
    refine ⟨⟨?_, hmine, hfi⟩, (hk1.mono (fun _ _ h => .inr h)).trans hks (fun _ _ h => .inl h), hnew⟩
    rw [setCell_eq_setRow w1 g 0 _ _ _ _ hrow1, setRow_heap w1 g _ _ _ _ hrow1]; rfl
  clear h hna hk0 hown hgrow hcase hk1 hrow1 hnew
  go_enter Tryd.func21, Tryd.ntmps21
  go_wp2_with (at_builtin; refine Lib.wpList_append_run_sl _ rfl _ _ 44 rfl _ _ rfl rfl hr ?_)
  go_end0
  exact ⟨rfl, _, HR.out⟩

/-- A Bag that is full takes no more bytes. -/
theorem addBytes_mfull (g : Nat) (bv mv : Value) (qs : List Pc) (ms : List Value) (B : Nat) (pa : Option Addr) (pn pc : Nat) (w : World) (h : BagM w g bv mv qs ms B) (hn : 600 ≤ qs.length) :
    Calls Tryd.prog 21 #[.pointer (some ⟨g, 0, none⟩), .slice pa pn pc] w fun e w' => e = .returned (.tuple #[]) ∧ w' = w := by
  have c0 := bagM_c0 h.row
  obtain ⟨ao, n, cap, hv⟩ : ∃ ao n cap, bv = .slice ao n cap ∧ n = qs.length := by
    rcases h.bs.2 with ⟨rfl, h0⟩ | ⟨g', c, cur, rfl, _⟩
    · exact ⟨none, 0, 0, rfl, h0.symm⟩
    · exact ⟨_, _, _, rfl, rfl⟩
  obtain ⟨rfl, rfl⟩ := hv
  have hgw : g < w.heap.size := lt_of_block h.row
  have hd : decide ((qs.length : Int) < 600) = false := by simp; omega
  clear h
  go_enter Tryd.func21, Tryd.ntmps21
  go_wp2
  go_end0
  exact ⟨rfl, rfl⟩

/-- One more list of bytes, where there is room. -/
theorem addBytes_more (g : Nat) (bv mv : Value) (qs : List Pc) (ms : List Value) (B : Nat) (pa : Option Addr) (pn pc : Nat) (w : World) (h : BagM w g bv mv (qs.take 600) ms B) (hB : B ≤ w.heap.size) :
    Calls Tryd.prog 21 #[.pointer (some ⟨g, 0, none⟩), .slice pa pn pc] w fun e w' => e = .returned (.tuple #[]) ∧ ∃ v', BagM w' g v' mv ((qs ++ [(⟨pa, pn, pc⟩ : Pc)]).take 600) ms B ∧ Kept w w' (fun k => k = g ∨ bv.ownBlock = some k) ∧ NewRow w bv v' := by
  by_cases hl : qs.length < 600
  · rw [List.take_of_length_le (by simp; omega)]
    rw [List.take_of_length_le (by omega)] at h
    exact addBytes_m g bv mv qs ms B pa pn pc w h hl hB
  · rw [List.take_append_of_le_length (by omega)]
    refine (addBytes_mfull g bv mv _ ms B pa pn pc w h (by rw [List.length_take]; omega)).mono ?_
    rintro e w' ⟨rfl, rfl⟩
    exact ⟨rfl, bv, h, Kept.refl _ _, Or.inl rfl⟩

theorem Tryd.infoMeL : (Tryd.prog.info? 35).map (fun i => (i.zero, i.size, i.bytes)) = some (some (.slice none 0 0), 1, 24) := by kernel_rfl

set_option maxHeartbeats 1000000 in
/-- One more list of messages, and their bytes, as far as there is room. -/
theorem addMessages_m (g : Nat) (bv mv : Value) (qs : List Pc) (ms : List Value) (B : Nat) (pa : Option Addr) (pn pc : Nat) (xs : List Value) (w : World) (h : BagM w g bv mv (qs.take 600) ms B) (hn : ms.length < 600) (hB : B ≤ w.heap.size) (hpn : pn ≤ 2000000000)
    (hx : w.ownsRow 0 72 4 (.slice pa pn pc) pn xs) (hxs : ∀ i, i < pn → ∃ a n c, xs[i * 4 + 2]? = some (.slice a n c)) :
    Calls Tryd.prog 10 #[.pointer (some ⟨g, 0, none⟩), .slice pa pn pc] w fun e w' => e = .returned (.tuple #[]) ∧ ∃ bv' mv', BagM w' g bv' mv' ((qs ++ msPc xs pn).take 600) (ms ++ [.slice pa pn pc]) B ∧ Kept w w' (fun k => k = g ∨ mv.ownBlock = some k ∨ bv.ownBlock = some k) := by
  have HX : Hid (w.ownsRow 0 72 4 (.slice pa pn pc) pn xs ∧ (∀ i, i < pn → ∃ a n c, xs[i * 4 + 2]? = some (.slice a n c)) ∧ BagM w g bv mv (qs.take 600) ms B ∧ B ≤ w.heap.size) := ⟨hx, hxs, h, hB⟩
  clear hx hxs
  obtain ⟨i1, gi, gz0, gz1, gz2⟩ := info3B Tryd.infoMeL
  have c0 := bagM_c14 h.row
  have f0 := frozen_of_row w g 14 _ _ h.row
  obtain ⟨ao, n, cap, hv⟩ : ∃ ao n cap, mv = .slice ao n cap ∧ n = ms.length := by
    rcases h.me.2 with ⟨rfl, h0⟩ | ⟨g', c, cur, rfl, _⟩
    · exact ⟨none, 0, 0, rfl, h0.symm⟩
    · exact ⟨_, _, _, rfl, rfl⟩
  obtain ⟨rfl, rfl⟩ := hv
  have hgw : g < w.heap.size := lt_of_block h.row
  have hna := row_notM h.me h.row (by decide)
  have hd : decide ((ms.length : Int) < 600) = true := by simp; omega
  have hk0 : Kept w (w.alloc (.cells #[.slice pa pn pc] 35)) (fun _ => False) := (Kept.refl w _).alloc _
  obtain ⟨v', w1, hr, hown, hgrow, hcase⟩ := app_row (P := Tryd.prog) B 58 58 35 i1 (.slice none 0 0) 1 24 Tryd.underlying58 gi gz0 gz1 gz2 rfl (by decide) _ _ _ (row_kept h.me hk0 (fun _ _ h => h)) w.heap.size [.slice pa pn pc] rfl (heap_alloc_new _ _) (by simp [Value.oneCell']) (by omega) (by decide) (Nat.le_trans hB hk0.size)
  have hk1 : Kept w w1 (fun k => (Value.slice ao ms.length cap).ownBlock = some k) := (hk0.mono (fun _ _ h => h.elim)).trans ⟨hgrow.os, hgrow.tape, hgrow.output, hgrow.size, fun k hk hne => hgrow.block k hk (fun e => hne e.symm)⟩ (fun _ _ h => h)
  have hrow1 := hk1.heap h.row hna
  have c1 := bagM_c14 hrow1
  have f1 := frozen_of_row w1 g 14 _ _ hrow1
  obtain ⟨ao', n', cap', rfl⟩ := row_form hown
  have HR : Hid (BagM (w1.setCell ⟨g, 14, none⟩ (.slice ao' n' cap')) g bv (.slice ao' n' cap') (qs.take 600) (ms ++ [.slice pa pn pc]) B ∧ Kept w (w1.setCell ⟨g, 14, none⟩ (.slice ao' n' cap')) (fun k => k = g ∨ (Value.slice ao ms.length cap).ownBlock = some k)) := by
    have hks : Kept w1 (w1.setCell ⟨g, 14, none⟩ (.slice ao' n' cap')) (fun k => k = g) := Kept.setCell (S := fun k => k = g) (Kept.refl w1 _) ⟨g, 14, none⟩ _ (fun _ => rfl)
    have hmine : (w1.setCell ⟨g, 14, none⟩ (.slice ao' n' cap')).ownsRow B 35 1 (.slice ao' n' cap') (ms ++ [Value.slice pa pn pc]).length (ms ++ [.slice pa pn pc]) := by
      rw [List.length_append]
      exact row_kept hown hks (fun k hv e => by subst e; exact row_notM hown hrow1 (by decide) hv)
    have hbs := row_kept (row_kept h.bs hk1 (type_ne (by decide) h.bs h.me)) hks (fun k hv e => by subst e; exact row_notM h.bs h.row (by decide) hv)
    refine ⟨⟨?_, hbs, hmine⟩, (hk1.mono (fun _ _ h => .inr h)).trans hks (fun _ _ h => .inl h)⟩
    rw [setCell_eq_setRow w1 g 14 _ _ _ _ hrow1, setRow_heap w1 g _ _ _ _ hrow1]; rfl
  clear h hna hk0 hown hgrow hcase hk1 hrow1
  go_enter Tryd.func10, Tryd.ntmps10
  go_wp2_with (at_builtin; refine Lib.wpList_append_run_sl _ rfl _ _ 58 rfl _ _ rfl rfl hr ?_)
  clear c0 f0 hr c1 f1 gz0 gz1 gz2 hd
  go_loopw [4] (fun vi wr => ∃ k : Nat, k ≤ pn ∧ vi = .int .i64 (k : Int) ∧ Hid (∃ bv', BagM wr g bv' (.slice ao' n' cap') ((qs ++ (msPc xs pn).take k).take 600) (ms ++ [.slice pa pn pc]) B ∧ Kept w wr (fun j => j = g ∨ (Value.slice ao ms.length cap).ownBlock = some j ∨ bv.ownBlock = some j) ∧ NewRow w bv bv')) (fun vi _ => pn - (intOf vi).toNat)
  case atStart => exact ⟨0, Nat.zero_le _, rfl, bv, by simpa using HR.out.1, HR.out.2.mono (fun k _ e => e.elim .inl (fun e => .inr (.inl e))), .inl rfl⟩
  case round =>
    obtain ⟨k, hk, rfl, HI⟩ := hrel
    clear HR
    by_cases hlt : k < pn ∧ k < 600
    · obtain ⟨hlt, hl6⟩ := hlt
      have d0 : decide ((k : Int) < (pn : Int)) = true := by simp; omega
      have d1 : decide ((k : Int) < 600) = true := by simp; omega
      obtain ⟨bv2, hb, hkp, hnr⟩ := HI.out
      obtain ⟨hx, hxs, h0, hB0⟩ := HX.out
      have hrow := row_kept hx hkp (fun j e e' => by
        rcases e' with rfl | e' | e'
        · exact row_notM hx h0.row (by decide) e
        · exact type_ne (by decide) hx h0.me _ e e'
        · exact type_ne (by decide) hx h0.bs _ e e')
      obtain ⟨ua, un, uc, hu⟩ := hxs k hlt
      obtain ⟨ga, hga, hgc⟩ := row_first hrow (by omega)
      have hc : wr.cell? ⟨ga, k * 4 + 2, none⟩ = some (.slice ua un uc) := by
        rw [hgc _ (by have := Nat.mul_le_mul_right 4 (show k + 1 ≤ pn from hlt); omega)]
        exact hu
      have hgl := lt_of_block hb.row
      have HO : Hid _ := addBytes_more g bv2 (.slice ao' n' cap') (qs ++ (msPc xs pn).take k) (ms ++ [.slice pa pn pc]) B ua un uc wr hb (Nat.le_trans hB0 hkp.size)
      have HS : Hid (Kept w wr (fun j => j = g ∨ (Value.slice ao ms.length cap).ownBlock = some j ∨ bv.ownBlock = some j) ∧ NewRow w bv bv2 ∧ (qs ++ (msPc xs pn).take k) ++ [(⟨ua, un, uc⟩ : Pc)] = qs ++ (msPc xs pn).take (k + 1)) := by
        refine ⟨hkp, hnr, ?_⟩
        rw [List.take_add_one, List.getElem?_eq_getElem (by rw [msPc_len]; exact hlt), msPc_at xs pn k hlt, List.append_assoc]
        simp [List.getD, hu, pcM]
      subst hga
      clear hb hkp hnr hx hxs h0 hrow hu HI hgc
      have q0 : (0 : Int) ≤ (k : Int) := by omega
      have q1 : (k : Int) < (pn : Int) := by omega
      go_wp2_with fail
      refine Calls.mono HO.out ?_
      rintro e w3 ⟨rfl, v3, hb3, hk3, hn3⟩
      have H3 : Hid (∃ bv', BagM w3 g bv' (.slice ao' n' cap') ((qs ++ (msPc xs pn).take (k + 1)).take 600) (ms ++ [.slice (some ⟨ga, 0, none⟩) pn pc]) B ∧ Kept w w3 (fun j => j = g ∨ (Value.slice ao ms.length cap).ownBlock = some j ∨ bv.ownBlock = some j) ∧ NewRow w bv bv') := by
        obtain ⟨hkp, hnr, e⟩ := HS.out
        rw [e] at hb3
        refine ⟨v3, hb3, hkp.trans hk3 (fun j hj e => ?_), ?_⟩
        · rcases e with e | e
          · exact .inl e
          · rcases hnr with hnr | ⟨k', hnr, hk'⟩
            · exact .inr (.inr (by rw [← hnr]; exact e))
            · rw [hnr] at e
              simp at e
              omega
        · rcases hn3 with hn3 | ⟨k', hn3, hk'⟩
          · rcases hnr with hnr | ⟨k', hnr, hk'⟩
            · exact .inl (hn3.trans hnr)
            · exact .inr ⟨k', hn3.trans hnr, hk'⟩
          · exact .inr ⟨k', hn3, Nat.le_trans hkp.size hk'⟩
      clear hb3 hk3 hn3 HS HO hc hgl
      go_wp2
      go_roundw
      case rel => exact ⟨k + 1, by omega, by go_num, H3.out⟩
      case measure => simp [intOf]; omega
    · have hfin : (qs ++ (msPc xs pn).take k).take 600 = (qs ++ msPc xs pn).take 600 := by
        by_cases hkp : k < pn
        · have hk6 : 600 ≤ k := by omega
          rw [List.take_append, List.take_append, List.take_take, Nat.min_eq_left (by omega)]
        · rw [List.take_of_length_le (l := msPc xs pn) (by rw [msPc_len]; omega)]
      have HF : Hid (∃ bv', BagM wr g bv' (.slice ao' n' cap') ((qs ++ msPc xs pn).take 600) (ms ++ [.slice pa pn pc]) B ∧ Kept w wr (fun j => j = g ∨ (Value.slice ao ms.length cap).ownBlock = some j ∨ bv.ownBlock = some j) ∧ NewRow w bv bv') := by
        rw [← hfin]
        exact HI.out
      clear HI hfin
      by_cases hkp : k < pn
      · have n6 : ¬ k < 600 := by omega
        have d0 : decide ((k : Int) < (pn : Int)) = true := by simp; omega
        have d1 : decide ((k : Int) < 600) = false := by simp; omega
        clear hlt
        go_wp2
        go_end0
        obtain ⟨bv2, hb, hkp2, _⟩ := HF.out
        exact ⟨rfl, bv2, _, hb, hkp2⟩
      · have d0 : decide ((k : Int) < (pn : Int)) = false := by simp; omega
        clear hlt
        go_wp2
        go_end0
        obtain ⟨bv2, hb, hkp2, _⟩ := HF.out
        exact ⟨rfl, bv2, _, hb, hkp2⟩

set_option maxHeartbeats 2000000 in
theorem bagApart_m (g B : Nat) (bv mv : Value) (ps : List Pc) (ms : List Rw) (Xm : Nat → List Value) (w : World) (h : BagM w g bv mv ps (ms.map Rw.v) B)
    (hl : ∀ q ∈ ps, Lies w 5 q) (hap : ApartPcs ps) (hnp : ps.length ≤ 600) (hbp : ∀ q ∈ ps, q.n ≤ 70000000000000) (hfp : ∀ x, ¬ feet ps 0 x)
    (hrm : RowsR w 72 4 ms Xm) (ham : ApartR ms) (hnm : ms.length ≤ 600) (hbm : ∀ j (hj : j < ms.length), ms[j].n ≤ 1100000000) (hgm : ¬ BlkR ms 0)
    (ht : Tab w) (hg0 : 0 < w.heap.size) :
    Calls Tryd.prog 11 #[.pointer (some ⟨g, 0, none⟩)] w fun e w' => e = .returned (.bool true) ∧ ∃ w1, Turned w w1 (feet ps) ∧ Kept w1 w' (BlkR ms) ∧ (∀ q ∈ ps, Lies w1 5 q) ∧ BagM w' g bv mv ps (ms.map Rw.v) B ∧ ∃ Xm', RowsR w' 72 4 ms Xm' := by
  have cs := bagM_cells h.row
  have H : Hid (BagM w g bv mv ps (ms.map Rw.v) B ∧ (∀ q ∈ ps, Lies w 5 q) ∧ ApartPcs ps ∧ (∀ q ∈ ps, q.n ≤ 70000000000000)) := ⟨h, hl, hap, hbp⟩
  have H1 : Hid (∀ w1, Turned w w1 (feet ps) → BagM w1 g bv mv ps (ms.map Rw.v) B ∧ RowsR w1 72 4 ms Xm ∧ Tab w1 ∧ 0 < w1.heap.size ∧ (∀ q ∈ ps, Lies w1 5 q)) := fun w1 hT => by
    refine ⟨⟨?_, row_turnedM h.bs hT hl (by decide), row_turnedM h.me hT hl (by decide)⟩, fun j hj => row_turnedM (hrm j hj) hT hl (by decide), tab_same ht (hT.same _ hg0 hfp), Nat.lt_of_lt_of_le hg0 hT.size, fun q hq => (hl q hq).turned hT⟩
    rw [hT.same g (lt_of_block h.row) (fun x hs => ?_)]
    · exact h.row
    · obtain ⟨q, hq, hf⟩ := hs
      obtain ⟨_, cs2, hr2⟩ := (hl q hq).foot_lt hf
      rw [h.row] at hr2
      simp at hr2
  have H3 : Hid (ApartR ms ∧ (∀ j (hj : j < ms.length), ms[j].n ≤ 1100000000) ∧ ¬ BlkR ms 0) := ⟨ham, hbm, hgm⟩
  have c0 : w.cell? ⟨g, 0, none⟩ = some bv := cs 0 (by omega)
  have hgl := lt_of_block h.row
  clear h cs hl hap hbp hfp hrm ham hbm hgm ht hg0
  go_enter Tryd.func11, Tryd.ntmps11
  go_wp2_with fail
  refine (apartBytes_any bv ps _ (sees_ownM H.out.1.bs) H.out.2.1 H.out.2.2.1 hnp H.out.2.2.2).mono ?_
  rintro e w1 ⟨rfl, hT1⟩
  have H4 : Hid (BagM w1 g bv mv ps (ms.map Rw.v) B ∧ RowsR w1 72 4 ms Xm ∧ Tab w1 ∧ 0 < w1.heap.size ∧ (∀ q ∈ ps, Lies w1 5 q)) := H1.out w1 hT1
  have HT : Hid (Turned w w1 (feet ps)) := hT1
  have cs := bagM_cells H4.out.1.row
  have c1 : w1.cell? ⟨g, 1, none⟩ = some nilM := cs 1 (by omega)
  have c2 : w1.cell? ⟨g, 2, none⟩ = some nilM := cs 2 (by omega)
  have c3 : w1.cell? ⟨g, 3, none⟩ = some nilM := cs 3 (by omega)
  have c4 : w1.cell? ⟨g, 4, none⟩ = some nilM := cs 4 (by omega)
  have c5 : w1.cell? ⟨g, 5, none⟩ = some nilM := cs 5 (by omega)
  have c6 : w1.cell? ⟨g, 6, none⟩ = some nilM := cs 6 (by omega)
  have c7 : w1.cell? ⟨g, 7, none⟩ = some nilM := cs 7 (by omega)
  have c8 : w1.cell? ⟨g, 8, none⟩ = some nilM := cs 8 (by omega)
  have c9 : w1.cell? ⟨g, 9, none⟩ = some nilM := cs 9 (by omega)
  have c10 : w1.cell? ⟨g, 10, none⟩ = some nilM := cs 10 (by omega)
  have c11 : w1.cell? ⟨g, 11, none⟩ = some nilM := cs 11 (by omega)
  have c12 : w1.cell? ⟨g, 12, none⟩ = some nilM := cs 12 (by omega)
  have c13 : w1.cell? ⟨g, 13, none⟩ = some nilM := cs 13 (by omega)
  have c14 : w1.cell? ⟨g, 14, none⟩ = some mv := cs 14 (by omega)
  have hgl1 := lt_of_block H4.out.1.row
  clear hT1 cs c0 H1
  go_wp2_with fail
  refine (apartInts_nil _).mono ?_
  rintro e w3 ⟨rfl, rfl⟩
  go_wp2_with fail
  refine (apartTexts_nil _).mono ?_
  rintro e w3 ⟨rfl, rfl⟩
  go_wp2_with fail
  refine (apartPieces_nil _).mono ?_
  rintro e w3 ⟨rfl, rfl⟩
  go_wp2_with fail
  refine (apartIds_nil _).mono ?_
  rintro e w3 ⟨rfl, rfl⟩
  go_wp2_with fail
  refine (apartAcl_nil _).mono ?_
  rintro e w3 ⟨rfl, rfl⟩
  go_wp2_with fail
  refine (apartRequests_nil _).mono ?_
  rintro e w3 ⟨rfl, rfl⟩
  go_wp2_with fail
  refine (apartTxns_nil _).mono ?_
  rintro e w3 ⟨rfl, rfl⟩
  go_wp2_with fail
  refine (apartResults_nil _).mono ?_
  rintro e w3 ⟨rfl, rfl⟩
  go_wp2_with fail
  refine (apartNodes_nil _).mono ?_
  rintro e w3 ⟨rfl, rfl⟩
  go_wp2_with fail
  refine (apartSessions_nil _).mono ?_
  rintro e w3 ⟨rfl, rfl⟩
  go_wp2_with fail
  refine (apartChanges_nil _).mono ?_
  rintro e w3 ⟨rfl, rfl⟩
  go_wp2_with fail
  refine (apartFiles_nil _).mono ?_
  rintro e w3 ⟨rfl, rfl⟩
  go_wp2_with fail
  refine (apartPackets_nil _).mono ?_
  rintro e w3 ⟨rfl, rfl⟩
  go_wp2_with fail
  refine (apartMessages_any mv ms Xm _ (seesL_ownM H4.out.1.me) H4.out.2.1 H3.out.1 hnm H3.out.2.1 H4.out.2.2.1 H4.out.2.2.2.1 H3.out.2.2).mono ?_
  rintro e w2 ⟨rfl, hk2, hx2⟩
  have hrow2 := hk2.heap H4.out.1.row (blkR_notM H4.out.2.1 H4.out.1.row (by decide))
  have HE : Hid (∃ w1, Turned w w1 (feet ps) ∧ Kept w1 w2 (BlkR ms) ∧ (∀ q ∈ ps, Lies w1 5 q) ∧ BagM w2 g bv mv ps (ms.map Rw.v) B ∧ ∃ Xm', RowsR w2 72 4 ms Xm') := by
    refine ⟨_, HT.out, hk2, H4.out.2.2.2.2, ⟨hrow2, row_kept H4.out.1.bs hk2 (fun k e hb => ?_), row_kept H4.out.1.me hk2 (fun k e hb => ?_)⟩, hx2⟩
    · obtain ⟨cs', e'⟩ := row_type H4.out.1.bs e
      exact blkR_notM H4.out.2.1 e' (by decide) hb
    · obtain ⟨cs', e'⟩ := row_type H4.out.1.me e
      exact blkR_notM H4.out.2.1 e' (by decide) hb
  have cs := bagM_cells hrow2
  have c15 : w2.cell? ⟨g, 15, none⟩ = some nilM := cs 15 (by omega)
  have c16 : w2.cell? ⟨g, 16, none⟩ = some nilM := cs 16 (by omega)
  have c17 : w2.cell? ⟨g, 17, none⟩ = some nilM := cs 17 (by omega)
  have c18 : w2.cell? ⟨g, 18, none⟩ = some nilM := cs 18 (by omega)
  have c19 : w2.cell? ⟨g, 19, none⟩ = some nilM := cs 19 (by omega)
  have c20 : w2.cell? ⟨g, 20, none⟩ = some nilM := cs 20 (by omega)
  have hgl2 := lt_of_block hrow2
  clear hrow2 hk2 hx2 cs c1 c2 c3 c4 c5 c6 c7 c8 c9 c10 c11 c12 c13 c14 HT H4
  go_wp2_with fail
  refine (apartWatches_nil _).mono ?_
  rintro e w6 ⟨rfl, rfl⟩
  go_wp2_with fail
  refine (apartFired_nil _).mono ?_
  rintro e w6 ⟨rfl, rfl⟩
  go_wp2_with fail
  refine (apartFacts_nil _).mono ?_
  rintro e w6 ⟨rfl, rfl⟩
  go_wp2_with fail
  refine (apartSends_nil _).mono ?_
  rintro e w6 ⟨rfl, rfl⟩
  go_wp2_with fail
  refine (apartEvents_nil _).mono ?_
  rintro e w6 ⟨rfl, rfl⟩
  go_wp2_with fail
  refine (apartFactss_nil _).mono ?_
  rintro e w6 ⟨rfl, rfl⟩
  go_wp2
  go_ret
  exact ⟨rfl, HE.out⟩

end Go.Proofs.YtghngopclhhoeaaDoor
