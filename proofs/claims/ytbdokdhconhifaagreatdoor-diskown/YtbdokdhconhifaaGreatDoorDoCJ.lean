/- The statements' Bag that holds lists of bytes, of texts and of files: AddTexts, AddFiles, Apart. -/
import Derived.Test.YtbdokdhconhifaaGreatDoorDoBJ
import Derived.Test.YtbdokdhconhifaaGreatDoorTurn3J
import Derived.Test.YtbdokdhconhifaaGreatDoorShelfCJ
import Derived.Test.YtbdokdhconhifaaGreatDoorDoEJ
import Derived.Test.YtbdokdhconhifaaGreatDoorDkSJ
namespace Go.Proofs.YtbdokdhconhifaaGreatDoor
open Go.RowKit Go.Shelf
set_option maxRecDepth 8000

/-- The cells of a Bag that holds lists of bytes, of texts and of files. -/
abbrev bagD (bv tv fv : Value) : Array Value := #[bv, nilS, tv, nilS, nilS, nilS, nilS, nilS, nilS, nilS, nilS, nilS, fv, nilS, nilS, nilS, nilS, nilS, nilS, nilS, nilS]

structure BagD (w : World) (g : Nat) (bv tv fv : Value) (ps : List Pc) (ts fs : List Value) (B : Nat) : Prop where
  row : w.heap[g]? = some (.cells (bagD bv tv fv) 55 (0, 0))
  bs : w.ownsRow B 58 1 bv ps.length (ps.map Pc.val)
  ts : w.ownsRow B 56 1 tv ts.length ts
  fi : w.ownsRow B 22 1 fv fs.length fs

theorem BagD.ofB {w : World} {g B : Nat} {bv : Value} {ps : List Pc} (h : BagIs w g bv nilS ps [] B) : BagD w g bv nilS nilS ps [] [] B :=
  ⟨h.row, h.bs, ⟨rfl, .inl ⟨rfl, rfl⟩⟩, ⟨rfl, .inl ⟨rfl, rfl⟩⟩⟩

/-- A list of bytes as a piece. -/
def pcV : Value → Pc
  | .slice a n c => ⟨a, n, c⟩
  | _ => ⟨none, 0, 0⟩

theorem bagD_c0 {w : World} {g : Nat} {bv tv fv : Value} (h : w.heap[g]? = some (.cells (bagD bv tv fv) 55 (0, 0))) : w.cell? ⟨g, 0, none⟩ = some bv := by rw [cell_of_row w g 0 _ _ _ h]; rfl
theorem bagD_cells {w : World} {g : Nat} {bv tv fv : Value} (h : w.heap[g]? = some (.cells (bagD bv tv fv) 55 (0, 0))) : ∀ j, j < 21 → w.cell? ⟨g, j, none⟩ = (bagD bv tv fv)[j]? := fun j _ => cell_of_row w g j _ _ _ h
theorem bagD_c2 {w : World} {g : Nat} {bv tv fv : Value} (h : w.heap[g]? = some (.cells (bagD bv tv fv) 55 (0, 0))) : w.cell? ⟨g, 2, none⟩ = some tv := by rw [cell_of_row w g 2 _ _ _ h]; rfl
theorem bagD_c12 {w : World} {g : Nat} {bv tv fv : Value} (h : w.heap[g]? = some (.cells (bagD bv tv fv) 55 (0, 0))) : w.cell? ⟨g, 12, none⟩ = some fv := by rw [cell_of_row w g 12 _ _ _ h]; rfl

/-- A row of another kind than bytes stands where lists of bytes are turned. -/
theorem row_turnedD {w w' : World} {base : Nat} {T : TypeId} {z n : Nat} {v : Value} {xs : List Value} {ps : List Pc} (h : w.ownsRow base T z v n xs) (ht : Turned w w' (feet ps)) (hl : ∀ q ∈ ps, Lies w 5 q) (hT : T ≠ 5) : w'.ownsRow base T z v n xs := by
  obtain ⟨h1, h2 | ⟨g, cap, cur, rfl, a2, a3, a4⟩⟩ := h
  · exact ⟨h1, .inl h2⟩
  · refine ⟨h1, .inr ⟨g, cap, cur, rfl, a2, ?_, a4⟩⟩
    rw [ht.same g (lt_of_block a3) (fun x hs => ?_)]
    · exact a3
    · obtain ⟨q, hq, hf⟩ := hs
      obtain ⟨_, cs2, hr2⟩ := (hl q hq).foot_lt hf
      rw [a3] at hr2
      simp at hr2
      exact hT hr2.2

set_option maxHeartbeats 400000 in
theorem addTexts_d (g : Nat) (bv tv fv : Value) (qs : List Pc) (ts fs : List Value) (B : Nat) (pa : Option Addr) (pn pc : Nat) (w : World) (h : BagD w g bv tv fv qs ts fs B) (hn : ts.length < 600) (hB : B ≤ w.heap.size) :
    Calls Tryz.prog 11 #[.pointer (some ⟨g, 0, none⟩), .slice pa pn pc] w fun e w' => e = .returned (.tuple #[]) ∧ ∃ v', BagD w' g bv v' fv qs (ts ++ [.slice pa pn pc]) fs B ∧ Kept w w' (fun k => k = g ∨ tv.ownBlock = some k) ∧ NewRow w tv v' := by
  obtain ⟨i1, gi, gz0, gz1, gz2⟩ := info3B Tryz.infoSL
  have c0 := bagD_c2 h.row
  have f0 := frozen_of_row w g 2 _ _ h.row
  obtain ⟨ao, n, cap, hv⟩ : ∃ ao n cap, tv = .slice ao n cap ∧ n = ts.length := by
    rcases h.ts.2 with ⟨rfl, h0⟩ | ⟨g', c, cur, rfl, _⟩
    · exact ⟨none, 0, 0, rfl, h0.symm⟩
    · exact ⟨_, _, _, rfl, rfl⟩
  obtain ⟨rfl, rfl⟩ := hv
  have hgw : g < w.heap.size := lt_of_block h.row
  have hna := row_not h.ts h.row (by decide)
  have hd : decide ((ts.length : Int) < 600) = true := by simp; omega
  have hk0 : Kept w (w.alloc (.cells #[.slice pa pn pc] 56)) (fun _ => False) := (Kept.refl w _).alloc _
  obtain ⟨v', w1, hr, hown, hgrow, hcase⟩ := app_row (P := Tryz.prog) B 35 35 56 i1 (.slice none 0 0) 1 24 Tryz.underlying35 gi gz0 gz1 gz2 rfl (by decide) _ _ _ (row_kept h.ts hk0 (fun _ _ h => h)) w.heap.size [.slice pa pn pc] rfl (heap_alloc_new _ _) (by simp [Value.oneCell']) (by omega) (by decide) (Nat.le_trans hB hk0.size)
  have hk1 : Kept w w1 (fun k => (Value.slice ao ts.length cap).ownBlock = some k) := (hk0.mono (fun _ _ h => h.elim)).trans ⟨hgrow.os, hgrow.tape, hgrow.output, hgrow.size, fun k hk hne => hgrow.block k hk (fun e => hne e.symm)⟩ (fun _ _ h => h)
  have hrow1 := hk1.heap h.row hna
  have hnew : NewRow w (.slice ao ts.length cap) v' := by
    rcases hcase with ⟨g2, cp, e1, rfl⟩ | ⟨e, _⟩
    · simp only [Value.slice.injEq] at e1
      exact .inl (by rw [e1.1]; rfl)
    · exact .inr ⟨_, e, by simp⟩
  have c1 := bagD_c2 hrow1
  have f1 := frozen_of_row w1 g 2 _ _ hrow1
  obtain ⟨ao', n', cap', rfl⟩ := row_form hown
  have HR : Hid (BagD (w1.setCell ⟨g, 2, none⟩ (.slice ao' n' cap')) g bv (.slice ao' n' cap') fv qs (ts ++ [.slice pa pn pc]) fs B ∧ Kept w (w1.setCell ⟨g, 2, none⟩ (.slice ao' n' cap')) (fun k => k = g ∨ (Value.slice ao ts.length cap).ownBlock = some k) ∧ NewRow w (.slice ao ts.length cap) (.slice ao' n' cap')) := by
    have hks : Kept w1 (w1.setCell ⟨g, 2, none⟩ (.slice ao' n' cap')) (fun k => k = g) := Kept.setCell (S := fun k => k = g) (Kept.refl w1 _) ⟨g, 2, none⟩ _ (fun _ => rfl)
    have hmine : (w1.setCell ⟨g, 2, none⟩ (.slice ao' n' cap')).ownsRow B 56 1 (.slice ao' n' cap') (ts ++ [Value.slice pa pn pc]).length (ts ++ [.slice pa pn pc]) := by
      rw [List.length_append]
      exact row_kept hown hks (fun k hv e => by subst e; exact row_not hown hrow1 (by decide) hv)
    have hbs := row_kept (row_kept h.bs hk1 (type_ne (by decide) h.bs h.ts)) hks (fun k hv e => by subst e; exact row_not h.bs h.row (by decide) hv)
    have hother := row_kept (row_kept h.fi hk1 (type_ne (by decide) h.fi h.ts)) hks (fun k hv e => by subst e; exact row_not h.fi h.row (by decide) hv)
    refine ⟨⟨?_, hbs, hmine, hother⟩, (hk1.mono (fun _ _ h => .inr h)).trans hks (fun _ _ h => .inl h), hnew⟩
    rw [setCell_eq_setRow w1 g 2 _ _ _ _ hrow1, setRow_heap w1 g _ _ _ _ hrow1]; rfl
  clear h hna hk0 hown hgrow hcase hk1 hrow1 hnew
  go_enter Tryz.func11, Tryz.ntmps11
  go_wp2_with (at_builtin; refine Lib.wpList_append_run_sl _ rfl _ _ 35 rfl _ _ rfl rfl hr ?_)
  go_end0
  exact ⟨rfl, _, HR.out⟩

set_option maxHeartbeats 400000 in
theorem addBytes_d (g : Nat) (bv tv fv : Value) (qs : List Pc) (ts fs : List Value) (B : Nat) (pa : Option Addr) (pn pc : Nat) (w : World) (h : BagD w g bv tv fv qs ts fs B) (hn : qs.length < 600) (hB : B ≤ w.heap.size) :
    Calls Tryz.prog 10 #[.pointer (some ⟨g, 0, none⟩), .slice pa pn pc] w fun e w' => e = .returned (.tuple #[]) ∧ ∃ v', BagD w' g v' tv fv (qs ++ [⟨pa, pn, pc⟩]) ts fs B ∧ Kept w w' (fun k => k = g ∨ bv.ownBlock = some k) ∧ NewRow w bv v' := by
  obtain ⟨i1, gi, gz0, gz1, gz2⟩ := info_parts Tryz.infoBytes
  have c0 := bagD_c0 h.row
  have f0 := frozen_of_row w g 0 _ _ h.row
  obtain ⟨ao, n, cap, hv⟩ : ∃ ao n cap, bv = .slice ao n cap ∧ n = qs.length := by
    rcases h.bs.2 with ⟨rfl, h0⟩ | ⟨g', c, cur, rfl, _⟩
    · exact ⟨none, 0, 0, rfl, h0.symm⟩
    · exact ⟨_, _, _, rfl, rfl⟩
  obtain ⟨rfl, rfl⟩ := hv
  have hgw : g < w.heap.size := lt_of_block h.row
  have hna := row_not h.bs h.row (by decide)
  have hd : decide ((qs.length : Int) < 600) = true := by simp; omega
  have hk0 : Kept w (w.alloc (.cells #[.slice pa pn pc] 58)) (fun _ => False) := (Kept.refl w _).alloc _
  obtain ⟨v', w1, hr, hown, hgrow, hcase⟩ := app_row (P := Tryz.prog) B 33 33 58 i1 (.slice none 0 0) 1 24 Tryz.underlying33 gi gz0 gz1 gz2 rfl (by decide) _ _ _ (row_kept h.bs hk0 (fun _ _ h => h)) w.heap.size [.slice pa pn pc] rfl (heap_alloc_new _ _) (by simp [Value.oneCell']) (by omega) (by decide) (Nat.le_trans hB hk0.size)
  have hk1 : Kept w w1 (fun k => (Value.slice ao qs.length cap).ownBlock = some k) := (hk0.mono (fun _ _ h => h.elim)).trans ⟨hgrow.os, hgrow.tape, hgrow.output, hgrow.size, fun k hk hne => hgrow.block k hk (fun e => hne e.symm)⟩ (fun _ _ h => h)
  have hrow1 := hk1.heap h.row hna
  have hnew : NewRow w (.slice ao qs.length cap) v' := by
    rcases hcase with ⟨g2, cp, e1, rfl⟩ | ⟨e, _⟩
    · simp only [Value.slice.injEq] at e1
      exact .inl (by rw [e1.1]; rfl)
    · exact .inr ⟨_, e, by simp⟩
  have c1 := bagD_c0 hrow1
  have f1 := frozen_of_row w1 g 0 _ _ hrow1
  obtain ⟨ao', n', cap', rfl⟩ := row_form hown
  have HR : Hid (BagD (w1.setCell ⟨g, 0, none⟩ (.slice ao' n' cap')) g (.slice ao' n' cap') tv fv (qs ++ [⟨pa, pn, pc⟩]) ts fs B ∧ Kept w (w1.setCell ⟨g, 0, none⟩ (.slice ao' n' cap')) (fun k => k = g ∨ (Value.slice ao qs.length cap).ownBlock = some k) ∧ NewRow w (.slice ao qs.length cap) (.slice ao' n' cap')) := by
    have hks : Kept w1 (w1.setCell ⟨g, 0, none⟩ (.slice ao' n' cap')) (fun k => k = g) := Kept.setCell (S := fun k => k = g) (Kept.refl w1 _) ⟨g, 0, none⟩ _ (fun _ => rfl)
    have hmine : (w1.setCell ⟨g, 0, none⟩ (.slice ao' n' cap')).ownsRow B 58 1 (.slice ao' n' cap') (qs ++ [(⟨pa, pn, pc⟩ : Pc)]).length ((qs ++ [(⟨pa, pn, pc⟩ : Pc)]).map Pc.val) := by
      rw [List.length_append, List.map_append]
      exact row_kept hown hks (fun k hv e => by subst e; exact row_not hown hrow1 (by decide) hv)
    have hfi := row_kept (row_kept h.fi hk1 (type_ne (by decide) h.fi h.bs)) hks (fun k hv e => by subst e; exact row_not h.fi h.row (by decide) hv)
    have hother := row_kept (row_kept h.ts hk1 (type_ne (by decide) h.ts h.bs)) hks (fun k hv e => by subst e; exact row_not h.ts h.row (by decide) hv)
    refine ⟨⟨?_, hmine, hother, hfi⟩, (hk1.mono (fun _ _ h => .inr h)).trans hks (fun _ _ h => .inl h), hnew⟩
    rw [setCell_eq_setRow w1 g 0 _ _ _ _ hrow1, setRow_heap w1 g _ _ _ _ hrow1]; rfl
  clear h hna hk0 hown hgrow hcase hk1 hrow1 hnew
  go_enter Tryz.func10, Tryz.ntmps10
  go_wp2_with (at_builtin; refine Lib.wpList_append_run_sl _ rfl _ _ 33 rfl _ _ rfl rfl hr ?_)
  go_end0
  exact ⟨rfl, _, HR.out⟩

set_option maxHeartbeats 400000 in
theorem addFiles_d (g : Nat) (bv tv fv : Value) (qs : List Pc) (ts fs : List Value) (B : Nat) (pa : Option Addr) (pn pc : Nat) (w : World) (h : BagD w g bv tv fv qs ts fs B) (hn : fs.length < 600) (hB : B ≤ w.heap.size) (fl : List FiD) (vs : List Value) (B' ga : Nat) (hpa : pa = some ⟨ga, 0, none⟩) (hpn : pn = fl.length) (him : ImgAt w B' (.slice pa pn pc) fl vs) (hfl : qs.length + fl.length < 600) :
    Calls Tryz.prog 13 #[.pointer (some ⟨g, 0, none⟩), .slice pa pn pc] w fun e w' => e = .returned (.tuple #[]) ∧ ∃ bv' v', BagD w' g bv' tv v' (qs ++ vs.map pcV) ts (fs ++ [.slice pa pn pc]) B ∧ Kept w w' (fun k => k = g ∨ fv.ownBlock = some k ∨ bv.ownBlock = some k) := by
  have HIM : Hid (pa = some ⟨ga, 0, none⟩ ∧ pn = fl.length ∧ ImgAt w B' (.slice pa pn pc) fl vs ∧ BagD w g bv tv fv qs ts fs B) := ⟨hpa, hpn, him, h⟩
  clear him hpa hpn
  obtain ⟨i1, gi, gz0, gz1, gz2⟩ := info3B Tryz.infoFiL
  have c0 := bagD_c12 h.row
  have f0 := frozen_of_row w g 12 _ _ h.row
  obtain ⟨ao, n, cap, hv⟩ : ∃ ao n cap, fv = .slice ao n cap ∧ n = fs.length := by
    rcases h.fi.2 with ⟨rfl, h0⟩ | ⟨g', c, cur, rfl, _⟩
    · exact ⟨none, 0, 0, rfl, h0.symm⟩
    · exact ⟨_, _, _, rfl, rfl⟩
  obtain ⟨rfl, rfl⟩ := hv
  have hgw : g < w.heap.size := lt_of_block h.row
  have hna := row_not h.fi h.row (by decide)
  have hd : decide ((fs.length : Int) < 600) = true := by simp; omega
  have hk0 : Kept w (w.alloc (.cells #[.slice pa pn pc] 22)) (fun _ => False) := (Kept.refl w _).alloc _
  obtain ⟨v', w1, hr, hown, hgrow, hcase⟩ := app_row (P := Tryz.prog) B 45 45 22 i1 (.slice none 0 0) 1 24 Tryz.underlying45 gi gz0 gz1 gz2 rfl (by decide) _ _ _ (row_kept h.fi hk0 (fun _ _ h => h)) w.heap.size [.slice pa pn pc] rfl (heap_alloc_new _ _) (by simp [Value.oneCell']) (by omega) (by decide) (Nat.le_trans hB hk0.size)
  have hk1 : Kept w w1 (fun k => (Value.slice ao fs.length cap).ownBlock = some k) := (hk0.mono (fun _ _ h => h.elim)).trans ⟨hgrow.os, hgrow.tape, hgrow.output, hgrow.size, fun k hk hne => hgrow.block k hk (fun e => hne e.symm)⟩ (fun _ _ h => h)
  have hrow1 := hk1.heap h.row hna
  have hnew : NewRow w (.slice ao fs.length cap) v' := by
    rcases hcase with ⟨g2, cp, e1, rfl⟩ | ⟨e, _⟩
    · simp only [Value.slice.injEq] at e1
      exact .inl (by rw [e1.1]; rfl)
    · exact .inr ⟨_, e, by simp⟩
  have c1 := bagD_c12 hrow1
  have f1 := frozen_of_row w1 g 12 _ _ hrow1
  obtain ⟨ao', n', cap', rfl⟩ := row_form hown
  have HR : Hid (BagD (w1.setCell ⟨g, 12, none⟩ (.slice ao' n' cap')) g bv tv (.slice ao' n' cap') qs ts (fs ++ [.slice pa pn pc]) B ∧ Kept w (w1.setCell ⟨g, 12, none⟩ (.slice ao' n' cap')) (fun k => k = g ∨ (Value.slice ao fs.length cap).ownBlock = some k) ∧ NewRow w (.slice ao fs.length cap) (.slice ao' n' cap')) := by
    have hks : Kept w1 (w1.setCell ⟨g, 12, none⟩ (.slice ao' n' cap')) (fun k => k = g) := Kept.setCell (S := fun k => k = g) (Kept.refl w1 _) ⟨g, 12, none⟩ _ (fun _ => rfl)
    have hmine : (w1.setCell ⟨g, 12, none⟩ (.slice ao' n' cap')).ownsRow B 22 1 (.slice ao' n' cap') (fs ++ [Value.slice pa pn pc]).length (fs ++ [.slice pa pn pc]) := by
      rw [List.length_append]
      exact row_kept hown hks (fun k hv e => by subst e; exact row_not hown hrow1 (by decide) hv)
    have hbs := row_kept (row_kept h.bs hk1 (type_ne (by decide) h.bs h.fi)) hks (fun k hv e => by subst e; exact row_not h.bs h.row (by decide) hv)
    have hother := row_kept (row_kept h.ts hk1 (type_ne (by decide) h.ts h.fi)) hks (fun k hv e => by subst e; exact row_not h.ts h.row (by decide) hv)
    refine ⟨⟨?_, hbs, hother, hmine⟩, (hk1.mono (fun _ _ h => .inr h)).trans hks (fun _ _ h => .inl h), hnew⟩
    rw [setCell_eq_setRow w1 g 12 _ _ _ _ hrow1, setRow_heap w1 g _ _ _ _ hrow1]; rfl
  clear h hna hk0 hown hgrow hcase hk1 hrow1 hnew
  go_enter Tryz.func13, Tryz.ntmps13
  go_wp2_with (at_builtin; refine Lib.wpList_append_run_sl _ rfl _ _ 45 rfl _ _ rfl rfl hr ?_)
  have HR2 : Hid (BagD (w1.setCell ⟨g, 12, none⟩ (.slice ao' n' cap')) g bv tv (.slice ao' n' cap') qs ts (fs ++ [.slice pa pn pc]) B ∧ Kept w (w1.setCell ⟨g, 12, none⟩ (.slice ao' n' cap')) (fun k => k = g ∨ (Value.slice ao fs.length cap).ownBlock = some k)) := ⟨HR.out.1, HR.out.2.1⟩
  clear HR c0 f0 hr c1 f1 gz0 gz1 gz2 hd
  obtain ⟨rfl, rfl, him, hb0⟩ := HIM.out
  have HIM2 : Hid (ImgAt w B' (.slice (some ⟨ga, 0, none⟩) fl.length pc) fl vs ∧ BagD w g bv tv (.slice ao fs.length cap) qs ts fs B) := ⟨him, hb0⟩
  clear him hb0 HIM
  go_loopw [4] (fun vi wr => ∃ k : Nat, k ≤ fl.length ∧ vi = .int .i64 (k : Int) ∧ Hid (∃ bv', BagD wr g bv' tv (.slice ao' n' cap') (qs ++ (vs.take k).map pcV) ts (fs ++ [.slice (some ⟨ga, 0, none⟩) fl.length pc]) B ∧ Kept w wr (fun j => j = g ∨ (Value.slice ao fs.length cap).ownBlock = some j ∨ bv.ownBlock = some j) ∧ NewRow w bv bv')) (fun vi _ => fl.length - (intOf vi).toNat)
  case atStart => exact ⟨0, Nat.zero_le _, rfl, bv, by simpa using HR2.out.1, HR2.out.2.mono (fun k _ e => e.elim .inl (fun e => .inr (.inl e))), .inl rfl⟩
  case round =>
    obtain ⟨k, hk, rfl, HI⟩ := hrel
    by_cases hlt : k < fl.length
    · have d0 : decide ((k : Int) < (fl.length : Int)) = true := by simp; omega
      have d1 : decide ((k : Int) < 600) = true := by simp; omega
      obtain ⟨bv2, hb, hkp, hnr⟩ := HI.out
      obtain ⟨him, h0⟩ := HIM2.out
      have hvl : k < vs.length := by rw [him.len]; exact hlt
      have hrow := row_kept him.own hkp (fun j e e' => by
        rcases e' with rfl | e' | e'
        · exact row_not him.own h0.row (by decide) e
        · exact type_ne (by decide) him.own h0.fi _ e e'
        · exact type_ne (by decide) him.own h0.bs _ e e')
      obtain ⟨ua, un, uc, hu⟩ := row_form (him.bys k _ _ (List.getElem?_eq_getElem hvl) (List.getElem?_eq_getElem hlt))
      have hc : wr.cell? ⟨ga, k * 3 + 1, none⟩ = some (.slice ua un uc) := by
        rw [hrow.cellAt _ (by omega), imgC_at fl vs him.len k hlt 1 (by omega), hu]
        rfl
      have hgl := lt_of_block hb.row
      have HO : Hid _ := addBytes_d g bv2 tv (.slice ao' n' cap') (qs ++ (vs.take k).map pcV) ts (fs ++ [.slice (some ⟨ga, 0, none⟩) fl.length pc]) B ua un uc wr hb (by simp; omega) (Nat.le_trans hB hkp.size)
      have HS : Hid (Kept w wr (fun j => j = g ∨ (Value.slice ao fs.length cap).ownBlock = some j ∨ bv.ownBlock = some j) ∧ NewRow w bv bv2 ∧ (qs ++ (vs.take k).map pcV) ++ [(⟨ua, un, uc⟩ : Pc)] = qs ++ (vs.take (k + 1)).map pcV) := by
        refine ⟨hkp, hnr, ?_⟩
        rw [List.take_add_one, List.getElem?_eq_getElem hvl, hu, List.append_assoc]
        simp [pcV]
      clear hb hkp hnr him h0 hrow hu hvl HI HR2
      go_wp2_with fail
      refine Calls.mono HO.out ?_
      rintro e w3 ⟨rfl, v3, hb3, hk3, hn3⟩
      have H3 : Hid (∃ bv', BagD w3 g bv' tv (.slice ao' n' cap') (qs ++ (vs.take (k + 1)).map pcV) ts (fs ++ [.slice (some ⟨ga, 0, none⟩) fl.length pc]) B ∧ Kept w w3 (fun j => j = g ∨ (Value.slice ao fs.length cap).ownBlock = some j ∨ bv.ownBlock = some j) ∧ NewRow w bv bv') := by
        obtain ⟨hkp, hnr, e⟩ := HS.out
        rw [e] at hb3
        refine ⟨v3, hb3, hkp.trans hk3 (fun j hj e => ?_), ?_⟩
        · rcases e with e | e
          · exact .inl e
          · rcases hnr with hnr | ⟨k', hnr, hk'⟩
            · exact .inr (.inr (by rw [← hnr]; exact e))
            · rw [hnr] at e
              simp at e
              omega
        · rcases hn3 with hn3 | ⟨k', hn3, hk'⟩
          · rcases hnr with hnr | ⟨k', hnr, hk'⟩
            · exact .inl (hn3.trans hnr)
            · exact .inr ⟨k', hn3.trans hnr, hk'⟩
          · exact .inr ⟨k', hn3, Nat.le_trans hkp.size hk'⟩
      clear hb3 hk3 hn3 HS HO hc hgl
      go_wp2
      go_roundw
      case rel => exact ⟨k + 1, by omega, by go_num, H3.out⟩
      case measure => simp [intOf]; omega
    · have d0 : decide ((k : Int) < (fl.length : Int)) = false := by simp; omega
      obtain rfl : k = fl.length := by omega
      go_wp2
      go_end0
      obtain ⟨bv2, hb, hkp, hnr⟩ := HI.out
      rw [List.take_of_length_le (by rw [HIM2.out.1.len]; exact Nat.le_refl _)] at hb
      exact ⟨rfl, bv2, _, hb, hkp⟩

set_option maxHeartbeats 2000000 in
theorem bagApart_d (g B : Nat) (bv tv fv : Value) (ps : List Pc) (ts fs : List Rw) (Xt Xf : Nat → List Value) (w : World) (h : BagD w g bv tv fv ps (ts.map Rw.v) (fs.map Rw.v) B)
    (hl : ∀ q ∈ ps, Lies w 5 q) (hap : ApartPcs ps) (hnp : ps.length ≤ 600) (hbp : ∀ q ∈ ps, q.n ≤ 70000000000000) (hfp : ∀ x, ¬ feet ps 1 x)
    (hrt : RowsR w 9 1 ts Xt) (hat : ApartR ts) (hnt : ts.length ≤ 600) (hbt : ∀ j (hj : j < ts.length), ts[j].n ≤ 1100000000) (hgt : ¬ BlkR ts 1)
    (hrf : RowsR w 71 3 fs Xf) (haf : ApartR fs) (hnf : fs.length ≤ 600) (hbf : ∀ j (hj : j < fs.length), fs[j].n ≤ 1100000000) (hgf : ¬ BlkR fs 1)
    (ht : Tab w) (hg0 : 1 < w.heap.size) :
    Calls Tryz.prog 15 #[.pointer (some ⟨g, 0, none⟩)] w fun e w' => e = .returned (.bool true) ∧ ∃ w1, Turned w w1 (feet ps) ∧ Kept w1 w' (fun k => BlkR ts k ∨ BlkR fs k) := by
  have cs := bagD_cells h.row
  have H : Hid (BagD w g bv tv fv ps (ts.map Rw.v) (fs.map Rw.v) B ∧ (∀ q ∈ ps, Lies w 5 q) ∧ ApartPcs ps ∧ (∀ q ∈ ps, q.n ≤ 70000000000000)) := ⟨h, hl, hap, hbp⟩
  have H1 : Hid (∀ w1, Turned w w1 (feet ps) → w1.heap[g]? = some (.cells (bagD bv tv fv) 55 (0, 0)) ∧ SeesL w1 56 tv ts ∧ RowsR w1 9 1 ts Xt ∧ w1.ownsRow B 22 1 fv (fs.map Rw.v).length (fs.map Rw.v) ∧ RowsR w1 71 3 fs Xf ∧ Tab w1 ∧ 1 < w1.heap.size) := fun w1 hT => by
    refine ⟨?_, seesL_own (row_turnedD h.ts hT hl (by decide)), fun j hj => row_turnedD (hrt j hj) hT hl (by decide), row_turnedD h.fi hT hl (by decide), fun j hj => row_turnedD (hrf j hj) hT hl (by decide), tab_same ht (hT.same _ hg0 hfp), Nat.lt_of_lt_of_le hg0 hT.size⟩
    rw [hT.same g (lt_of_block h.row) (fun x hs => ?_)]
    · exact h.row
    · obtain ⟨q, hq, hf⟩ := hs
      obtain ⟨_, cs2, hr2⟩ := (hl q hq).foot_lt hf
      rw [h.row] at hr2
      simp at hr2
  have H2 : Hid (∀ w1 w2, w1.heap[g]? = some (.cells (bagD bv tv fv) 55 (0, 0)) ∧ RowsR w1 9 1 ts Xt ∧ w1.ownsRow B 22 1 fv (fs.map Rw.v).length (fs.map Rw.v) ∧ RowsR w1 71 3 fs Xf ∧ Tab w1 ∧ 1 < w1.heap.size → Kept w1 w2 (BlkR ts) → w2.heap[g]? = some (.cells (bagD bv tv fv) 55 (0, 0)) ∧ SeesL w2 22 fv fs ∧ RowsR w2 71 3 fs Xf ∧ Tab w2 ∧ 1 < w2.heap.size) := fun w1 w2 ⟨a1, a2, a3, a4, a5, a6⟩ hk => by
    refine ⟨hk.heap a1 (blkR_not a2 a1 (by decide)), seesL_own (row_kept a3 hk (fun k e hb => ?_)), fun j hj => row_kept (a4 j hj) hk (fun k e hb => ?_), tab_same a5 (hk.block _ a6 hgt), Nat.lt_of_lt_of_le a6 hk.size⟩
    · obtain ⟨cs', e'⟩ := row_type a3 e
      exact blkR_not a2 e' (by decide) hb
    · obtain ⟨cs', e'⟩ := row_type (a4 j hj) e
      exact blkR_not a2 e' (by decide) hb
  have H3 : Hid (ApartR ts ∧ (∀ j (hj : j < ts.length), ts[j].n ≤ 1100000000) ∧ ¬ BlkR ts 1 ∧ ApartR fs ∧ (∀ j (hj : j < fs.length), fs[j].n ≤ 1100000000) ∧ ¬ BlkR fs 1) := ⟨hat, hbt, hgt, haf, hbf, hgf⟩
  have c0 : w.cell? ⟨g, 0, none⟩ = some bv := cs 0 (by omega)
  have hgl := lt_of_block h.row
  clear h cs hl hap hbp hfp hrt hat hbt hgt hrf haf hbf hgf ht hg0
  go_enter Tryz.func15, Tryz.ntmps15
  go_wp2_with fail
  refine (apartBytes_any bv ps _ (sees_own H.out.1.bs) H.out.2.1 H.out.2.2.1 hnp H.out.2.2.2).mono ?_
  rintro e w1 ⟨rfl, hT1⟩
  obtain ⟨hrow1, b1, b2, b3, b4, b5, b6⟩ := H1.out w1 hT1
  have H4 : Hid (SeesL w1 56 tv ts ∧ w1.heap[g]? = some (.cells (bagD bv tv fv) 55 (0, 0)) ∧ RowsR w1 9 1 ts Xt ∧ w1.ownsRow B 22 1 fv (fs.map Rw.v).length (fs.map Rw.v) ∧ RowsR w1 71 3 fs Xf ∧ Tab w1 ∧ 1 < w1.heap.size) := ⟨b1, hrow1, b2, b3, b4, b5, b6⟩
  have HT : Hid (Turned w w1 (feet ps)) := hT1
  have cs := bagD_cells hrow1
  have c1 : w1.cell? ⟨g, 1, none⟩ = some nilS := cs 1 (by omega)
  have c2 : w1.cell? ⟨g, 2, none⟩ = some tv := cs 2 (by omega)
  have hgl1 := lt_of_block hrow1
  clear hrow1 b1 b2 b3 b4 b5 b6 hT1 cs c0
  go_wp2_with fail
  refine (apartInts_nil _).mono ?_
  rintro e w3 ⟨rfl, rfl⟩
  go_wp2_with fail
  refine (apartTexts_any tv ts Xt _ H4.out.1 H4.out.2.2.1 H3.out.1 hnt H3.out.2.1 H4.out.2.2.2.2.2.1 H4.out.2.2.2.2.2.2 H3.out.2.2.1).mono ?_
  rintro e w2 ⟨rfl, hk2, _⟩
  obtain ⟨hrow2, b1, b2, b3, b4⟩ := H2.out _ w2 H4.out.2 hk2
  have H5 : Hid (SeesL w2 22 fv fs ∧ RowsR w2 71 3 fs Xf ∧ Tab w2 ∧ 1 < w2.heap.size ∧ w2.heap[g]? = some (.cells (bagD bv tv fv) 55 (0, 0))) := ⟨b1, b2, b3, b4, hrow2⟩
  have HK : Hid (Kept _ w2 (BlkR ts)) := hk2
  have cs := bagD_cells hrow2
  have c3 : w2.cell? ⟨g, 3, none⟩ = some nilS := cs 3 (by omega)
  have c4 : w2.cell? ⟨g, 4, none⟩ = some nilS := cs 4 (by omega)
  have c5 : w2.cell? ⟨g, 5, none⟩ = some nilS := cs 5 (by omega)
  have c6 : w2.cell? ⟨g, 6, none⟩ = some nilS := cs 6 (by omega)
  have c7 : w2.cell? ⟨g, 7, none⟩ = some nilS := cs 7 (by omega)
  have c8 : w2.cell? ⟨g, 8, none⟩ = some nilS := cs 8 (by omega)
  have c9 : w2.cell? ⟨g, 9, none⟩ = some nilS := cs 9 (by omega)
  have c10 : w2.cell? ⟨g, 10, none⟩ = some nilS := cs 10 (by omega)
  have c11 : w2.cell? ⟨g, 11, none⟩ = some nilS := cs 11 (by omega)
  have c12 : w2.cell? ⟨g, 12, none⟩ = some fv := cs 12 (by omega)
  have hgl2 := lt_of_block hrow2
  clear hrow2 b1 b2 b3 b4 hk2 cs c1 c2
  go_wp2_with fail
  refine (apartPieces_nil _).mono ?_
  rintro e w4 ⟨rfl, rfl⟩
  go_wp2_with fail
  refine (apartIds_nil _).mono ?_
  rintro e w4 ⟨rfl, rfl⟩
  go_wp2_with fail
  refine (apartAcl_nil _).mono ?_
  rintro e w4 ⟨rfl, rfl⟩
  go_wp2_with fail
  refine (apartRequests_nil _).mono ?_
  rintro e w4 ⟨rfl, rfl⟩
  go_wp2_with fail
  refine (apartTxns_nil _).mono ?_
  rintro e w4 ⟨rfl, rfl⟩
  go_wp2_with fail
  refine (apartResults_nil _).mono ?_
  rintro e w4 ⟨rfl, rfl⟩
  go_wp2_with fail
  refine (apartNodes_nil _).mono ?_
  rintro e w4 ⟨rfl, rfl⟩
  go_wp2_with fail
  refine (apartSessions_nil _).mono ?_
  rintro e w4 ⟨rfl, rfl⟩
  go_wp2_with fail
  refine (apartChanges_nil _).mono ?_
  rintro e w4 ⟨rfl, rfl⟩
  go_wp2_with fail
  refine (apartFiles_any fv fs Xf _ H5.out.1 H5.out.2.1 H3.out.2.2.2.1 hnf H3.out.2.2.2.2.1 H5.out.2.2.1 H5.out.2.2.2.1 H3.out.2.2.2.2.2).mono ?_
  rintro e w5 ⟨rfl, hk5, _⟩
  have hrow5 := hk5.heap H5.out.2.2.2.2 (blkR_not H5.out.2.1 H5.out.2.2.2.2 (by decide))
  have HE : Hid (∃ w1, Turned w w1 (feet ps) ∧ Kept w1 w5 (fun k => BlkR ts k ∨ BlkR fs k)) := ⟨_, HT.out, (HK.out.mono (fun _ _ h => .inl h)).trans hk5 (fun _ _ h => .inr h)⟩
  have cs := bagD_cells hrow5
  have c13 : w5.cell? ⟨g, 13, none⟩ = some nilS := cs 13 (by omega)
  have c14 : w5.cell? ⟨g, 14, none⟩ = some nilS := cs 14 (by omega)
  have c15 : w5.cell? ⟨g, 15, none⟩ = some nilS := cs 15 (by omega)
  have c16 : w5.cell? ⟨g, 16, none⟩ = some nilS := cs 16 (by omega)
  have c17 : w5.cell? ⟨g, 17, none⟩ = some nilS := cs 17 (by omega)
  have c18 : w5.cell? ⟨g, 18, none⟩ = some nilS := cs 18 (by omega)
  have c19 : w5.cell? ⟨g, 19, none⟩ = some nilS := cs 19 (by omega)
  have c20 : w5.cell? ⟨g, 20, none⟩ = some nilS := cs 20 (by omega)
  have hgl5 := lt_of_block hrow5
  clear hrow5 hk5 cs c3 c4 c5 c6 c7 c8 c9 c10 c11 c12
  go_wp2_with fail
  refine (apartPackets_nil _).mono ?_
  rintro e w6 ⟨rfl, rfl⟩
  go_wp2_with fail
  refine (apartMessages_nil _).mono ?_
  rintro e w6 ⟨rfl, rfl⟩
  go_wp2_with fail
  refine (apartWatches_nil _).mono ?_
  rintro e w6 ⟨rfl, rfl⟩
  go_wp2_with fail
  refine (apartFired_nil _).mono ?_
  rintro e w6 ⟨rfl, rfl⟩
  go_wp2_with fail
  refine (apartFacts_nil _).mono ?_
  rintro e w6 ⟨rfl, rfl⟩
  go_wp2_with fail
  refine (apartSends_nil _).mono ?_
  rintro e w6 ⟨rfl, rfl⟩
  go_wp2_with fail
  refine (apartEvents_nil _).mono ?_
  rintro e w6 ⟨rfl, rfl⟩
  go_wp2_with fail
  refine (apartFactss_nil _).mono ?_
  rintro e w6 ⟨rfl, rfl⟩
  go_wp2
  go_ret
  exact ⟨rfl, HE.out⟩

end Go.Proofs.YtbdokdhconhifaaGreatDoor
