/- The document's net: Double. -/
import Derived.Test.YtghngopclhhoeaaDoorLpCJ
namespace Go.Proofs.YtghngopclhhoeaaDoor
open Go.RowKit
set_option maxRecDepth 8000
set_option linter.unusedSimpArgs false
set_option linter.unusedVariables false

theorem rDouble_no {w : World} {d : Nat} {n : Int} {base : Nat} {v : Value} {l : List MsG} (h : Dn w d n base v l) (p : Int) (hp : p < 0 ∨ (l.length : Int) ≤ p) :
    Calls Tryd.prog 23 #[.pointer (some ⟨d, 0, none⟩), .int .i64 p] w fun e w' => e = .returned (.int .i64 220) ∧ w' = w := by
  obtain ⟨va, vc, rfl⟩ := rowSl h.ow.row
  have c1 := h.c1
  have hz := lt_of_block h.hb
  clear h
  by_cases q : p < 0
  · have d1 : decide (p < 0) = true := decide_eq_true q
    go_enter Tryd.func23, Tryd.ntmps23
    go_wp2_with fail
    all_goals (go_ret; exact ⟨rfl, rfl⟩)
  · have d1 : decide (p < 0) = false := decide_eq_false q
    have d2 : decide ((l.length : Int) ≤ p) = true := decide_eq_true (by omega)
    go_enter Tryd.func23, Tryd.ntmps23
    go_wp2_with fail
    all_goals (go_ret; exact ⟨rfl, rfl⟩)

/-- The cells of a message of the net. -/
theorem Dn.at' {w : World} {d : Nat} {n : Int} {base : Nat} {v : Value} {l : List MsG} (h : Dn w d n base v l) {p : Nat} {m : MsG} (hm : l[p]? = some m) : ∃ g c ma mc, v = .slice (some ⟨g, 0, none⟩) l.length c ∧ m.v = .slice ma m.bs.length mc ∧ g < w.heap.size ∧ w.cell? ⟨g, p * 4, none⟩ = some (.int .i8 m.f) ∧ w.cell? ⟨g, p * 4 + 1, none⟩ = some (.int .i8 m.t) ∧ w.cell? ⟨g, p * 4 + 2, none⟩ = some (.slice ma m.bs.length mc) ∧ w.cell? ⟨g, p * 4 + 3, none⟩ = some (.bool m.sp) := by
  obtain ⟨ma, mc, em⟩ := rowSl (h.ow.own m (List.mem_of_getElem? hm))
  obtain ⟨h1, ⟨e, h0⟩ | ⟨g, cap, cur, e, a2, a3, a4, a5, a6, a7⟩⟩ := h.ow.row
  · rw [List.length_eq_zero_iff.1 h0] at hm; simp at hm
  · have hp : p < l.length := (List.getElem?_eq_some_iff.1 hm).1
    have hc : ∀ j u, m.cells[j]? = some u → w.cell? ⟨g, p * 4 + j, none⟩ = some u := fun j u hj => by
      have hj4 : j < 4 := (List.getElem?_eq_some_iff.1 hj).1
      have q := gFlat_at l p m hm j u hj
      rw [← a7, List.getElem?_take, if_pos (by omega)] at q
      rw [cell_of_row w g _ _ _ _ a3, ← Array.getElem?_toList]
      exact q
    exact ⟨g, cap, ma, mc, e, em, lt_of_block a3, hc 0 _ rfl, hc 1 _ rfl, hc 2 _ (by simp [MsG.cells, em]), hc 3 _ rfl⟩

set_option maxHeartbeats 4000000 in
theorem rDouble_yes {w : World} {d : Nat} {n : Int} {base : Nat} {v : Value} {l : List MsG} (h : Dn w d n base v l) (hbase : base ≤ w.heap.size) {p : Nat} {m : MsG} (hm : l[p]? = some m) (hl : l.length ≤ 100000000) :
    Calls Tryd.prog 23 #[.pointer (some ⟨d, 0, none⟩), .int .i64 (p : Nat)] w fun e w' => e = .returned (.int .i64 0) ∧ ∃ v' l4 x, Dn w' d n base v' (l4 ++ [x]) ∧ AlikeG l l4 ∧ sameG x m ∧ Kept w w' (fun k => k = d) ∧ (∀ k, FdN d v' (l4 ++ [x]) k → k = d ∨ w.heap.size ≤ k) := by
  obtain ⟨g, vc, ma, mc, rfl, hmv, hg, q0, q1, q2, q3⟩ := h.at' hm
  have c1 := h.c1
  have hz := lt_of_block h.hb
  have hpl : p < l.length := (List.getElem?_eq_some_iff.1 hm).1
  have d1 : decide ((p : Int) < 0) = false := decide_eq_false (by omega)
  have d2 : decide (l.length ≤ p) = false := decide_eq_false (by omega)
  have HC : Hid (Calls Tryd.prog 54 #[.slice (some ⟨g, 0, none⟩) l.length vc] w fun e w' => ∃ v' l', e = .returned v' ∧ OwG w' w.heap.size v' l' ∧ AlikeG l l' ∧ Below w.heap.size w w') := copyMs_any h.ow.sees hl h.hi
  have HD : Hid (Dn w d n base (.slice (some ⟨g, 0, none⟩) l.length vc) l ∧ l[p]? = some m ∧ m.v = .slice ma m.bs.length mc) := ⟨h, hm, hmv⟩
  clear h hm hmv q0 q1 q2 q3
  go_enter Tryd.func23, Tryd.ntmps23
  go_wp2_with fail
  refine Calls.mono HC.out ?_
  rintro _ w4 ⟨v4, l4, rfl, h4, hal, b4⟩
  obtain ⟨x4, c4, rfl⟩ := rowSl h4.row
  have H4 : Hid (OwG w4 w.heap.size (.slice x4 l4.length c4) l4 ∧ AlikeG l l4 ∧ Below w.heap.size w w4) := ⟨h4, hal, b4⟩
  have hd4 := HD.out.1.below b4
  have c14 := hd4.c1
  obtain ⟨g', vc', ma', mc', e1, e2, hg4, q0, q1, q2, q3⟩ := hd4.at' HD.out.2.1
  simp only [Value.slice.injEq, Option.some.injEq, Addr.mk.injEq, and_true] at e1
  obtain ⟨rfl, _, rfl⟩ := e1
  rw [HD.out.2.2] at e2
  simp only [Value.slice.injEq, true_and] at e2
  obtain ⟨rfl, rfl⟩ := e2
  have hz4 := lt_of_block hd4.hb
  have o5 := oneL w4 (.cells #[.int .i8 m.f, .int .i8 m.t, .slice ma m.bs.length mc, .bool m.sp] 72)
  have hb5 := heap_alloc_new w4 (.cells #[.int .i8 m.f, .int .i8 m.t, .slice ma m.bs.length mc, .bool m.sp] 72)
  have HS5 : Hid (Sees (w4.alloc (.cells #[.int .i8 m.f, .int .i8 m.t, .slice ma m.bs.length mc, .bool m.sp] 72)) (.slice ma m.bs.length mc) m.bs) := by
    have := (Sees.own (hd4.ow.own m (List.mem_of_getElem? HD.out.2.1))).below o5 (Nat.le_refl _)
    rw [HD.out.2.2] at this
    exact this
  have t2 : (w4.alloc (.cells #[.int .i8 m.f, .int .i8 m.t, .slice ma m.bs.length mc, .bool m.sp] 72)).cell? ⟨w4.heap.size, 2, none⟩ = some (.slice ma m.bs.length mc) := by rw [cell_of_row _ _ _ _ _ _ hb5]; rfl
  have hmb : m.bs.length ≤ 8192 := HD.out.1.hi m (List.mem_of_getElem? HD.out.2.1)
  clear h4 hal hd4 HC c1 hz hg
  go_wp2_with fail
  refine Calls.mono (copyBytes_any _ m.bs _ HS5.out (by omega)) ?_
  rintro _ w6 ⟨v6, rfl, ho6, b6⟩
  obtain ⟨a6, c6, rfl⟩ := rowSl ho6
  have hs1 : (w4.alloc (.cells #[.int .i8 m.f, .int .i8 m.t, .slice ma m.bs.length mc, .bool m.sp] 72)).heap.size = w4.heap.size + 1 := World.size_alloc _ _
  have hb6 := boxL hb5 b6
  have f6 : w6.frozen? ⟨w4.heap.size, 2, none⟩ = false := frozen_of_row _ _ _ _ _ hb6
  have u2 : w6.cell? ⟨w4.heap.size, 2, none⟩ = some (.slice ma m.bs.length mc) := by rw [cell_of_row _ _ _ _ _ _ hb6]; rfl
  have hz6 := lt_of_block hb6
  obtain ⟨w7, hw7⟩ : ∃ w7, w7 = w6.setCell ⟨w4.heap.size, 2, none⟩ (.slice a6 m.bs.length c6) := ⟨_, rfl⟩
  have k7 : Kept w6 w7 (· = w4.heap.size) := by rw [hw7]; exact Kept.setCell (S := (· = w4.heap.size)) (Kept.refl w6 _) _ _ (fun _ => rfl)
  have hb7 : w7.heap[w4.heap.size]? = some (.cells #[.int .i8 m.f, .int .i8 m.t, .slice a6 m.bs.length c6, .bool m.sp] 72 (0, 0)) := by
    rw [hw7, setCell_eq_setRow w6 _ 2 _ _ _ _ hb6, setRow_heap w6 _ _ _ _ _ hb6]; rfl
  have b47 : Below w4.heap.size w4 w7 := (o5.trans (b6.mono (by omega))).trans (k7.below (by have := b6.size; omega) (fun k e => by omega))
  have hw4 := H4.out.2.2.size
  have own7 : Owns w7 w.heap.size (.slice a6 m.bs.length c6) m.bs := Owns.kept (row_lowerl ho6 (by omega)) k7 (fun k e e2 => by have := (ho6.lt k e).1; omega)
  have s0 : w7.cell? ⟨w4.heap.size, 0, none⟩ = some (.int .i8 m.f) := by rw [cell_of_row _ _ _ _ _ _ hb7]; rfl
  have s1 : w7.cell? ⟨w4.heap.size, 1, none⟩ = some (.int .i8 m.t) := by rw [cell_of_row _ _ _ _ _ _ hb7]; rfl
  have s2 : w7.cell? ⟨w4.heap.size, 2, none⟩ = some (.slice a6 m.bs.length c6) := by rw [cell_of_row _ _ _ _ _ _ hb7]; rfl
  have s3 : w7.cell? ⟨w4.heap.size, 3, none⟩ = some (.bool m.sp) := by rw [cell_of_row _ _ _ _ _ _ hb7]; rfl
  have hz7 := lt_of_block hb7
  have o8 := oneL w7 (.cells #[.int .i8 m.f, .int .i8 m.t, .slice a6 m.bs.length c6, .bool m.sp] 72)
  have hO := heap_alloc_new w7 (.cells #[.int .i8 m.f, .int .i8 m.t, .slice a6 m.bs.length c6, .bool m.sp] 72)
  have b48 : Below w4.heap.size w4 (w7.alloc (.cells #[.int .i8 m.f, .int .i8 m.t, .slice a6 m.bs.length c6, .bool m.sp] 72)) := b47.trans (o8.mono b47.size)
  obtain ⟨a9, c9, w9, hr, r1, r2, r3, r4, r5, r6⟩ := dn_put (x := ⟨m.f, m.t, .slice a6 m.bs.length c6, m.bs, m.sp⟩) HD.out.1 hbase (H4.out.2.2.trans (b48.mono hw4)) ⟨rowKl H4.out.1.row (Below.kept b48) (fun g hg => by have := (H4.out.1.row.lt g hg).2; omega), fun m2 hm2 => Owns.kept (H4.out.1.own m2 hm2) (Below.kept b48) (fun k e => by have := ((H4.out.1.own m2 hm2).lt k e).2; omega)⟩ H4.out.2.1 (Owns.kept own7 (Below.kept o8) (fun k e => by have := (own7.lt k e).2; omega)) hO hl (HD.out.1.lo m (List.mem_of_getElem? HD.out.2.1)) hmb
  have HE : Hid (Dn (w9.setCell ⟨d, 1, none⟩ (.slice a9 (l4.length + 1) c9)) d n base (.slice a9 (l4.length + 1) c9) (l4 ++ [⟨m.f, m.t, .slice a6 m.bs.length c6, m.bs, m.sp⟩]) ∧ AlikeG l l4 ∧ Kept w (w9.setCell ⟨d, 1, none⟩ (.slice a9 (l4.length + 1) c9)) (fun k => k = d) ∧ (∀ k, FdN d (.slice a9 (l4.length + 1) c9) (l4 ++ [⟨m.f, m.t, .slice a6 m.bs.length c6, m.bs, m.sp⟩]) k → k = d ∨ w.heap.size ≤ k)) := ⟨r4, H4.out.2.1, r5, r6⟩
  have HW7 : Hid (w7 = w6.setCell ⟨w4.heap.size, 2, none⟩ (.slice a6 m.bs.length c6)) := hw7
  clear hw7 r4 r5 r6 b48 hO o8 own7 b47 hb7 k7 hb6 ho6 b6 o5 hb5 H4 hs1 hw4
  go_upto_region 6 with fail
  rw [← HW7.out]
  clear HW7 f6 u2 hz6 t2 q0 q1 q2 q3
  go_wp2_with (at_builtin; refine wpList_appM _ rfl _ _ 35 rfl _ _ rfl rfl (hr _) ?_)
  all_goals (go_ret; exact ⟨rfl, _, _, _, HE.out.1, HE.out.2.1, ⟨rfl, rfl, rfl, rfl⟩, HE.out.2.2.1, HE.out.2.2.2⟩)
end Go.Proofs.YtghngopclhhoeaaDoor
