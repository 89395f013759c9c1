/- EqFired of two lists of the same data; same of the statements of layer 18. -/
import Derived.Test.YtkcapiblicfboaaGreatDoorWaVJ
import Derived.Test.YtkcapiblicfboaaGreatDoorWaSJ
namespace Go.Proofs.YtkcapiblicfboaaGreatDoor
open Go.RowKit Go.Shelf
set_option maxRecDepth 8000
set_option linter.unusedSimpArgs false

theorem eqChG (k : Nat) (x : ChT) (w : World) : (Op.equalIn (k + 1 + 1) 59 (.agg (chCs x)) (.agg (chCs x))).run Tryz.prog w = .ok true w := by
  obtain ⟨a, b⟩ := x
  have hu : Tryz.prog.underlying 59 = some (.struct (Tryz.prog.fieldsOf 59)) := by kernel_rfl
  have hp : Tryz.prog.stoodInHeld 59 = false := by kernel_rfl
  have u3 := Tryz.underlying9
  have a3 := Tryz.isAgg9
  have z3 := Tryz.sizeOf9
  have u4 := Tryz.underlying55
  have a4 := Tryz.isAgg55
  have z4 := Tryz.sizeOf55
  rw [run_equalIn_agg w (k + 1) _ _ _ hu hp]
  simp only [Program.fieldsOf, Tryz.underlying59]
  go_simp

theorem neqFiV (c : ChT) (x : WaT) (w : World) : (binOp .neq 77 (.agg (fiCs c x)) (.agg (fiCs c x))).run Tryz.prog w = .ok (.bool false) w := by
  have hW : ∀ w, (Op.equalIn 9999 57 (.agg #[.int .i64 x.1, .int .i8 x.2.1, .string x.2.2]) (.agg #[.int .i64 x.1, .int .i8 x.2.1, .string x.2.2])).run Tryz.prog w = .ok true w := fun w => by
    have := eqWaG 9997 x x w
    rw [waEq_self] at this
    exact this
  have hC : ∀ w, (Op.equalIn 9999 59 (.agg #[.int .i8 c.1, .string c.2]) (.agg #[.int .i8 c.1, .string c.2])).run Tryz.prog w = .ok true w := fun w => eqChG 9997 c w
  have hu : Tryz.prog.underlying 77 = some (.struct (Tryz.prog.fieldsOf 77)) := by kernel_rfl
  have hp : Tryz.prog.stoodInHeld 77 = false := by kernel_rfl
  have a5 := Tryz.isAgg57
  have z5 := Tryz.sizeOf57
  have a6 := Tryz.isAgg59
  have z6 := Tryz.sizeOf59
  rw [run_neq_struct, show (10000 : Nat) = 9999 + 1 from rfl, run_equalIn_agg w 9999 _ _ _ hu hp]
  simp only [Program.fieldsOf, Tryz.underlying77]
  go_simp

set_option maxHeartbeats 1000000 in
theorem eqFired_same {w : World} {B B' : Nat} {v u : Value} {c : ChT} {T : List WaT} (hv : w.ownsRow B 77 5 v T.length (fiFlat c T)) (hu : w.ownsRow B' 77 5 u T.length (fiFlat c T)) (hlen : T.length ≤ 2000000000) :
    Calls Tryz.prog 25 #[v, u] w fun e w' => e = .returned (.bool true) ∧ Below w.heap.size w w' := by
  have HV : Hid (w.ownsRow B 77 5 v T.length (fiFlat c T) ∧ w.ownsRow B' 77 5 u T.length (fiFlat c T)) := ⟨hv, hu⟩
  obtain ⟨ao, cap, rfl⟩ := rowS hv
  obtain ⟨bo, cap2, rfl⟩ := rowS hu
  clear hv hu
  go_enter Tryz.func25, Tryz.ntmps25
  go_wp2
  go_loopw [5] (fun vi wr => ∃ i : Nat, i ≤ T.length ∧ vi = .int .i64 (i : Int) ∧ Hid (Below w.heap.size w wr)) (fun vi _ => T.length - (intOf vi).toNat)
  case atStart => exact ⟨0, by omega, rfl, Below.refl _ _⟩
  case round =>
    obtain ⟨i, hi, rfl, HW⟩ := hrel
    by_cases hlt : i < T.length
    · have hd : decide ((i : Int) < (T.length : Int)) = true := by simp; omega
      obtain ⟨y, hy⟩ : ∃ y, T[i]? = some y := ⟨_, List.getElem?_eq_getElem hlt⟩
      obtain ⟨g, cp, he, hgl, k0, k1, k2, k3, k4⟩ := fi_cells HV.out.1 hy
      obtain ⟨g2, cp2, he2, hgl2, j0, j1, j2, j3, j4⟩ := fi_cells HV.out.2 hy
      simp only [Value.slice.injEq] at he he2
      have e1 := he.1
      have e2 := he2.1
      clear he he2
      subst e1 e2
      have hsz := HW.out.size
      have l0 := cellB HW.out k0
      have l1 := cellB HW.out k1
      have l2 := cellB HW.out k2
      have l3 := cellB HW.out k3
      have l4 := cellB HW.out k4
      have m0 := cellB HW.out j0
      have m1 := cellB HW.out j1
      have m2 := cellB HW.out j2
      have m3 := cellB HW.out j3
      have m4 := cellB HW.out j4
      have hz0 : g < wr.heap.size := World.block_lt_of_cell? wr _ l0
      have hz1 : g2 < wr.heap.size := World.block_lt_of_cell? wr _ m0
      have heq : ∀ W, (binOp .neq 77 (.agg #[.int .i64 y.1, .int .i8 y.2.1, .string y.2.2, .int .i8 c.1, .string c.2]) (.agg #[.int .i64 y.1, .int .i8 y.2.1, .string y.2.2, .int .i8 c.1, .string c.2])).run Tryz.prog W = .ok (.bool false) W := fun W => neqFiV c y W
      clear hy k0 k1 k2 k3 k4 j0 j1 j2 j3 j4 hgl hgl2 hsz
      go_upto_region 6 with fail
      go_quiet (fail)
      go_wp2
      go_roundw
      case rel => exact ⟨i + 1, by omega, by simp, below_drewN HW.out _⟩
      case measure => simp [intOf]; omega
    · have hd : decide ((i : Int) < (T.length : Int)) = false := by simp; omega
      go_wp2
      all_goals (go_ret; exact ⟨rfl, HW.out⟩)

set_option maxHeartbeats 1000000 in
theorem same_any {w : World} {B B' : Nat} {E : Int} {uf uw yf yw : Value} {c : ChT} {F Wl : List WaT} (h1 : w.ownsRow B 77 5 uf F.length (fiFlat c F)) (h2 : w.ownsRow B' 77 5 yf F.length (fiFlat c F)) (h3 : SW w uw Wl) (h4 : SW w yw Wl) (hF : F.length ≤ 2000000000) (hW : Wl.length ≤ 2000000000) :
    Calls Tryz.prog 10 #[.agg #[.int .i64 E, uf, uw], .agg #[.int .i64 E, yf, yw]] w fun e w' => e = .returned (.bool true) ∧ Below w.heap.size w w' := by
  have HV : Hid (w.ownsRow B 77 5 uf F.length (fiFlat c F) ∧ w.ownsRow B' 77 5 yf F.length (fiFlat c F) ∧ SW w uw Wl ∧ SW w yw Wl) := ⟨h1, h2, h3, h4⟩
  obtain ⟨a1, c1, rfl⟩ := rowS h1
  obtain ⟨a2, c2, rfl⟩ := rowS h2
  obtain ⟨a3, c3, rfl, _⟩ := h3
  obtain ⟨a4, c4, rfl, _⟩ := h4
  clear h1 h2
  have B0 : Below w.heap.size w ((w.alloc (.cells #[.int .i64 E, .slice a1 F.length c1, .slice a3 Wl.length c3] 66)).alloc (.cells #[.int .i64 E, .slice a2 F.length c2, .slice a4 Wl.length c4] 66)) := ((Below.refl _ w).alloc (Nat.le_refl _) _).alloc (by simp) _
  have n0 : ((w.alloc (.cells #[.int .i64 E, .slice a1 F.length c1, .slice a3 Wl.length c3] 66)).alloc (.cells #[.int .i64 E, .slice a2 F.length c2, .slice a4 Wl.length c4] 66)).heap[w.heap.size]? = some (.cells #[.int .i64 E, .slice a1 F.length c1, .slice a3 Wl.length c3] 66 (0, 0)) := by
    rw [Below.heap_alloc _ _ _ (by simp)]; exact heap_alloc_new _ _
  have n1 : ((w.alloc (.cells #[.int .i64 E, .slice a1 F.length c1, .slice a3 Wl.length c3] 66)).alloc (.cells #[.int .i64 E, .slice a2 F.length c2, .slice a4 Wl.length c4] 66)).heap[w.heap.size + 1]? = some (.cells #[.int .i64 E, .slice a2 F.length c2, .slice a4 Wl.length c4] 66 (0, 0)) := by
    have := heap_alloc_new (w.alloc (.cells #[.int .i64 E, .slice a1 F.length c1, .slice a3 Wl.length c3] 66)) (.cells #[.int .i64 E, .slice a2 F.length c2, .slice a4 Wl.length c4] 66 (0, 0)); rwa [World.size_alloc] at this
  have HQ : Hid (∀ V, Below w.heap.size w V → Calls Tryz.prog 25 #[.slice a1 F.length c1, .slice a2 F.length c2] V fun e w' => e = .returned (.bool true) ∧ Below V.heap.size V w') := fun V hV => eqFired_same (rowK HV.out.1 (Below.kept hV) (fun k hk => by have := (HV.out.1.lt k hk).2; omega)) (rowK HV.out.2.1 (Below.kept hV) (fun k hk => by have := (HV.out.2.1.lt k hk).2; omega)) hF
  have HR : Hid (∀ V, Below w.heap.size w V → Calls Tryz.prog 15 #[.slice a3 Wl.length c3, .slice a4 Wl.length c4] V fun e w' => e = .returned (.bool true) ∧ Below V.heap.size V w') := fun V hV => eqWatches_same (HV.out.2.2.1.kept (Below.kept hV) (fun k hk => by
      have h := HV.out.2.2.1
      obtain ⟨ao', cap', e', _, hc'⟩ := h
      simp only [Value.slice.injEq, true_and] at e'
      rw [e'.1] at hk
      by_cases hn : Wl = []
      · subst hn; cases hk
      · obtain ⟨b0, off, e2, hcx⟩ := hc' hn
        rw [e2] at hk
        have hk2 := live_own hk
        simp [Value.ownBlock] at hk2
        obtain ⟨y, hy⟩ : ∃ y, Wl[0]? = some y := ⟨_, List.getElem?_eq_getElem (List.length_pos_iff.2 hn)⟩
        have := World.block_lt_of_cell? w _ (hcx 0 y hy).1
        simp at this
        omega)) (HV.out.2.2.2.kept (Below.kept hV) (fun k hk => by
      have h := HV.out.2.2.2
      obtain ⟨ao', cap', e', _, hc'⟩ := h
      simp only [Value.slice.injEq, true_and] at e'
      rw [e'.1] at hk
      by_cases hn : Wl = []
      · subst hn; cases hk
      · obtain ⟨b0, off, e2, hcx⟩ := hc' hn
        rw [e2] at hk
        have hk2 := live_own hk
        simp [Value.ownBlock] at hk2
        obtain ⟨y, hy⟩ : ∃ y, Wl[0]? = some y := ⟨_, List.getElem?_eq_getElem (List.length_pos_iff.2 hn)⟩
        have := World.block_lt_of_cell? w _ (hcx 0 y hy).1
        simp at this
        omega)) hW
  have HB0 : Hid (Below w.heap.size w ((w.alloc (.cells #[.int .i64 E, .slice a1 F.length c1, .slice a3 Wl.length c3] 66)).alloc (.cells #[.int .i64 E, .slice a2 F.length c2, .slice a4 Wl.length c4] 66)) ∧ ((w.alloc (.cells #[.int .i64 E, .slice a1 F.length c1, .slice a3 Wl.length c3] 66)).alloc (.cells #[.int .i64 E, .slice a2 F.length c2, .slice a4 Wl.length c4] 66)).heap[w.heap.size]? = some (.cells #[.int .i64 E, .slice a1 F.length c1, .slice a3 Wl.length c3] 66 (0, 0)) ∧ ((w.alloc (.cells #[.int .i64 E, .slice a1 F.length c1, .slice a3 Wl.length c3] 66)).alloc (.cells #[.int .i64 E, .slice a2 F.length c2, .slice a4 Wl.length c4] 66)).heap[w.heap.size + 1]? = some (.cells #[.int .i64 E, .slice a2 F.length c2, .slice a4 Wl.length c4] 66 (0, 0))) := ⟨B0, n0, n1⟩
  clear B0 n0 n1
  go_enter Tryz.func10, Tryz.ntmps10
  go_wp2_with fail
  go_at_call 25
  generalize (w.alloc (.cells #[.int .i64 E, .slice a1 F.length c1, .slice a3 Wl.length c3] 66)).alloc (.cells #[.int .i64 E, .slice a2 F.length c2, .slice a4 Wl.length c4] 66) = V at *
  refine Calls.mono (HQ.out V HB0.out.1) ?_
  rintro e V1 ⟨rfl, b1⟩
  have HB1 : Hid (Below w.heap.size w V1) := HB0.out.1.trans (b1.mono HB0.out.1.size)
  have n0 := box_later HB0.out.2.1 b1
  have n1 := box_later HB0.out.2.2 b1
  have k0 := cell_of_row _ w.heap.size 2 _ _ _ n0
  have k1 := cell_of_row _ (w.heap.size + 1) 2 _ _ _ n1
  have z0 := lt_of_block n0
  have z1 := lt_of_block n1
  clear n0 n1 b1 HB0
  go_wp2_with fail
  go_at_call 15
  refine Calls.mono (HR.out V1 HB1.out) ?_
  rintro e V2 ⟨rfl, b2⟩
  have HB2 : Hid (Below w.heap.size w V2) := HB1.out.trans (b2.mono HB1.out.size)
  clear b2
  go_wp2
  all_goals (go_ret; exact ⟨rfl, HB2.out⟩)

end Go.Proofs.YtkcapiblicfboaaGreatDoor
