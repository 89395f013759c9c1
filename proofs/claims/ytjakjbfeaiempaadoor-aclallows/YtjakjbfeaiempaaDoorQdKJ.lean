/- What the document's put, Fixed and Fix answer. -/
import Derived.Test.YtjakjbfeaiempaaDoorQdIJ
import Derived.Test.YtjakjbfeaiempaaDoorQcMJ
import Derived.Deep.RegionHeld
namespace Go.Proofs.YtjakjbfeaiempaaDoor
open Go.RowKit Go.Shelf
set_option maxRecDepth 8000

set_option maxHeartbeats 2000000 in
theorem refPut_any {w0 : World} {v : Value} (l : List EnT) (x : EnT) (w : World) (hb : Below w0.heap.size w0 w) (ho : w.ownsRow w0.heap.size 39 3 v l.length (enFlat l)) (hl : l.length ≤ 1000) :
    Calls Tryd.prog 32 #[v, .agg (enCs x)] w fun e w' => ∃ v', e = .returned v' ∧ w'.ownsRow w0.heap.size 39 3 v' (putL l x).length (enFlat (putL l x)) ∧ Below w0.heap.size w0 w' := by
  have HO : Hid (w.ownsRow w0.heap.size 39 3 v l.length (enFlat l)) := ho
  have HB : Hid (Below w0.heap.size w0 w) := hb
  obtain ⟨ao, cap, rfl, hlc, HC⟩ := SE_cells (SE_owns ho)
  clear ho hb
  have hg : Tryd.prog.eqGuardType Tryd.prog.depth 39 = false := by kernel_rfl
  have B0 : Below w.heap.size w (w.alloc (.cells (enCs x) 39)) := (Below.refl _ _).alloc (Nat.le_refl _) _
  have hnew : (w.alloc (.cells (enCs x) 39)).heap[w.heap.size]? = some (.cells (enCs x) 39 (0, 0)) := heap_alloc_new _ _
  have HW1 : Hid (Below w.heap.size w (w.alloc (.cells (enCs x) 39)) ∧ (w.alloc (.cells (enCs x) 39)).heap[w.heap.size]? = some (.cells (enCs x) 39 (0, 0))) := ⟨B0, hnew⟩
  clear B0 hnew
  go_enter Tryd.func32, Tryd.ntmps32
  go_wp2
  go_loopw [5] (fun vi wr => ∃ i : Nat, i ≤ l.length ∧ vi = .int .i64 (i : Int) ∧ Hid (((l.take i).any fun z => enEq x z) = false) ∧ Hid (Below w.heap.size w wr ∧ wr.heap[w.heap.size]? = some (.cells (enCs x) 39 (0, 0)))) (fun vi _ => l.length - (intOf vi).toNat)
  case atStart => exact ⟨0, Nat.zero_le _, rfl, rfl, HW1⟩
  case round =>
    obtain ⟨i, hi, rfl, HA, HW⟩ := hrel
    have p0 := cell_of_row wr _ 0 _ _ _ HW.out.2
    have p1 := cell_of_row wr _ 1 _ _ _ HW.out.2
    have p2 := cell_of_row wr _ 2 _ _ _ HW.out.2
    simp only [List.getElem?_toArray, List.getElem?_cons_zero, List.getElem?_cons_succ] at p0 p1 p2
    by_cases hlt : i < l.length
    · have d1 : decide ((i : Int) < (l.length : Int)) = true := by simp; omega
      obtain ⟨b, off, rfl, k0, k1, k2⟩ := HC.out i hlt
      have l0 := cell_below HW.out.1 k0
      have l1 := cell_below HW.out.1 k1
      have l2 := cell_below HW.out.1 k2
      obtain ⟨y, hy⟩ : ∃ y, y = l[i] := ⟨_, rfl⟩
      have HY : Hid (l[i]? = some y) := by show _ = _; rw [hy]; exact List.getElem?_eq_getElem hlt
      rw [← hy] at l0 l1 l2
      clear hy k0 k1 k2 HC
      have hq := eqEnV y.1 x.1 y.2.1 y.2.2 x.2.1 x.2.2
      have hif := ifE y x
      cases hyx : enEq y x
      · have HN : Hid (((l.take (i + 1)).any fun z => enEq x z) = false) := by
          show _ = _
          rw [List.take_add_one, HY.out, List.any_append, HA.out]
          show (false || (enEq x y || false)) = false
          rw [Bool.or_false, Bool.false_or, Bool.eq_false_iff]
          intro hxy
          rw [(enEq_iff x y).1 hxy, (enEq_iff y y).2 rfl] at hyx
          cases hyx
        rw [hyx] at hif
        unfold enEq at hyx
        rw [hyx] at hq
        clear hyx
        go_wp2
        go_quiet (fail)
        go_wp2
        go_roundw
        case rel => exact ⟨i + 1, by omega, by go_num, HN, below_drewN HW.out.1 _, HW.out.2⟩
        case measure => simp [intOf]; omega
      · have HX : Hid (putL l x = l) := by
          show _ = _
          unfold putL
          rw [if_pos]
          rw [any_eq enEq_iff, ← (enEq_iff y x).1 hyx]
          exact List.mem_of_getElem? HY.out
        rw [hyx] at hif
        unfold enEq at hyx
        rw [hyx] at hq
        clear hyx
        go_wp2
        go_quiet (fail)
        go_wp2
        go_ret
        refine ⟨_, rfl, ?_, HB.out.trans ((below_drewN HW.out.1 _).mono HB.out.size)⟩
        rw [HX.out]
        exact owns_below HO.out (below_drewN HW.out.1 _)
    · have d1 : decide ((i : Int) < (l.length : Int)) = false := by simp; omega
      have HX : Hid (putL l x = l ++ [x]) := by
        show _ = _
        have := HA.out
        rw [List.take_of_length_le (by omega)] at this
        unfold putL
        rw [this]
        rfl
      have B1 : Below wr.heap.size wr (wr.alloc (.cells (enCs x) 39)) := (Below.refl _ _).alloc (Nat.le_refl _) _
      have BW : Below w0.heap.size w0 (wr.alloc (.cells (enCs x) 39)) := (HB.out.trans (HW.out.1.mono HB.out.size)).trans (B1.mono (Nat.le_trans HB.out.size HW.out.1.size))
      have OW := owns_below (owns_below HO.out HW.out.1) B1
      obtain ⟨v', w', hr, ho, hgr⟩ := app_en (x := x) 22 OW (heap_alloc_new wr _) hl BW.size
      have HR : Hid (w'.ownsRow w0.heap.size 39 3 v' (putL l x).length (enFlat (putL l x)) ∧ Below w0.heap.size w0 w') := by
        rw [HX.out]
        exact ⟨ho, grown_below BW OW hgr⟩
      clear B1 BW OW ho hgr HC HX
      go_wp2_with (at_builtin; refine Lib.wpList_append_run_sl _ rfl _ _ 22 rfl _ _ rfl rfl hr ?_)
      go_ret
      exact ⟨_, rfl, HR.out.1, HR.out.2⟩

set_option maxHeartbeats 2000000 in
theorem refFixed_any (v : Value) (l : List EnT) (w : World) (h : SE w v l) (hsz : ∀ x ∈ l, x.2.2.size ≤ 4294967296) (hn : l.length ≤ 2000000000) :
    Calls Tryd.prog 33 #[v] w fun e w' => e = .returned (.bool (fxLs l)) ∧ Below w.heap.size w w' := by
  have HS : Hid (SE w v l) := h
  have HZ : Hid (∀ x ∈ l, x.2.2.size ≤ 4294967296) := hsz
  obtain ⟨ao, cap, rfl, hlc, HC⟩ := SE_cells h
  clear h hsz
  obtain ⟨res, hres⟩ : ∃ res, res = fxLs l := ⟨_, rfl⟩
  rw [← hres]
  have HR : Hid (res = fxLs l) := hres
  clear hres
  go_enter Tryd.func33, Tryd.ntmps33
  go_wp2
  go_loopw [3] (fun vi wr => ∃ i : Nat, i ≤ l.length ∧ vi = .int .i64 (i : Int) ∧ Hid ((l.take i).any isAu = false) ∧ Hid (wr = w)) (fun vi _ => l.length - (intOf vi).toNat)
  case atStart => exact ⟨0, Nat.zero_le _, rfl, rfl, rfl⟩
  case round =>
    obtain ⟨i, hi, rfl, HA, HW⟩ := hrel
    have hW := HW.out
    subst hW
    clear HW
    by_cases hlt : i < l.length
    · have d1 : decide ((i : Int) < (l.length : Int)) = true := by simp; omega
      obtain ⟨b, off, rfl, k0, k1, k2⟩ := HC.out i hlt
      obtain ⟨y, hy⟩ : ∃ y, y = l[i] := ⟨_, rfl⟩
      have HY : Hid (l[i]? = some y) := by show _ = _; rw [hy]; exact List.getElem?_eq_getElem hlt
      rw [← hy] at k0 k1 k2
      clear hy HC
      cases hau : isAu y
      · have HN : Hid ((l.take (i + 1)).any isAu = false) := by
          show _ = _
          rw [List.take_add_one, HY.out, List.any_append, HA.out]
          show (false || (isAu y || false)) = false
          rw [hau]
          rfl
        have hq : (y.2.1.toList == [97, 117, 116, 104]) = false := hau
        clear hau
        go_wp2
        go_roundw
        case rel => exact ⟨i + 1, by omega, by go_num, HN, by first | rfl | trivial⟩
        case measure => simp [intOf]; omega
      · have hX : res = false := by
          rw [HR.out, Bool.eq_false_iff]
          intro hf
          have := ((fxLs_iff l).1 hf).2.2 y (List.mem_of_getElem? HY.out)
          rw [hau] at this
          cases this
        subst hX
        have hq : (y.2.1.toList == [97, 117, 116, 104]) = true := hau
        clear hau HR
        go_wp2
        go_ret
        exact ⟨rfl, Below.refl _ _⟩
    · have d1 : decide ((i : Int) < (l.length : Int)) = false := by simp; omega
      have hna : l.any isAu = false := by
        have := HA.out
        rw [List.take_of_length_le (by omega)] at this
        exact this
      clear HC
      by_cases h0 : 0 < l.length
      · have d2 : decide (0 < (l.length : Int)) = true := by simp; omega
        have HCk := refCheck_any _ l wr HS.out HZ.out
        have hX : res = enLs l := by rw [HR.out]; unfold fxLs; rw [hna, decide_eq_true h0]; simp
        rw [← hX] at HCk
        clear HR HA hna hX
        go_wp2_with fail
        go_at_call 10
        refine HCk.mono ?_
        rintro e w1 ⟨rfl, hB⟩
        have HB : Hid (Below wr.heap.size wr w1) := hB
        clear hB HCk
        cases res
        · go_wp2
          go_ret
          exact ⟨rfl, HB.out⟩
        · go_wp2
          go_ret
          exact ⟨rfl, HB.out⟩
      · have d2 : decide (0 < (l.length : Int)) = false := by rw [decide_eq_false_iff_not]; omega
        have hX : res = false := by rw [HR.out]; unfold fxLs; rw [decide_eq_false h0]; simp
        subst hX
        clear HR HA hna
        go_wp2
        go_ret
        exact ⟨rfl, Below.refl _ _⟩

/-- The names among the first k ids, put behind a list. -/
def pw (acc : List EnT) (p : Int) (who : List IdT) (k : Nat) : List EnT := ((who.take k).filter isNm).foldl (fun a n => putL a (p, n.1, n.2)) acc

theorem pw_step {acc : List EnT} {p : Int} {who : List IdT} {k : Nat} {y : IdT} (h : who[k]? = some y) : pw acc p who (k + 1) = if isNm y then putL (pw acc p who k) (p, y.1, y.2) else pw acc p who k := by
  unfold pw
  rw [filter_step h, List.foldl_append]
  cases isNm y <;> rfl

theorem pw_all (acc : List EnT) (p : Int) (who : List IdT) : pw acc p who who.length = putNs (who.filter isNm) p acc (who.filter isNm).length := by
  unfold pw putNs
  rw [List.take_length, List.take_length]

theorem pw_len (acc : List EnT) (p : Int) (who : List IdT) : ∀ k, (pw acc p who k).length ≤ acc.length + k
  | 0 => by simp [pw]
  | k + 1 => by
    have ih := pw_len acc p who k
    cases h : who[k]? with
    | none =>
      have e : pw acc p who (k + 1) = pw acc p who k := by unfold pw; rw [List.take_add_one, h]; simp
      rw [e]; omega
    | some y =>
      rw [pw_step h]
      split
      · have := putL_len (pw acc p who k) (p, y.1, y.2); omega
      · omega

set_option maxHeartbeats 4000000 in
theorem refFix_any (v u : Value) (l : List EnT) (who : List IdT) (w : World) (h : SE w v l) (g : SI w u who) (hsz : ∀ x ∈ l, x.2.2.size ≤ 4294967296) (gsz : ∀ x ∈ who, x.2.size ≤ 4294967296) :
    Calls Tryd.prog 18 #[v, u] w fun e w' => (∃ fv, e = .returned (.tuple #[fv, erV (fixA l who).isSome]) ∧ w'.ownsRow w.heap.size 39 3 fv ((fixA l who).getD []).length (enFlat ((fixA l who).getD []))) ∧ Below w.heap.size w w' := by
  have HCh : Hid (Calls Tryd.prog 10 #[v] w fun e w' => e = .returned (erV (enLs l)) ∧ Below w.heap.size w w') := refCheck_any v l w h hsz
  have HCi : Hid (∀ V, Below w.heap.size w V → Calls Tryd.prog 11 #[u] V fun e w' => e = .returned (erV (idLs who)) ∧ Below w.heap.size w w') := fun V hV => (refCheckIds_any u who V (g.below hV) gsz).mono (fun e w' hh => ⟨hh.1, hV.trans (hh.2.mono hV.size)⟩)
  obtain ⟨ao, cap, rfl, hlc, HC⟩ := SE_cells h
  obtain ⟨bo, cbp, rfl, glc, HD⟩ := SI_cells g
  clear h g hsz gsz
  obtain ⟨res, hres⟩ : ∃ res, res = fixA l who := ⟨_, rfl⟩
  rw [← hres]
  cases hb1 : enLs l
  · have hr : res = none := by
      rw [hres]
      unfold fixA
      rw [if_neg (fun e => by
        rw [List.length_eq_zero_iff.1 e] at hb1
        exact absurd hb1 (by decide))]
      unfold fixL
      rw [hb1]
      rfl
    subst hr
    rw [hb1] at HCh
    clear hb1 hres HC HD
    generalize idLs who = b2 at HCi
    go_enter Tryd.func18, Tryd.ntmps18
    go_wp2_with fail
    go_at_call 10
    refine (HCh.out).mono ?_
    rintro e w1 ⟨rfl, hB⟩
    have HI1 := HCi.out w1 hB
    clear hB
    go_wp2_with fail
    go_at_call 11
    refine HI1.mono ?_
    rintro e w2 ⟨rfl, hB⟩
    have HB : Hid (Below w.heap.size w w2) := hB
    clear hB HI1
    generalize (if b2 = true then (0 : Int) else 60) = cb
    go_wp2
    refine bodyPost_ret (results_tmp2 rfl _ _ _) rfl ?_
    exact ⟨⟨_, rfl, World.ownsRow_nil _ _ _ _⟩, HB.out⟩
  cases hb2 : idLs who
  · have hr : res = none := by
      rw [hres]
      unfold fixA fixL
      rw [hb2]
      split
      · rfl
      · rw [Bool.and_false]; rfl
    subst hr
    rw [hb1] at HCh
    rw [hb2] at HCi
    clear hb1 hb2 hres HC HD
    go_enter Tryd.func18, Tryd.ntmps18
    go_wp2_with fail
    go_at_call 10
    refine (HCh.out).mono ?_
    rintro e w1 ⟨rfl, hB⟩
    have HI1 := HCi.out w1 hB
    clear hB
    go_wp2_with fail
    go_at_call 11
    refine HI1.mono ?_
    rintro e w2 ⟨rfl, hB⟩
    have HB : Hid (Below w.heap.size w w2) := hB
    clear hB HI1
    go_wp2
    refine bodyPost_ret (results_tmp2 rfl _ _ _) rfl ?_
    exact ⟨⟨_, rfl, World.ownsRow_nil _ _ _ _⟩, HB.out⟩
  obtain ⟨hl4, hen, _⟩ := (enLs_iff l).1 hb1
  obtain ⟨hw4, _, _⟩ := (idLs_iff who).1 hb2
  by_cases hl0 : l.length = 0
  · have hr : res = some [evE] := by rw [hres]; unfold fixA; rw [if_pos hl0, hb2]; rfl
    subst hr
    rw [hb1] at HCh
    rw [hb2] at HCi
    clear hres
    rw [hl0] at HCh ⊢
    clear hb1 hb2 HC HD hl0 hen
    go_enter Tryd.func18, Tryd.ntmps18
    go_wp2_with fail
    go_at_call 10
    refine (HCh.out).mono ?_
    rintro e w1 ⟨rfl, hB⟩
    have HI1 := HCi.out w1 hB
    clear hB
    go_wp2_with fail
    go_at_call 11
    refine HI1.mono ?_
    rintro e w2 ⟨rfl, hB⟩
    have HB : Hid (Below w.heap.size w w2) := hB
    clear hB HI1
    go_wp2
    refine bodyPost_ret (results_tmp2 rfl _ _ _) rfl ?_
    exact ⟨⟨_, rfl, ⟨rfl, .inr ⟨w2.heap.size, 1, _, rfl, HB.out.size, heap_alloc_new _ _, Nat.le_refl _, by decide, rfl, rfl⟩⟩⟩, HB.out.alloc HB.out.size _⟩
  have hrL : res = fixL l who := by rw [hres]; unfold fixA; rw [if_neg hl0]
  have HRL : Hid (res = if !(l.any isAu && decide (((who.filter isNm).length : Int) = 0)) && !decide ((4 : Int) < ((putAt (who.filter isNm) l l.length).length : Int)) then some (putAt (who.filter isNm) l l.length) else none) := by
    show _ = _
    rw [hrL]
    unfold fixL
    rw [hb1, hb2]
    rfl
  rw [hb1] at HCh
  rw [hb2] at HCi
  clear hb1 hb2 hres hrL hen
  have d0 : ((l.length : Int) == 0) = false := by rw [beq_eq_false_iff_ne]; omega
  go_enter Tryd.func18, Tryd.ntmps18
  go_wp2_with fail
  go_at_call 10
  refine (HCh.out).mono ?_
  rintro e w1 ⟨rfl, hB⟩
  have HI1 := HCi.out w1 hB
  clear hB
  go_wp2_with fail
  go_at_call 11
  refine HI1.mono ?_
  rintro e w2 ⟨rfl, hB⟩
  have HB : Hid (Below w.heap.size w w2) := hB
  clear hB HI1 HCh HCi
  go_wp2
  go_loopw [8, 9] (fun vo vi wr => ∃ i : Nat, i ≤ l.length ∧ vi = .int .i64 (i : Int) ∧ Hid (wr.ownsRow w.heap.size 39 3 vo (putAt (who.filter isNm) l i).length (enFlat (putAt (who.filter isNm) l i))) ∧ Hid (Below w.heap.size w wr) ∧ Hid ((l.take i).any isAu = true → 0 < (who.filter isNm).length)) (fun _ vi _ => l.length - (intOf vi).toNat)
  case atStart => exact ⟨0, Nat.zero_le _, rfl, World.ownsRow_nil _ _ _ _, HB.out, fun h => by simp at h⟩
  case round =>
    obtain ⟨i, hi, rfl, HO, HB1, HN⟩ := hrel
    obtain ⟨oo, ol, oc, rfl⟩ : ∃ oo ol oc, u8 = .slice oo ol oc := by
      obtain ⟨_, ⟨rfl, _⟩ | ⟨g, cap, cur, rfl, _⟩⟩ := HO.out
      · exact ⟨_, _, _, rfl⟩
      · exact ⟨_, _, _, rfl⟩
    have HPl : Hid ((putAt (who.filter isNm) l i).length ≤ 4 * i) := putAt_len _ (Nat.le_trans (List.length_filter_le _ _) hw4) l i
    by_cases hlt : i < l.length
    · have d1 : decide ((i : Int) < (l.length : Int)) = true := by simp; omega
      obtain ⟨b, off, rfl, k0, k1, k2⟩ := HC.out i hlt
      have l0 := cell_below HB1.out k0
      have l1 := cell_below HB1.out k1
      have l2 := cell_below HB1.out k2
      obtain ⟨x, hx⟩ : ∃ x, x = l[i] := ⟨_, rfl⟩
      have HX : Hid (l[i]? = some x) := by show _ = _; rw [hx]; exact List.getElem?_eq_getElem hlt
      rw [← hx] at k0 k1 k2 l0 l1 l2
      clear hx
      cases hau : isAu x
      · have HN2 : Hid ((l.take (i + 1)).any isAu = true → 0 < (who.filter isNm).length) := fun hh => by
          rw [List.take_add_one, HX.out, List.any_append] at hh
          simp only [Option.toList, List.any_cons, List.any_nil, hau, Bool.or_false] at hh
          exact HN.out hh
        have HS : Hid (putAt (who.filter isNm) l (i + 1) = putL (putAt (who.filter isNm) l i) x) := by
          show _ = _
          rw [putAt_step HX.out]
          unfold putOn
          rw [hau]
          rfl
        have hq : (x.2.1.toList == [97, 117, 116, 104]) = false := hau
        have hq2 : (x.2.1.toList != [97, 117, 116, 104]) = true := by rw [bne, hq]; rfl
        have HPt := refPut_any (w0 := w) (putAt (who.filter isNm) l i) x wr HB1.out HO.out (by have := HPl.out; omega)
        clear hau HC HD k0 k1 k2
        go_wp2_with fail
        go_at_call 32
        refine HPt.mono ?_
        rintro e w3 ⟨v', rfl, ho, hb⟩
        have HR : Hid (w3.ownsRow w.heap.size 39 3 v' (putAt (who.filter isNm) l (i + 1)).length (enFlat (putAt (who.filter isNm) l (i + 1))) ∧ Below w.heap.size w w3) := by
          rw [HS.out]
          exact ⟨ho, hb⟩
        clear ho hb HPt
        go_wp2
        go_roundw
        case rel => exact ⟨i + 1, by omega, by go_num, HR.out.1, HR.out.2, HN2⟩
        case measure => simp [intOf]; omega
      · have hq : (x.2.1.toList == [97, 117, 116, 104]) = true := hau
        have hq2 : (x.2.1.toList != [97, 117, 116, 104]) = false := by rw [bne, hq]; rfl
        obtain ⟨acc, hacc⟩ : ∃ acc, acc = putAt (who.filter isNm) l i := ⟨_, rfl⟩
        rw [← hacc] at HO HPl
        have HS : Hid (putAt (who.filter isNm) l (i + 1) = pw acc x.1 who who.length) := by
          show _ = _
          rw [putAt_step HX.out, pw_all, hacc]
          unfold putOn
          rw [hau]
          rfl
        have HAA : Hid (l.any isAu = true) := List.any_eq_true.2 ⟨x, List.mem_of_getElem? HX.out, hau⟩
        clear hau hacc
        go_wp2
        go_loopw [8, 10, 11] (fun vo vn vk wr => ∃ k : Nat, k ≤ who.length ∧ vk = .int .i64 (k : Int) ∧ vn = .int .i64 (((who.take k).filter isNm).length : Int) ∧ Hid (wr.ownsRow w.heap.size 39 3 vo (pw acc x.1 who k).length (enFlat (pw acc x.1 who k))) ∧ Hid (Below w.heap.size w wr)) (fun _ _ vk _ => who.length - (intOf vk).toNat)
        case atStart => exact ⟨0, Nat.zero_le _, rfl, rfl, HO.out, HB1.out⟩
        case round =>
          obtain ⟨k, hk, rfl, rfl, HO2, HB2⟩ := hrel
          obtain ⟨po, pl, pc, rfl⟩ : ∃ oo ol oc, u8 = .slice oo ol oc := by
            obtain ⟨_, ⟨rfl, _⟩ | ⟨g, cap, cur, rfl, _⟩⟩ := HO2.out
            · exact ⟨_, _, _, rfl⟩
            · exact ⟨_, _, _, rfl⟩
          have HPL : Hid ((pw acc x.1 who k).length ≤ 16 + 4) := by
            have h1 := pw_len acc x.1 who k
            have h2 := HPl.out
            show _ ≤ _
            omega
          have hfl : ((who.take k).filter isNm).length ≤ k := Nat.le_trans (List.length_filter_le _ _) (by rw [List.length_take]; omega)
          by_cases hkw : k < who.length
          · have d2 : decide ((k : Int) < (who.length : Int)) = true := by simp; omega
            obtain ⟨b2, off2, rfl, j0, j1⟩ := HD.out k hkw
            have m0 := cell_below HB2.out j0
            have m1 := cell_below HB2.out j1
            obtain ⟨y, hy⟩ : ∃ y, y = who[k] := ⟨_, rfl⟩
            have HY : Hid (who[k]? = some y) := by show _ = _; rw [hy]; exact List.getElem?_eq_getElem hkw
            rw [← hy] at j0 j1 m0 m1
            clear hy
            have n0 := cell_below HB2.out k0
            have n1 := cell_below HB2.out k1
            cases hnm : isNm y
            · have hqn : (y.1.toList == [110, 97, 109, 101]) = false := hnm
              have HPW : Hid (pw acc x.1 who (k + 1) = pw acc x.1 who k) := by show _ = _; rw [pw_step HY.out, hnm]; rfl
              have HF : Hid (((who.take (k + 1)).filter isNm).length = ((who.take k).filter isNm).length) := by show _ = _; rw [filter_step HY.out, hnm]; simp
              clear hnm HC HD
              generalize ((who.take k).filter isNm).length = nn at *
              go_wp2
              go_roundw
              case rel => exact ⟨k + 1, by omega, by go_num, by rw [HF.out], by rw [HPW.out]; exact HO2, HB2⟩
              case measure => simp [intOf]; omega
            · have hqn : (y.1.toList == [110, 97, 109, 101]) = true := hnm
              have HPW : Hid (pw acc x.1 who (k + 1) = putL (pw acc x.1 who k) (x.1, y.1, y.2)) := by show _ = _; rw [pw_step HY.out, hnm]; rfl
              have HF : Hid (((who.take (k + 1)).filter isNm).length = ((who.take k).filter isNm).length + 1) := by show _ = _; rw [filter_step HY.out, hnm]; simp
              clear hnm HC HD
              generalize ((who.take k).filter isNm).length = nn at *
              have ia : (0 : Int) ≤ (i : Int) := by omega
              have ib : (i : Int) < (l.length : Int) := by omega
              have ka : (0 : Int) ≤ (k : Int) := by omega
              have kb : (k : Int) < (who.length : Int) := by omega
              go_wp2
              refine wp_region_held_drew (S := fun V' => V'.cell? ⟨b, off + i * 3, none⟩ = some (.int .i8 x.1) ∧ V'.cell? ⟨b2, off2 + k * 2, none⟩ = some (.string y.1) ∧ V'.cell? ⟨b2, off2 + k * 2 + 1, none⟩ = some (.string y.2)) (by kernel_rfl) ?_ (fun hHeld => ?_)
              · exact ⟨cell_below (below_drewN HB2.out 1) k0, cell_below (below_drewN HB2.out 1) j0, cell_below (below_drewN HB2.out 1) j1⟩
              refine wpAnyH_take (i := 0) (oi := { dst := some 61, op := Op.move (Operand.tmp 8), type := 22, pos := "ref.go:169", after := #[], guard := none }) (v := ?_) rfl (by kernel_rfl) (by kernel_rfl) (by kernel_rfl) (fun _ _ _ h => h) (Or.inl ⟨by rfl, ?_⟩) (by assumption) ?_
              rotate_left
              · (intro w hSw; (try dsimp only at hSw); go_simp) <;> with_reducible rfl
              try simp only [Act.put, List.setIfInBounds_toArray, List.set_cons_zero, List.set_cons_succ]
              refine wpAnyH_take (i := 1) (oi := { dst := some 62, op := Op.move (Operand.tmp 0), type := 22, pos := "ref.go:169", after := #[], guard := none }) (v := ?_) rfl (by kernel_rfl) (by kernel_rfl) (by kernel_rfl) (fun _ _ _ h => h) (Or.inl ⟨by rfl, ?_⟩) (by assumption) ?_
              rotate_left
              · (intro w hSw; (try dsimp only at hSw); go_simp) <;> with_reducible rfl
              try simp only [Act.put, List.setIfInBounds_toArray, List.set_cons_zero, List.set_cons_succ]
              refine wpAnyH_take (i := 2) (oi := { dst := some 63, op := Op.move (Operand.tmp 9), type := 3, pos := "ref.go:169", after := #[], guard := none }) (v := ?_) rfl (by kernel_rfl) (by kernel_rfl) (by kernel_rfl) (fun _ _ _ h => h) (Or.inl ⟨by rfl, ?_⟩) (by assumption) ?_
              rotate_left
              · (intro w hSw; (try dsimp only at hSw); go_simp) <;> with_reducible rfl
              try simp only [Act.put, List.setIfInBounds_toArray, List.set_cons_zero, List.set_cons_succ]
              refine wpAnyH_take (i := 3) (oi := { dst := some 64, op := Op.indexAddr 22 (Operand.tmp 62) (Operand.tmp 63), type := 0, pos := "ref.go:169", after := #[{ on := 1, ground := Ground.data }, { on := 2, ground := Ground.data }], guard := none }) (v := ?_) rfl (by kernel_rfl) (by kernel_rfl) (by kernel_rfl) (fun _ _ _ h => h) (Or.inl ⟨by rfl, ?_⟩) (by assumption) ?_
              rotate_left
              · (intro w hSw; (try dsimp only at hSw); go_simp) <;> with_reducible rfl
              try simp only [Act.put, List.setIfInBounds_toArray, List.set_cons_zero, List.set_cons_succ]
              refine wpAnyH_take (i := 4) (oi := { dst := some 65, op := Op.fieldAddr 39 (Operand.tmp 64) 0, type := 0, pos := "ref.go:169", after := #[{ on := 3, ground := Ground.data }], guard := none }) (v := ?_) rfl (by kernel_rfl) (by kernel_rfl) (by kernel_rfl) (fun _ _ _ h => h) (Or.inl ⟨by rfl, ?_⟩) (by assumption) ?_
              rotate_left
              · (intro w hSw; (try dsimp only at hSw); go_simp) <;> with_reducible rfl
              try simp only [Act.put, List.setIfInBounds_toArray, List.set_cons_zero, List.set_cons_succ]
              refine wpAnyH_take (i := 5) (oi := { dst := some 66, op := Op.load 35 (Operand.tmp 65), type := 35, pos := "ref.go:169", after := #[{ on := 4, ground := Ground.data }], guard := none }) (v := ?_) rfl (by kernel_rfl) (by kernel_rfl) (by kernel_rfl) (fun _ _ _ h => h) (Or.inl ⟨by rfl, ?_⟩) (by assumption) ?_
              rotate_left
              · (intro w hSw; (try dsimp only at hSw); go_simp) <;> with_reducible rfl
              try simp only [Act.put, List.setIfInBounds_toArray, List.set_cons_zero, List.set_cons_succ]
              refine wpAnyH_take (i := 6) (oi := { dst := some 67, op := Op.move (Operand.tmp 1), type := 23, pos := "ref.go:169", after := #[], guard := none }) (v := ?_) rfl (by kernel_rfl) (by kernel_rfl) (by kernel_rfl) (fun _ _ _ h => h) (Or.inl ⟨by rfl, ?_⟩) (by assumption) ?_
              rotate_left
              · (intro w hSw; (try dsimp only at hSw); go_simp) <;> with_reducible rfl
              try simp only [Act.put, List.setIfInBounds_toArray, List.set_cons_zero, List.set_cons_succ]
              refine wpAnyH_take (i := 7) (oi := { dst := some 68, op := Op.move (Operand.tmp 11), type := 3, pos := "ref.go:169", after := #[], guard := none }) (v := ?_) rfl (by kernel_rfl) (by kernel_rfl) (by kernel_rfl) (fun _ _ _ h => h) (Or.inl ⟨by rfl, ?_⟩) (by assumption) ?_
              rotate_left
              · (intro w hSw; (try dsimp only at hSw); go_simp) <;> with_reducible rfl
              try simp only [Act.put, List.setIfInBounds_toArray, List.set_cons_zero, List.set_cons_succ]
              refine wpAnyH_take (i := 8) (oi := { dst := some 69, op := Op.indexAddr 23 (Operand.tmp 67) (Operand.tmp 68), type := 0, pos := "ref.go:169", after := #[{ on := 6, ground := Ground.data }, { on := 7, ground := Ground.data }], guard := none }) (v := ?_) rfl (by kernel_rfl) (by kernel_rfl) (by kernel_rfl) (fun _ _ _ h => h) (Or.inl ⟨by rfl, ?_⟩) (by assumption) ?_
              rotate_left
              · (intro w hSw; (try dsimp only at hSw); go_simp) <;> with_reducible rfl
              try simp only [Act.put, List.setIfInBounds_toArray, List.set_cons_zero, List.set_cons_succ]
              refine wpAnyH_take (i := 9) (oi := { dst := some 70, op := Op.load 37 (Operand.tmp 69), type := 37, pos := "ref.go:169", after := #[{ on := 8, ground := Ground.data }], guard := none }) (v := ?_) rfl (by kernel_rfl) (by kernel_rfl) (by kernel_rfl) (fun _ _ _ h => h) (Or.inl ⟨by rfl, ?_⟩) (by assumption) ?_
              rotate_left
              · (intro w hSw; (try dsimp only at hSw); go_simp) <;> with_reducible rfl
              try simp only [Act.put, List.setIfInBounds_toArray, List.set_cons_zero, List.set_cons_succ]
              refine wpAnyH_take (i := 10) (oi := { dst := some 71, op := Op.build 39 #[(0, Operand.tmp 66), (1, Operand.tmp 70)], type := 39, pos := "ref.go:169", after := #[{ on := 5, ground := Ground.data }, { on := 9, ground := Ground.data }], guard := none }) (v := ?_) rfl (by kernel_rfl) (by kernel_rfl) (by kernel_rfl) (fun _ _ _ h => h) (Or.inl ⟨by rfl, ?_⟩) (by assumption) ?_
              rotate_left
              · (intro w hSw; (try dsimp only at hSw); go_simp) <;> with_reducible rfl
              try simp only [Act.put, List.setIfInBounds_toArray, List.set_cons_zero, List.set_cons_succ]
              refine wpAnyH_ready (rs := [11]) (by kernel_rfl) (by simp) ?_
              refine AllReadyH.cons (o := { dst := some 72, op := Op.call { callee := Callee.value (Operand.func 32), args := #[Operand.tmp 61, Operand.tmp 71], argTypes := #[22, 39] }, type := 22, pos := "ref.go:169", after := #[{ on := 0, ground := Ground.data }, { on := 10, ground := Ground.data }], guard := none }) rfl (fun K hK => ?_) AllReadyH.nil
              go_simp
              refine (refPut_any (w0 := w) (pw acc x.1 who k) (x.1, y.1, y.2) _ (below_drewN HB2.out 1) (owns_below HO2.out (below_drewN (Below.refl _ _) 1)) (by have := HPL.out; omega)).mono ?_
              rintro e wc ⟨v', rfl, ho, hb⟩
              have HP3 : Hid (wc.ownsRow w.heap.size 39 3 v' (pw acc x.1 who (k + 1)).length (enFlat (pw acc x.1 who (k + 1))) ∧ Below w.heap.size w wc) := by
                rw [HPW.out]
                exact ⟨ho, hb⟩
              clear hHeld ho
              refine hK.out _ _ ⟨cell_below hb k0, cell_below hb j0, cell_below hb j1⟩ (fun hHeld => ?_)
              clear hK K
              refine wpAnyH_take (i := 12) (oi := { dst := some 8, op := Op.assign (Operand.tmp 72), type := 22, pos := "ref.go:169", after := #[{ on := 11, ground := Ground.data }, { on := 11, ground := Ground.chain }, { on := 0, ground := Ground.phase }, { on := 1, ground := Ground.phase }, { on := 2, ground := Ground.phase }, { on := 3, ground := Ground.phase }, { on := 4, ground := Ground.phase }, { on := 5, ground := Ground.phase }, { on := 6, ground := Ground.phase }, { on := 7, ground := Ground.phase }, { on := 8, ground := Ground.phase }, { on := 9, ground := Ground.phase }, { on := 10, ground := Ground.phase }, { on := 11, ground := Ground.phase }], guard := none }) (v := ?_) rfl (by kernel_rfl) (by kernel_rfl) (by kernel_rfl) (fun _ _ _ h => h) (Or.inl ⟨by rfl, ?_⟩) (by assumption) ?_
              rotate_left
              · (intro w hSw; (try dsimp only at hSw); go_simp) <;> with_reducible rfl
              try simp only [Act.put, List.setIfInBounds_toArray, List.set_cons_zero, List.set_cons_succ]
              refine wpAnyH_done (by kernel_rfl) ?_ _
              go_wp2
              go_roundw
              case rel => exact ⟨k + 1, by omega, by go_num, by rw [HF.out]; rfl, HP3.out.1, HP3.out.2⟩
              case measure => simp [intOf]; omega
          · have d2 : decide ((k : Int) < (who.length : Int)) = false := by simp; omega
            obtain rfl : k = who.length := by omega
            rw [List.take_length] at hfl ⊢
            by_cases hnn : (who.filter isNm).length = 0
            · have hr : res = none := by
                rw [HRL.out, HAA.out, decide_eq_true (show (((who.filter isNm).length : Nat) : Int) = 0 by omega)]
                rfl
              subst hr
              have dn : ((((who.filter isNm).length : Nat) : Int) == 0) = true := by rw [beq_iff_eq]; omega
              clear HC HD HRL hnn
              generalize (who.filter isNm).length = nn at *
              go_wp2
              refine bodyPost_ret (results_tmp2 rfl _ _ _) rfl ?_
              exact ⟨⟨_, rfl, World.ownsRow_nil _ _ _ _⟩, HB2.out⟩
            · have dn : ((((who.filter isNm).length : Nat) : Int) == 0) = false := by rw [beq_eq_false_iff_ne]; omega
              have HN2 : Hid ((l.take (i + 1)).any isAu = true → 0 < (who.filter isNm).length) := fun _ => by omega
              have HR : Hid (wr.ownsRow w.heap.size 39 3 (.slice po pl pc) (putAt (who.filter isNm) l (i + 1)).length (enFlat (putAt (who.filter isNm) l (i + 1)))) := by
                rw [HS.out]
                exact HO2.out
              clear HC HD hnn
              generalize (who.filter isNm).length = nn at dn hfl ⊢
              go_wp2
              go_roundw
              case rel => exact ⟨i + 1, by omega, by go_num, HR, HB2, HN2⟩
              case measure => simp [intOf]; omega
    · have d1 : decide ((i : Int) < (l.length : Int)) = false := by simp; omega
      obtain rfl : i = l.length := by omega
      have hnot : (l.any isAu && decide (((who.filter isNm).length : Int) = 0)) = false := by
        have := HN.out
        rw [List.take_length] at this
        cases ha : l.any isAu
        · rfl
        · rw [decide_eq_false (by have := this ha; omega)]; rfl
      have hol : (putAt (who.filter isNm) l l.length).length = ol := by
        obtain ⟨_, ⟨e, h0⟩ | ⟨g, cap, cur, e, _⟩⟩ := HO.out
        · simp at e; rw [h0, e.2.1]
        · simp at e; exact e.2.1.symm
      cases hd : decide ((4 : Int) < ((putAt (who.filter isNm) l l.length).length : Int))
      · have hr : res = some (putAt (who.filter isNm) l l.length) := by rw [HRL.out, hnot, hd]; rfl
        subst hr
        have HO3 : Hid (wr.ownsRow w.heap.size 39 3 (.slice oo ol oc) (putAt (who.filter isNm) l l.length).length (enFlat (putAt (who.filter isNm) l l.length))) := HO.out
        rw [hol] at hd
        clear HC HD HRL hnot hol HO
        go_wp2
        refine bodyPost_ret (results_tmp2 rfl _ _ _) rfl ?_
        exact ⟨⟨_, rfl, HO3.out⟩, HB1.out⟩
      · have hr : res = none := by rw [HRL.out, hnot, hd]; rfl
        subst hr
        rw [hol] at hd
        clear HC HD HRL hnot hol HO
        go_wp2
        refine bodyPost_ret (results_tmp2 rfl _ _ _) rfl ?_
        exact ⟨⟨_, rfl, World.ownsRow_nil _ _ _ _⟩, HB1.out⟩

end Go.Proofs.YtjakjbfeaiempaaDoor
