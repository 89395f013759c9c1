/- manifest.Read of any bytes: the manifest whose bytes they are, or ErrMani. -/
import Derived.Test.YtdbphdllibffnaaGreatMsAJ
namespace Go.Proofs.YtdbphdllibffnaaGreat
open Go.RowKit Go.Shelf
set_option maxRecDepth 8000

set_option maxHeartbeats 4000000 in
theorem mread_mid (v : Value) (xs : List Int) (w : World) (h : Sees w v xs) (hb : Byts xs) (hl : xs.length ≤ 140737488355328) (h0 : bodyLen xs ≠ 0) (h9 : bodyLen xs + 9 = xs.length) (hno : isM xs = false) :
    Calls Tryz.prog 16 #[v] w fun e w' => e = .returned (.tuple #[zeroM, .int .i64 110]) ∧ Below w.heap.size w w' := by
  obtain ⟨ys, hy⟩ : ∃ ys, ys = (xs.drop 8).take (bodyLen xs) := ⟨_, rfl⟩
  have hyb : Byts ys := by rw [hy]; exact (hb.drop 8).take _
  have hyl : ys.length ≤ 140737488355328 := by rw [hy]; simp; omega
  obtain ⟨R0, hR0⟩ : ∃ R0, R0 = rdNum 1 ys 0 := ⟨_, rfl⟩
  obtain ⟨x, hx⟩ : ∃ x, x = IntKind.i8.wrap R0.out := ⟨_, rfl⟩
  obtain ⟨m, hm⟩ : ∃ m, m = numD R0.rest R0.fault := ⟨_, rfl⟩
  obtain ⟨S, hS⟩ : ∃ S, S = numS R0.rest R0.fault := ⟨_, rfl⟩
  obtain ⟨E, hE⟩ : ∃ E : Int, E = (if S.2 ≠ 0 then S.2 else if S.1 = [] then 0 else 13) := ⟨_, rfl⟩
  have hno4 : ¬ (x = 1 ∧ E = 0 ∧ mayM m = true) := by
    rintro ⟨a1, a2, a3⟩
    rw [hE] at a2
    have b1 : S.2 = 0 := by
      by_cases c : S.2 ≠ 0
      · rw [if_pos c] at a2; exact a2
      · exact Classical.not_not.1 c
    have b2 : S.1 = [] := by
      rw [if_neg (by rw [b1]; exact fun h => h rfl)] at a2
      by_cases c : S.1 = []
      · exact c
      · rw [if_neg c] at a2; simp at a2
    rw [hx, hR0] at a1
    rw [hS, hR0] at b1 b2
    rw [hm, hR0] at a3
    have := body_man xs hb h0 h9 ys hy a1 b1 b2 a3
    rw [this] at hno
    cases hno
  obtain ⟨W, eW⟩ : ∃ W, W = w.alloc (.cells #[.int .u32 0, .int .u32 0, .int .u32 0, .int .i64 0, .int .i64 0] 35) := ⟨_, rfl⟩
  have hbW : Below w.heap.size w W := by rw [eW]; exact one_allocK _ _
  have HO : Hid _ := one_ok v xs W (h.below hbW (Nat.le_refl _)) hb hl h0 h9
  rw [← hy] at HO
  have hrow : W.heap[w.heap.size]? = some (.cells #[.int .u32 0, .int .u32 0, .int .u32 0, .int .i64 0, .int .i64 0] 35 (0, 0)) := by rw [eW]; exact heap_alloc_new w _
  have HE : Hid _ := eW
  have HX : Hid (Below w.heap.size w W ∧ W.heap[w.heap.size]? = some (.cells #[.int .u32 0, .int .u32 0, .int .u32 0, .int .i64 0, .int .i64 0] 35 (0, 0)) ∧ Byts ys ∧ ys.length ≤ 140737488355328) := ⟨hbW, hrow, hyb, hyl⟩
  have HN : Hid ((R0 = rdNum 1 ys 0 ∧ x = IntKind.i8.wrap R0.out) ∧ (m = numD R0.rest R0.fault ∧ S = numS R0.rest R0.fault) ∧ E = (if S.2 ≠ 0 then S.2 else if S.1 = [] then 0 else 13)) := ⟨⟨hR0, hx⟩, ⟨hm, hS⟩, hE⟩
  have HF : Hid (¬ (x = 1 ∧ E = 0 ∧ mayM m = true)) := hno4
  have hlW := lt_of_block hrow
  generalize bodyLen xs = bl at HO
  clear h hbW hrow eW hy hyb hyl hR0 hx hm hS hE hno4 hno h0 h9 hb hl
  go_enter Tryz.func16, Tryz.ntmps16
  go_upto_region 1 with fail
  rw [← HE.out]
  go_wp2_with fail
  refine Calls.mono HO.out ?_
  rintro e w1 ⟨g1, rfl, hg1, ho1, hb1⟩
  have HNW : Hid _ := new_any _ ys w1 (Sees.own ho1) HX.out.2.2.2
  have HB1 : Hid (Below w.heap.size w w1) := Below.step HX.out.1 hb1
  have HR1 : Hid (w1.heap[w.heap.size]? = some (.cells #[.int .u32 0, .int .u32 0, .int .u32 0, .int .i64 0, .int .i64 0] 35 (0, 0))) := (Below.kept hb1).heap HX.out.2.1 (fun e => by omega)
  clear ho1 hb1 HO hg1
  go_wp2_with fail
  refine Calls.mono HNW.out ?_
  rintro e w2 ⟨g, v2, rfl, hR2, hg2, ho2, hb2⟩
  have hlz1 := lt_of_block HR1.out
  have HR2 : Hid (w2.heap[w.heap.size]? = some (.cells #[.int .u32 0, .int .u32 0, .int .u32 0, .int .i64 0, .int .i64 0] 35 (0, 0))) := (Below.kept hb2).heap HR1.out (fun e => by omega)
  have HB2 : Hid (Below w.heap.size w w2) := Below.step HB1.out hb2
  have HV2 : Hid (∀ k, v2.ownBlock = some k → w1.heap.size ≤ k ∧ k < w2.heap.size) := fun k e => ho2.lt k e
  have HI8 : Hid _ := rInt8_any g v2 ys 0 w2 hR2 HX.out.2.2.1
  rw [← HN.out.1.1, ← HN.out.1.2] at HI8
  clear hR2 ho2 hb2 HNW
  go_wp2_with fail
  refine Calls.mono HI8.out ?_
  rintro e w3 ⟨rfl, v3, hR3, hs3, hk3⟩
  have HNB : Hid _ := numbers_any g v3 R0.rest R0.fault w3 hR3 (by rw [HN.out.1.1]; exact rdNum_byts 1 0 HX.out.2.2.1) (fun k e => by have := (HV2.out k (hs3 k e)).2; have := hk3.size; omega)
  rw [← HN.out.2.1.1, ← HN.out.2.1.2] at HNB
  have HB3 : Hid (Below w.heap.size w w3 ∧ w3.heap[w.heap.size]? = some (.cells #[.int .u32 0, .int .u32 0, .int .u32 0, .int .i64 0, .int .i64 0] 35 (0, 0))) := ⟨HB2.out.trans (hk3.below HB2.out.size (fun k e => by have := HB1.out.size; omega)), hk3.heap HR2.out (fun e => by omega)⟩
  clear hR3 hs3 hk3 HI8
  go_wp2_with fail
  refine Calls.mono HNB.out ?_
  rintro e w4 ⟨rfl, ⟨v4, hR4, hv4⟩, hk4⟩
  have hlz3 := lt_of_block HB3.out.2
  have HB4 : Hid (Below w.heap.size w w4 ∧ w4.heap[w.heap.size]? = some (.cells #[.int .u32 0, .int .u32 0, .int .u32 0, .int .i64 0, .int .i64 0] 35 (0, 0)) ∧ IsR w4 g v4 S.1 S.2 ∧ ∀ k, v4.ownBlock = some k → k < w4.heap.size) := ⟨HB3.out.1.trans (hk4.below HB3.out.1.size (fun k e => by have := HB1.out.size; omega)), hk4.heap HB3.out.2 (fun e => by omega), hR4, fun k e => Nat.lt_of_lt_of_le (hv4 k e) hk4.size⟩
  clear hR4 hv4 hk4 HNB
  obtain ⟨mb, HMV⟩ : ∃ mb : Bool, Hid (mb = mayM m) := ⟨_, rfl⟩
  obtain ⟨boot, acc, cur, snap, log⟩ := m
  obtain ⟨W5, eW5⟩ : ∃ W5, W5 = w4.alloc (.cells #[.int .u32 boot, .int .u32 acc, .int .u32 cur, .int .i64 snap, .int .i64 log] 35) := ⟨_, rfl⟩
  have hb5 : Below w4.heap.size w4 W5 := by rw [eW5]; exact one_allocK _ _
  have r5 : W5.heap[w4.heap.size]? = some (.cells #[.int .u32 boot, .int .u32 acc, .int .u32 cur, .int .i64 snap, .int .i64 log] 35 (0, 0)) := by rw [eW5]; exact heap_alloc_new w4 _
  have hR5 := HB4.out.2.2.1.kept (Below.kept hb5) (fun e => by have := lt_of_block HB4.out.2.2.1.1; omega) (fun k e e' => by have := HB4.out.2.2.2 k e; omega)
  have HEN : Hid _ := rEnd_any g v4 S.1 S.2 W5 hR5
  rw [← HN.out.2.2] at HEN
  have HMB : Hid _ := mayBe_m ⟨boot, acc, cur, snap, log⟩ W5
  rw [← HMV.out] at HMB
  have hlz4 := lt_of_block HB4.out.2.1
  have HB5 : Hid (Below w.heap.size w W5 ∧ W5.heap[w.heap.size]? = some (.cells #[.int .u32 0, .int .u32 0, .int .u32 0, .int .i64 0, .int .i64 0] 35 (0, 0))) := ⟨Below.step HB4.out.1 hb5, (Below.kept hb5).heap HB4.out.2.1 (fun e => by omega)⟩
  have k0 := cell_of_row W5 _ 0 _ _ _ r5
  have k1 := cell_of_row W5 _ 1 _ _ _ r5
  have k2 := cell_of_row W5 _ 2 _ _ _ r5
  have k3 := cell_of_row W5 _ 3 _ _ _ r5
  have k4 := cell_of_row W5 _ 4 _ _ _ r5
  simp only [List.getElem?_toArray, List.getElem?_cons_zero, List.getElem?_cons_succ] at k0 k1 k2 k3 k4
  have hl5 := lt_of_block r5
  have HE5 : Hid _ := eW5
  have HF2 : Hid (x = 1 → E = 0 → mb = false) := fun a b => by
    cases hq : mb with
    | false => rfl
    | true => exact absurd ⟨a, b, by rw [← HMV.out]; exact hq⟩ HF.out
  clear hb5 r5 hR5 eW5 HN HF HMV HB4 HB3 HB2 HR2 HV2 HB1 HR1 HX HE
  go_upto_region 6 with fail
  rw [← HE5.out]
  clear HE5
  by_cases x1 : x = 1
  rotate_left
  · have x1' : (x != 1) = true := by simp [x1]
    have x1'' : (x == 1) = false := by simp [x1]
    have r9 := HB5.out.2
    have hl9 := lt_of_block r9
    have c0 := cell_of_row W5 _ 0 _ _ _ r9
    have c1 := cell_of_row W5 _ 1 _ _ _ r9
    have c2 := cell_of_row W5 _ 2 _ _ _ r9
    have c3 := cell_of_row W5 _ 3 _ _ _ r9
    have c4 := cell_of_row W5 _ 4 _ _ _ r9
    simp only [List.getElem?_toArray, List.getElem?_cons_zero, List.getElem?_cons_succ] at c0 c1 c2 c3 c4
    have f0 := frozen_of_row W5 w.heap.size 0 _ _ r9
    have f1 := frozen_of_row W5 w.heap.size 1 _ _ r9
    have f2 := frozen_of_row W5 w.heap.size 2 _ _ r9
    have f3 := frozen_of_row W5 w.heap.size 3 _ _ r9
    have f4 := frozen_of_row W5 w.heap.size 4 _ _ r9
    have HR9 : Hid (W5.heap[w.heap.size]? = some (.cells #[.int .u32 0, .int .u32 0, .int .u32 0, .int .i64 0, .int .i64 0] 35 (0, 0)) ∧ Below w.heap.size w W5) := ⟨r9, HB5.out.1⟩
    clear r9
    go_wp2_with fail
    refine bodyPost_ret (v := .tuple #[zeroM, .int .i64 110]) (man_ret Tryz.results16 _ _ w.heap.size _ _ _ _ rfl rfl (row5 HR9.out.1 _ _ _ _ _) rfl) rfl ⟨rfl, ?_⟩
    exact HR9.out.2.trans ((kept5 W5 w.heap.size _ _ _ _ _).below HR9.out.2.size (fun k e => by omega))
  subst x1
  have HF3 : Hid (E = 0 → mb = false) := HF2.out rfl
  clear HF2
  go_wp2_with fail
  refine Calls.mono HEN.out ?_
  rintro e w6 ⟨rfl, hw6⟩
  subst w6
  by_cases e1 : E = 0
  rotate_left
  · have e1' : (E != 0) = true := by simp [e1]
    have e1'' : (E == 0) = false := by simp [e1]
    have r9 := HB5.out.2
    have hl9 := lt_of_block r9
    have c0 := cell_of_row W5 _ 0 _ _ _ r9
    have c1 := cell_of_row W5 _ 1 _ _ _ r9
    have c2 := cell_of_row W5 _ 2 _ _ _ r9
    have c3 := cell_of_row W5 _ 3 _ _ _ r9
    have c4 := cell_of_row W5 _ 4 _ _ _ r9
    simp only [List.getElem?_toArray, List.getElem?_cons_zero, List.getElem?_cons_succ] at c0 c1 c2 c3 c4
    have f0 := frozen_of_row W5 w.heap.size 0 _ _ r9
    have f1 := frozen_of_row W5 w.heap.size 1 _ _ r9
    have f2 := frozen_of_row W5 w.heap.size 2 _ _ r9
    have f3 := frozen_of_row W5 w.heap.size 3 _ _ r9
    have f4 := frozen_of_row W5 w.heap.size 4 _ _ r9
    have HR9 : Hid (W5.heap[w.heap.size]? = some (.cells #[.int .u32 0, .int .u32 0, .int .u32 0, .int .i64 0, .int .i64 0] 35 (0, 0)) ∧ Below w.heap.size w W5) := ⟨r9, HB5.out.1⟩
    clear r9
    go_wp2_with fail
    refine bodyPost_ret (v := .tuple #[zeroM, .int .i64 110]) (man_ret Tryz.results16 _ _ w.heap.size _ _ _ _ rfl rfl (row5 HR9.out.1 _ _ _ _ _) rfl) rfl ⟨rfl, ?_⟩
    exact HR9.out.2.trans ((kept5 W5 w.heap.size _ _ _ _ _).below HR9.out.2.size (fun k e => by omega))
  obtain rfl : mb = false := HF3.out e1
  subst e1
  clear HF3
  go_wp2_with fail
  refine Calls.mono HMB.out ?_
  rintro e w6 ⟨rfl, hb6⟩
  have r9 : w6.heap[w.heap.size]? = some (.cells #[.int .u32 0, .int .u32 0, .int .u32 0, .int .i64 0, .int .i64 0] 35 (0, 0)) := (Below.kept hb6).heap HB5.out.2 (fun e => by have := lt_of_block HB5.out.2; omega)
  have bl6 := Below.step HB5.out.1 hb6
  have hl9 := lt_of_block r9
  have c0 := cell_of_row w6 _ 0 _ _ _ r9
  have c1 := cell_of_row w6 _ 1 _ _ _ r9
  have c2 := cell_of_row w6 _ 2 _ _ _ r9
  have c3 := cell_of_row w6 _ 3 _ _ _ r9
  have c4 := cell_of_row w6 _ 4 _ _ _ r9
  simp only [List.getElem?_toArray, List.getElem?_cons_zero, List.getElem?_cons_succ] at c0 c1 c2 c3 c4
  have f0 := frozen_of_row w6 w.heap.size 0 _ _ r9
  have f1 := frozen_of_row w6 w.heap.size 1 _ _ r9
  have f2 := frozen_of_row w6 w.heap.size 2 _ _ r9
  have f3 := frozen_of_row w6 w.heap.size 3 _ _ r9
  have f4 := frozen_of_row w6 w.heap.size 4 _ _ r9
  have HR9 : Hid (w6.heap[w.heap.size]? = some (.cells #[.int .u32 0, .int .u32 0, .int .u32 0, .int .i64 0, .int .i64 0] 35 (0, 0)) ∧ Below w.heap.size w w6) := ⟨r9, bl6⟩
  clear r9
  go_wp2_with fail
  refine bodyPost_ret (v := .tuple #[zeroM, .int .i64 110]) (man_ret Tryz.results16 _ _ w.heap.size _ _ _ _ rfl rfl (row5 HR9.out.1 _ _ _ _ _) rfl) rfl ⟨rfl, ?_⟩
  exact HR9.out.2.trans ((kept5 w6 w.heap.size _ _ _ _ _).below HR9.out.2.size (fun k e => by omega))

theorem mread_all (v : Value) (xs : List Int) (w : World) (h : Sees w v xs) (hb : Byts xs) (hl : xs.length ≤ 140737488355328) :
    Calls Tryz.prog 16 #[v] w fun e w' => e = .returned (rdV xs) ∧ Below w.heap.size w w' := by
  cases hm : isM xs with
  | true =>
    have e : rdV xs = .tuple #[(mOf xs).val, .int .i64 0] := by unfold rdV; rw [hm]; rfl
    rw [e]
    obtain ⟨h1, h2, h3⟩ := (isM_iff xs).1 hm
    exact mread_good v (mOf xs) (numD_fits 0 ((hb.drop 9).take 28)) h2 w (by rw [h3]; exact h)
  | false =>
    have e : rdV xs = .tuple #[zeroM, .int .i64 110] := by unfold rdV; rw [hm]; rfl
    rw [e]
    by_cases h1 : bodyLen xs = 0 ∨ bodyLen xs + 9 ≠ xs.length
    · exact mread_bad v xs w h hb hl h1
    · exact mread_mid v xs w h hb hl (fun e => h1 (.inl e)) (Classical.byContradiction fun e => h1 (.inr e)) hm
end Go.Proofs.YtdbphdllibffnaaGreat
