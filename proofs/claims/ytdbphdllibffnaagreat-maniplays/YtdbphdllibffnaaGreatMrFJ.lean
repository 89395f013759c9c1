/- lagoonref11.Read of any bytes: the manifest whose bytes they are, or ErrMani. -/
import Derived.Test.YtdbphdllibffnaaGreatMrEJ
namespace Go.Proofs.YtdbphdllibffnaaGreat
open Go.RowKit Go.Shelf
set_option maxRecDepth 8000
set_option linter.unusedSimpArgs false

set_option maxHeartbeats 1000000 in
theorem rread_len (v : Value) (xs : List Int) (w : World) (h : Sees w v xs) (hl : xs.length ≠ 38) :
    Calls Tryz.prog 55 #[v] w fun e w' => e = .returned (.tuple #[zeroM, .int .i64 110]) ∧ Below w.heap.size w w' := by
  obtain ⟨a0, ac, rfl⟩ : ∃ a c, v = .slice a xs.length c := by obtain ⟨a, c, e, _⟩ := h; exact ⟨a, c, e⟩
  obtain ⟨n, hn⟩ : ∃ n, n = xs.length := ⟨_, rfl⟩
  rw [← hn] at hl ⊢
  have hl' : ((n : Int) != 38) = true := by simp; omega
  obtain ⟨W, eW⟩ : ∃ W, W = w.alloc (.cells #[.int .u32 0, .int .u32 0, .int .u32 0, .int .i64 0, .int .i64 0] 35) := ⟨_, rfl⟩
  have hbW : Below w.heap.size w W := by rw [eW]; exact one_allocK _ _
  have r9 : W.heap[w.heap.size]? = some (.cells #[.int .u32 0, .int .u32 0, .int .u32 0, .int .i64 0, .int .i64 0] 35 (0, 0)) := by rw [eW]; exact heap_alloc_new w _
  have HE : Hid _ := eW
  clear eW hn h hl
  go_enter Tryz.func55, Tryz.ntmps55
  go_upto_region 1 with fail
  rw [← HE.out]
  clear HE
  have hl9 := lt_of_block r9
  have c0 := cell_of_row W _ 0 _ _ _ r9
  have c1 := cell_of_row W _ 1 _ _ _ r9
  have c2 := cell_of_row W _ 2 _ _ _ r9
  have c3 := cell_of_row W _ 3 _ _ _ r9
  have c4 := cell_of_row W _ 4 _ _ _ r9
  simp only [List.getElem?_toArray, List.getElem?_cons_zero, List.getElem?_cons_succ] at c0 c1 c2 c3 c4
  have f0 := frozen_of_row W w.heap.size 0 _ _ r9
  have f1 := frozen_of_row W w.heap.size 1 _ _ r9
  have f2 := frozen_of_row W w.heap.size 2 _ _ r9
  have f3 := frozen_of_row W w.heap.size 3 _ _ r9
  have f4 := frozen_of_row W w.heap.size 4 _ _ r9
  have HR9 : Hid (W.heap[w.heap.size]? = some (.cells #[.int .u32 0, .int .u32 0, .int .u32 0, .int .i64 0, .int .i64 0] 35 (0, 0)) ∧ Below w.heap.size w W) := ⟨r9, hbW⟩
  clear r9
  go_wp2_with fail
  refine bodyPost_ret (v := .tuple #[zeroM, .int .i64 110]) (man_ret Tryz.results55 _ _ w.heap.size _ _ _ _ rfl rfl (row5 HR9.out.1 _ _ _ _ _) rfl) rfl ⟨rfl, ?_⟩
  exact HR9.out.2.trans ((kept5 W w.heap.size _ _ _ _ _).below HR9.out.2.size (fun k e => by omega))

set_option maxHeartbeats 4000000 in
theorem rread_38 (v : Value) (xs : List Int) (w : World) (h : Sees w v xs) (hb : Byts xs) (hl : xs.length = 38) :
    Calls Tryz.prog 55 #[v] w fun e w' => e = .returned (rdV xs) ∧ Below w.heap.size w w' := by
  obtain ⟨bs, hbs⟩ : ∃ bs, bs = (xs.drop 9).take 28 := ⟨_, rfl⟩
  obtain ⟨gb, off, ac, rfl, _, hc2, _, _⟩ := sees_some h (fun e => by rw [e] at hl; simp at hl)
  unfold maxLen at hc2
  have hc1 : 38 ≤ ac := by obtain ⟨a, c, e, q, _⟩ := h; simp at e; obtain ⟨_, rfl⟩ := e; omega
  obtain ⟨W, eW⟩ : ∃ W, W = w.alloc (.cells #[.int .u32 0, .int .u32 0, .int .u32 0, .int .i64 0, .int .i64 0] 35) := ⟨_, rfl⟩
  have hbW : Below w.heap.size w W := by rw [eW]; exact one_allocK _ _
  have r0 : W.heap[w.heap.size]? = some (.cells #[.int .u32 0, .int .u32 0, .int .u32 0, .int .i64 0, .int .i64 0] 35 (0, 0)) := by rw [eW]; exact heap_alloc_new w _
  have hcut := sees_cut (i := 9) (j := 37) h (by omega) (by omega)
  rw [show 37 - 9 = 28 from rfl, ← hbs] at hcut
  have HNW : Hid _ := refNew_m _ bs W (hcut.below hbW (Nat.le_refl _)) (by rw [hbs]; simp; omega)
  have HX : Hid (Below w.heap.size w W ∧ W.heap[w.heap.size]? = some (.cells #[.int .u32 0, .int .u32 0, .int .u32 0, .int .i64 0, .int .i64 0] 35 (0, 0)) ∧ Sees w (.slice (some ⟨gb, off, none⟩) xs.length ac) xs ∧ Byts bs) := ⟨hbW, r0, h, by rw [hbs]; exact (hb.drop 9).take 28⟩
  have HF : Hid ((numD bs 0).Fits) := numD_fits 0 (by rw [hbs]; exact (hb.drop 9).take 28)
  have HM : Hid (mOf xs = numD bs 0 ∧ xs.length = 38) := ⟨by rw [hbs]; rfl, hl⟩
  have HE : Hid _ := eW
  rw [hl] at HX ⊢
  clear eW h hb hl hbW r0 hcut hbs
  go_enter Tryz.func55, Tryz.ntmps55
  go_upto_region 1 with fail
  rw [← HE.out]
  clear HE
  go_wp2_with fail
  refine Calls.mono HNW.out ?_
  rintro e w1 ⟨g, v1, rfl, hQ, hg, hv, hb1⟩
  have H1 : Hid (QS w (w1.alloc (.cells #[.int .u32 0, .int .u32 0, .int .u32 0, .int .i64 0, .int .i64 0] 35)) g w1.heap.size v1 bs (stN 4 bs 0 0) #[.int .u32 0, .int .u32 0, .int .u32 0, .int .i64 0, .int .i64 0]) := by
    have l0 := lt_of_block HX.out.2.1
    have l1 := lt_of_block hQ.1
    have hb2 := one_allocK w1 (.cells #[.int .u32 0, .int .u32 0, .int .u32 0, .int .i64 0, .int .i64 0] 35)
    have hbb := HX.out.1.trans (hb1.mono HX.out.1.size)
    refine ⟨hbb.trans (hb2.mono hbb.size), (Below.kept hb2).heap ((Below.kept hb1).heap HX.out.2.1 (fun e => by omega)) (fun e => by omega), heap_alloc_new w1 _, ⟨0, ⟨(Below.kept hb2).heap hQ.1 (fun e => by omega), hQ.2.1.below hb2 (Nat.le_refl _), hQ.2.2⟩, by simp [stN]⟩, ⟨by omega, by omega, by omega⟩, fun k e => ⟨by have := hv k e; omega, by have := hv k e; omega⟩⟩
  clear hQ hg hv hb1 HNW
  obtain ⟨x0, HX0⟩ : ∃ x, Hid (x = ouN 4 bs 0 0) := ⟨_, rfl⟩
  have HC : Hid _ := H1.out.u32 HX.out.2.2.2
  go_wp2_with fail
  refine Calls.mono HC.out ?_
  rintro e w2 ⟨he, hq⟩
  obtain rfl : e = .returned (.int .u32 x0) := by rw [he, HX0.out]; rfl
  have q0 : QS w w2 g w1.heap.size v1 bs (stN 4 bs 0 1) #[.int .u32 0, .int .u32 0, .int .u32 0, .int .i64 0, .int .i64 0] := hq
  have H2 : Hid (QS w (w2.setCell ⟨w1.heap.size, 0, none⟩ (.int .u32 x0)) g w1.heap.size v1 bs (stN 4 bs 0 1) #[.int .u32 x0, .int .u32 0, .int .u32 0, .int .i64 0, .int .i64 0]) := q0.set 0 _
  have c0 := cell_of_row w2 _ 0 _ _ _ q0.rq
  simp only [List.getElem?_toArray, List.getElem?_cons_zero, List.getElem?_cons_succ] at c0
  have f0 := frozen_of_row w2 w1.heap.size 0 _ _ q0.rq
  have l0 := lt_of_block q0.rq
  clear he hq q0 HC H1
  obtain ⟨x1, HX1⟩ : ∃ x, Hid (x = ouN 4 bs 0 1) := ⟨_, rfl⟩
  have HC : Hid _ := H2.out.u32 HX.out.2.2.2
  go_wp2_with fail
  refine Calls.mono HC.out ?_
  rintro e w3 ⟨he, hq⟩
  obtain rfl : e = .returned (.int .u32 x1) := by rw [he, HX1.out]; rfl
  have q1 : QS w w3 g w1.heap.size v1 bs (stN 4 bs 0 2) #[.int .u32 x0, .int .u32 0, .int .u32 0, .int .i64 0, .int .i64 0] := hq
  have H3 : Hid (QS w (w3.setCell ⟨w1.heap.size, 1, none⟩ (.int .u32 x1)) g w1.heap.size v1 bs (stN 4 bs 0 2) #[.int .u32 x0, .int .u32 x1, .int .u32 0, .int .i64 0, .int .i64 0]) := q1.set 1 _
  have c0 := cell_of_row w3 _ 1 _ _ _ q1.rq
  simp only [List.getElem?_toArray, List.getElem?_cons_zero, List.getElem?_cons_succ] at c0
  have f0 := frozen_of_row w3 w1.heap.size 1 _ _ q1.rq
  have l0 := lt_of_block q1.rq
  clear he hq q1 HC H2
  obtain ⟨x2, HX2⟩ : ∃ x, Hid (x = ouN 4 bs 0 2) := ⟨_, rfl⟩
  have HC : Hid _ := H3.out.u32 HX.out.2.2.2
  go_wp2_with fail
  refine Calls.mono HC.out ?_
  rintro e w4 ⟨he, hq⟩
  obtain rfl : e = .returned (.int .u32 x2) := by rw [he, HX2.out]; rfl
  have q2 : QS w w4 g w1.heap.size v1 bs (stN 4 bs 0 3) #[.int .u32 x0, .int .u32 x1, .int .u32 0, .int .i64 0, .int .i64 0] := hq
  have H4 : Hid (QS w (w4.setCell ⟨w1.heap.size, 2, none⟩ (.int .u32 x2)) g w1.heap.size v1 bs (stN 4 bs 0 3) #[.int .u32 x0, .int .u32 x1, .int .u32 x2, .int .i64 0, .int .i64 0]) := q2.set 2 _
  have c0 := cell_of_row w4 _ 2 _ _ _ q2.rq
  simp only [List.getElem?_toArray, List.getElem?_cons_zero, List.getElem?_cons_succ] at c0
  have f0 := frozen_of_row w4 w1.heap.size 2 _ _ q2.rq
  have l0 := lt_of_block q2.rq
  clear he hq q2 HC H3
  obtain ⟨x3, HX3⟩ : ∃ x, Hid (x = wrap64 (ouN 8 (stN 4 bs 0 3).1 (stN 4 bs 0 3).2 0)) := ⟨_, rfl⟩
  have HC : Hid _ := H4.out.i64 HX.out.2.2.2
  go_wp2_with fail
  refine Calls.mono HC.out ?_
  rintro e w5 ⟨he, hq⟩
  obtain rfl : e = .returned (.int .i64 x3) := by rw [he, HX3.out]; rfl
  have q3 : QS w w5 g w1.heap.size v1 bs (stN 8 (stN 4 bs 0 3).1 (stN 4 bs 0 3).2 1) #[.int .u32 x0, .int .u32 x1, .int .u32 x2, .int .i64 0, .int .i64 0] := hq
  have H5 : Hid (QS w (w5.setCell ⟨w1.heap.size, 3, none⟩ (.int .i64 x3)) g w1.heap.size v1 bs (stN 8 (stN 4 bs 0 3).1 (stN 4 bs 0 3).2 1) #[.int .u32 x0, .int .u32 x1, .int .u32 x2, .int .i64 x3, .int .i64 0]) := q3.set 3 _
  have c0 := cell_of_row w5 _ 3 _ _ _ q3.rq
  simp only [List.getElem?_toArray, List.getElem?_cons_zero, List.getElem?_cons_succ] at c0
  have f0 := frozen_of_row w5 w1.heap.size 3 _ _ q3.rq
  have l0 := lt_of_block q3.rq
  clear he hq q3 HC H4
  obtain ⟨x4, HX4⟩ : ∃ x, Hid (x = wrap64 (ouN 8 (stN 4 bs 0 3).1 (stN 4 bs 0 3).2 1)) := ⟨_, rfl⟩
  have HC : Hid _ := H5.out.i64 HX.out.2.2.2
  go_wp2_with fail
  refine Calls.mono HC.out ?_
  rintro e w6 ⟨he, hq⟩
  obtain rfl : e = .returned (.int .i64 x4) := by rw [he, HX4.out]; rfl
  have q4 : QS w w6 g w1.heap.size v1 bs (stN 8 (stN 4 bs 0 3).1 (stN 4 bs 0 3).2 2) #[.int .u32 x0, .int .u32 x1, .int .u32 x2, .int .i64 x3, .int .i64 0] := hq
  have H6 : Hid (QS w (w6.setCell ⟨w1.heap.size, 4, none⟩ (.int .i64 x4)) g w1.heap.size v1 bs (stN 8 (stN 4 bs 0 3).1 (stN 4 bs 0 3).2 2) #[.int .u32 x0, .int .u32 x1, .int .u32 x2, .int .i64 x3, .int .i64 x4]) := q4.set 4 _
  have c0 := cell_of_row w6 _ 4 _ _ _ q4.rq
  simp only [List.getElem?_toArray, List.getElem?_cons_zero, List.getElem?_cons_succ] at c0
  have f0 := frozen_of_row w6 w1.heap.size 4 _ _ q4.rq
  have l0 := lt_of_block q4.rq
  clear he hq q4 HC H5
  have HMM : Hid (mOf xs = ⟨x0, x1, x2, x3, x4⟩ ∧ (numD bs 0 : MaD) = ⟨x0, x1, x2, x3, x4⟩) := by
    have e : (numD bs 0 : MaD) = ⟨x0, x1, x2, x3, x4⟩ := by rw [HX0.out, HX1.out, HX2.out, HX3.out, HX4.out]; rfl
    exact ⟨by rw [HM.out.1, e], e⟩
  rw [HMM.out.2] at HF
  clear HX0 HX1 HX2 HX3 HX4
  obtain ⟨W6, hW6⟩ : ∃ W6, W6 = w6.setCell ⟨w1.heap.size, 4, none⟩ (.int .i64 x4) := ⟨_, rfl⟩
  rw [← hW6] at H6
  obtain ⟨mb, HMB⟩ : ∃ mb : Bool, Hid (mb = mayM ⟨x0, x1, x2, x3, x4⟩) := ⟨_, rfl⟩
  have HMY : Hid _ := rMay_w ⟨x0, x1, x2, x3, x4⟩ W6
  rw [← HMB.out] at HMY
  have HA6 : Hid _ := hW6
  clear hW6
  go_upto_region 10 with fail
  rw [← HA6.out]
  clear HA6 c0 f0 l0
  have k0 := cell_of_row W6 _ 0 _ _ _ H6.out.rq
  have k1 := cell_of_row W6 _ 1 _ _ _ H6.out.rq
  have k2 := cell_of_row W6 _ 2 _ _ _ H6.out.rq
  have k3 := cell_of_row W6 _ 3 _ _ _ H6.out.rq
  have k4 := cell_of_row W6 _ 4 _ _ _ H6.out.rq
  simp only [List.getElem?_toArray, List.getElem?_cons_zero, List.getElem?_cons_succ] at k0 k1 k2 k3 k4
  have l6 := lt_of_block H6.out.rq
  go_wp2_with fail
  refine Calls.mono HMY.out ?_
  rintro e w7 ⟨rfl, hb7⟩
  have H7 : Hid (QS w w7 g w1.heap.size v1 bs (stN 8 (stN 4 bs 0 3).1 (stN 4 bs 0 3).2 2) #[.int .u32 x0, .int .u32 x1, .int .u32 x2, .int .i64 x3, .int .i64 x4]) := H6.out.later hb7
  clear k0 k1 k2 k3 k4 l6 hb7 H6 HMY
  cases mb with
  | false =>
    obtain ⟨V, HV⟩ : ∃ V, Hid (V = rdV xs) := ⟨_, rfl⟩
    have r9 := H7.out.r0
    have hV : rdV xs = .tuple #[zeroM, .int .i64 110] := by
      unfold rdV
      rw [if_neg]
      intro h
      have := ((isM_iff xs).1 h).2.1
      rw [HMM.out.1, ← HMB.out] at this
      cases this
    have HV2 : Hid _ := hV
    clear hV HV
    have hl9 := lt_of_block r9
    have c0 := cell_of_row w7 _ 0 _ _ _ r9
    have c1 := cell_of_row w7 _ 1 _ _ _ r9
    have c2 := cell_of_row w7 _ 2 _ _ _ r9
    have c3 := cell_of_row w7 _ 3 _ _ _ r9
    have c4 := cell_of_row w7 _ 4 _ _ _ r9
    simp only [List.getElem?_toArray, List.getElem?_cons_zero, List.getElem?_cons_succ] at c0 c1 c2 c3 c4
    have f0 := frozen_of_row w7 w.heap.size 0 _ _ r9
    have f1 := frozen_of_row w7 w.heap.size 1 _ _ r9
    have f2 := frozen_of_row w7 w.heap.size 2 _ _ r9
    have f3 := frozen_of_row w7 w.heap.size 3 _ _ r9
    have f4 := frozen_of_row w7 w.heap.size 4 _ _ r9
    have HR9 : Hid (w7.heap[w.heap.size]? = some (.cells #[.int .u32 0, .int .u32 0, .int .u32 0, .int .i64 0, .int .i64 0] 35 (0, 0)) ∧ Below w.heap.size w w7) := ⟨r9, H7.out.bel⟩
    clear r9
    go_wp2_with fail
    refine bodyPost_ret (v := .tuple #[zeroM, .int .i64 110]) (man_ret Tryz.results55 _ _ w.heap.size _ _ _ _ rfl rfl (row5 HR9.out.1 _ _ _ _ _) rfl) rfl ⟨by rw [HV2.out], ?_⟩
    exact HR9.out.2.trans ((kept5 w7 w.heap.size _ _ _ _ _).below HR9.out.2.size (fun k e => by omega))

  | true =>
  have k0 := cell_of_row w7 _ 0 _ _ _ H7.out.rq
  have k1 := cell_of_row w7 _ 1 _ _ _ H7.out.rq
  have k2 := cell_of_row w7 _ 2 _ _ _ H7.out.rq
  have k3 := cell_of_row w7 _ 3 _ _ _ H7.out.rq
  have k4 := cell_of_row w7 _ 4 _ _ _ H7.out.rq
  simp only [List.getElem?_toArray, List.getElem?_cons_zero, List.getElem?_cons_succ] at k0 k1 k2 k3 k4
  have l7 := lt_of_block H7.out.rq
  have HBY : Hid _ := refBytes_m ⟨x0, x1, x2, x3, x4⟩ HF.out w7
  go_wp2_with fail
  refine Calls.mono HBY.out ?_
  rintro e w8 ⟨v8, rfl, ho8, hb8⟩
  have H8 : Hid (QS w w8 g w1.heap.size v1 bs (stN 8 (stN 4 bs 0 3).1 (stN 4 bs 0 3).2 2) #[.int .u32 x0, .int .u32 x1, .int .u32 x2, .int .i64 x3, .int .i64 x4] ∧ Owns w8 w7.heap.size v8 (maF ⟨x0, x1, x2, x3, x4⟩)) := ⟨H7.out.later hb8, ho8⟩
  obtain ⟨a0, a1, a2, rfl⟩ : ∃ a n c, v8 = .slice a n c := by obtain ⟨a, c, e, _⟩ := Sees.own ho8; exact ⟨a, _, c, e⟩
  clear k0 k1 k2 k3 k4 l7 hb8 ho8 H7 HBY
  obtain ⟨eb, HEB⟩ : ∃ eb : Bool, Hid (eb = decide (maF ⟨x0, x1, x2, x3, x4⟩ = xs)) := ⟨_, rfl⟩
  have HEQ : Hid _ := eqBytes_any (.slice a0 a1 a2) (.slice (some ⟨gb, off, none⟩) 38 ac) (maF ⟨x0, x1, x2, x3, x4⟩) xs w8 (Sees.own H8.out.2) (HX.out.2.2.1.below H8.out.1.bel (Nat.le_refl _))
  rw [← HEB.out] at HEQ
  go_wp2_with fail
  refine Calls.mono HEQ.out ?_
  rintro e w9 ⟨rfl, nd, hw9⟩
  have H9 : Hid (QS w w9 g w1.heap.size v1 bs (stN 8 (stN 4 bs 0 3).1 (stN 4 bs 0 3).2 2) #[.int .u32 x0, .int .u32 x1, .int .u32 x2, .int .i64 x3, .int .i64 x4]) := by rw [hw9]; exact H8.out.1.later (below_drewN (Below.refl _ _) nd)
  clear hw9 H8 HEQ
  cases eb with
  | false =>
    have r9 := H9.out.r0
    have hV : rdV xs = .tuple #[zeroM, .int .i64 110] := by
      unfold rdV
      rw [if_neg]
      intro h
      have := ((isM_iff xs).1 h).2.2
      rw [HMM.out.1] at this
      have e := HEB.out
      rw [decide_eq_true this] at e
      cases e
    have HV2 : Hid _ := hV
    clear hV
    have hl9 := lt_of_block r9
    have c0 := cell_of_row w9 _ 0 _ _ _ r9
    have c1 := cell_of_row w9 _ 1 _ _ _ r9
    have c2 := cell_of_row w9 _ 2 _ _ _ r9
    have c3 := cell_of_row w9 _ 3 _ _ _ r9
    have c4 := cell_of_row w9 _ 4 _ _ _ r9
    simp only [List.getElem?_toArray, List.getElem?_cons_zero, List.getElem?_cons_succ] at c0 c1 c2 c3 c4
    have f0 := frozen_of_row w9 w.heap.size 0 _ _ r9
    have f1 := frozen_of_row w9 w.heap.size 1 _ _ r9
    have f2 := frozen_of_row w9 w.heap.size 2 _ _ r9
    have f3 := frozen_of_row w9 w.heap.size 3 _ _ r9
    have f4 := frozen_of_row w9 w.heap.size 4 _ _ r9
    have HR9 : Hid (w9.heap[w.heap.size]? = some (.cells #[.int .u32 0, .int .u32 0, .int .u32 0, .int .i64 0, .int .i64 0] 35 (0, 0)) ∧ Below w.heap.size w w9) := ⟨r9, H9.out.bel⟩
    clear r9
    go_wp2_with fail
    refine bodyPost_ret (v := .tuple #[zeroM, .int .i64 110]) (man_ret Tryz.results55 _ _ w.heap.size _ _ _ _ rfl rfl (row5 HR9.out.1 _ _ _ _ _) rfl) rfl ⟨by rw [HV2.out], ?_⟩
    exact HR9.out.2.trans ((kept5 w9 w.heap.size _ _ _ _ _).below HR9.out.2.size (fun k e => by omega))

  | true =>
  have hV : rdV xs = .tuple #[MaD.val ⟨x0, x1, x2, x3, x4⟩, .int .i64 0] := by
    unfold rdV
    rw [if_pos, HMM.out.1]
    rw [isM_iff, HMM.out.1]
    exact ⟨HM.out.2, HMB.out.symm, of_decide_eq_true HEB.out.symm⟩
  have HV2 : Hid _ := hV
  clear hV
  have k0 := cell_of_row w9 _ 0 _ _ _ H9.out.rq
  have k1 := cell_of_row w9 _ 1 _ _ _ H9.out.rq
  have k2 := cell_of_row w9 _ 2 _ _ _ H9.out.rq
  have k3 := cell_of_row w9 _ 3 _ _ _ H9.out.rq
  have k4 := cell_of_row w9 _ 4 _ _ _ H9.out.rq
  simp only [List.getElem?_toArray, List.getElem?_cons_zero, List.getElem?_cons_succ] at k0 k1 k2 k3 k4
  have l9 := lt_of_block H9.out.rq
  have r9 := H9.out.r0
  have hl9 := lt_of_block r9
  have c0 := cell_of_row w9 _ 0 _ _ _ r9
  have c1 := cell_of_row w9 _ 1 _ _ _ r9
  have c2 := cell_of_row w9 _ 2 _ _ _ r9
  have c3 := cell_of_row w9 _ 3 _ _ _ r9
  have c4 := cell_of_row w9 _ 4 _ _ _ r9
  simp only [List.getElem?_toArray, List.getElem?_cons_zero, List.getElem?_cons_succ] at c0 c1 c2 c3 c4
  have f0 := frozen_of_row w9 w.heap.size 0 _ _ r9
  have f1 := frozen_of_row w9 w.heap.size 1 _ _ r9
  have f2 := frozen_of_row w9 w.heap.size 2 _ _ r9
  have f3 := frozen_of_row w9 w.heap.size 3 _ _ r9
  have f4 := frozen_of_row w9 w.heap.size 4 _ _ r9
  have HR9 : Hid (w9.heap[w.heap.size]? = some (.cells #[.int .u32 0, .int .u32 0, .int .u32 0, .int .i64 0, .int .i64 0] 35 (0, 0)) ∧ Below w.heap.size w w9) := ⟨r9, H9.out.bel⟩
  clear r9
  go_wp2_with fail
  refine bodyPost_ret (v := .tuple #[MaD.val ⟨x0, x1, x2, x3, x4⟩, .int .i64 0]) (man_ret Tryz.results55 _ _ w.heap.size _ _ _ _ rfl rfl (row5 HR9.out.1 _ _ _ _ _) rfl) rfl ⟨by rw [HV2.out], ?_⟩
  exact HR9.out.2.trans ((kept5 w9 w.heap.size _ _ _ _ _).below HR9.out.2.size (fun k e => by omega))

theorem rread_all (v : Value) (xs : List Int) (w : World) (h : Sees w v xs) (hb : Byts xs) :
    Calls Tryz.prog 55 #[v] w fun e w' => e = .returned (rdV xs) ∧ Below w.heap.size w w' := by
  by_cases hl : xs.length = 38
  · exact rread_38 v xs w h hb hl
  · have e : rdV xs = .tuple #[zeroM, .int .i64 110] := by
      unfold rdV
      rw [if_neg]
      intro h'
      exact hl ((isM_iff xs).1 h').1
    rw [e]
    exact rread_len v xs w h hl
end Go.Proofs.YtdbphdllibffnaaGreat
