/- The walk of QuorumNews. -/
import Derived.Test.YtihbbloaigkfeaaQvE
namespace Go.Proofs.Ytihbbloaigkfeaa
open Go.RowKit Go.Shelf
set_option maxRecDepth 8000

/-- Two wide lists, a system and the document's system. -/
structure Nx (w W : World) (a b s r B n : Nat) (ws gs : List Int) (fa fb : Nat → Int) : Prop where
  wa : WdQ W a n fa
  wb : WdQ W b n fb
  sy : IsSy W s (syD ws gs)
  ds : IsDo W r B ws gs
  be : Below w.heap.size w W
  la : w.heap.size ≤ a
  ab : a < b
  bs : b < s
  sB : s < B
theorem Nx.later {w W W' : World} {a b s r B n : Nat} {ws gs : List Int} {fa fb : Nat → Int} (h : Nx w W a b s r B n ws gs fa fb) (hb : Below W.heap.size W W') : Nx w W' a b s r B n ws gs fa fb :=
  ⟨h.wa.below hb, h.wb.below hb, h.sy.below hb h.sy.lt, h.ds.below hb, h.be.trans (hb.mono h.be.size), h.la, h.ab, h.bs, h.sB⟩
theorem kept_cell (W : World) (g o : Nat) (v : Value) : Kept W (W.setCell ⟨g, o, none⟩ v) (fun k => k = g) := ⟨rfl, rfl, rfl, by simp, fun j _ hn => Deep.blk_setCell_other W _ _ _ hn⟩
theorem Nx.setA {w W : World} {a b s r B n : Nat} {ws gs : List Int} {fa fb : Nat → Int} (h : Nx w W a b s r B n ws gs fa fb) (k : Nat) (x : Int) : Nx w (W.setCell ⟨a, k, none⟩ (.int .i64 x)) a b s r B n ws gs (fun j => if j = k then x else fa j) fb :=
  have hk := kept_cell W a k (.int .i64 x)
  have h1 := h.ab
  have h2 := h.bs
  have h3 := h.sB
  have h4 := h.la
  ⟨⟨(h.wa.row.set k _).congr fun j _ => by by_cases e : j = k <;> simp [e], h.wa.few⟩, ⟨h.wb.row.setOther (by simp; omega) _, h.wb.few⟩, h.sy.kept hk (by omega), h.ds.kept hk (fun j hj e => by omega), h.be.setCell (by simp; omega) _, h.la, h.ab, h.bs, h.sB⟩
theorem Nx.setB {w W : World} {a b s r B n : Nat} {ws gs : List Int} {fa fb : Nat → Int} (h : Nx w W a b s r B n ws gs fa fb) (k : Nat) (x : Int) : Nx w (W.setCell ⟨b, k, none⟩ (.int .i64 x)) a b s r B n ws gs fa (fun j => if j = k then x else fb j) :=
  have hk := kept_cell W b k (.int .i64 x)
  have h1 := h.ab
  have h2 := h.bs
  have h3 := h.sB
  have h4 := h.la
  ⟨⟨h.wa.row.setOther (by simp; omega) _, h.wa.few⟩, ⟨(h.wb.row.set k _).congr fun j _ => by by_cases e : j = k <;> simp [e], h.wb.few⟩, h.sy.kept hk (by omega), h.ds.kept hk (fun j hj e => by omega), h.be.setCell (by simp; omega) _, h.la, h.ab, h.bs, h.sB⟩

theorem wdI_mark (xs : List Int) (j : Nat) (h : xs.length ≤ j) : wdI xs j = -3000000 - j := by unfold wdI; rw [if_neg (by omega)]
theorem WdQ.list {w : World} {g : Nat} {xs : List Int} (h : WdQ w g xs.length (wdI xs)) : SeesQ w (.slice (some ⟨g, 0, none⟩) xs.length (xs.length + 64)) xs := by
  have := h.sees
  rwa [map_wdI] at this

set_option maxHeartbeats 4000000 in
theorem news_walk (vv vu : Value) (ws gs : List Int) (w : World) (hv : SeesQ w vv ws) (hu : SeesQ w vu gs) :
    Calls Try.prog 3 #[vv, vu] w fun e w' => e = .returned (.bool true) ∧ Below w.heap.size w w' := by
  have HV : Hid (SeesQ w vv ws ∧ SeesQ w vu gs) := ⟨hv, hu⟩
  obtain ⟨av, cv, ev, l1, l2, x1⟩ := hv
  obtain ⟨au, cu, eu, l3, l4, x2⟩ := hu
  subst ev eu
  clear x1 x2
  have HL := long20 (ws.length : Int)
  have HG := long20 (gs.length : Int)
  by_cases q1 : (2147483647 : Int) ≤ (ws.length : Int)
  · simp only [decide_eq_true q1] at HL
    go_enter Try.func3, Try.ntmps3
    go_wp2_with fail
    refine Calls.mono (HL _) ?_
    rintro e w1 ⟨rfl, rfl⟩
    go_wp2
    all_goals (go_ret; exact ⟨rfl, Below.refl _ _⟩)
  simp only [decide_eq_false q1] at HL
  by_cases q2 : (2147483647 : Int) ≤ (gs.length : Int)
  · simp only [decide_eq_true q2] at HG
    go_enter Try.func3, Try.ntmps3
    go_wp2_with fail
    refine Calls.mono (HL _) ?_
    rintro e w1 ⟨rfl, rfl⟩
    go_wp2_with fail
    refine Calls.mono (HG _) ?_
    rintro e w1 ⟨rfl, rfl⟩
    go_wp2
    all_goals (go_ret; exact ⟨rfl, Below.refl _ _⟩)
  simp only [decide_eq_false q2] at HG
  go_enter Try.func3, Try.ntmps3
  go_wp2_with fail
  refine Calls.mono (HL _) ?_
  rintro e w1 ⟨rfl, hw1⟩
  rw [hw1]
  clear hw1 w1
  go_wp2_with fail
  refine Calls.mono (HG _) ?_
  rintro e w1 ⟨rfl, hw1⟩
  rw [hw1]
  clear hw1 w1 HL HG
  have m1 : ws.length ≤ 3000000000 := by omega
  have m2 : gs.length ≤ 3000000000 := by omega
  have HC1 : Hid (Calls Try.prog 5 #[.slice av ws.length cv] w fun e w' => e = .returned (.slice (some ⟨w.heap.size, 0, none⟩) ws.length (ws.length + 64)) ∧ WdQ w' w.heap.size ws.length (wdI ws) ∧ Below w.heap.size w w') := wideInts_any _ ws w HV.out.1 m1
  clear q1 q2 l2 l4
  obtain ⟨a, ha⟩ : ∃ a, a = w.heap.size := ⟨_, rfl⟩
  rw [← ha] at HC1
  have HA : Hid (a = w.heap.size) := ha
  clear ha
  go_wp2_with fail
  refine Calls.mono HC1.out ?_
  rintro e w1 ⟨rfl, hwa1, hb1⟩
  rw [HA.out] at hb1
  have HC2 : Hid (Calls Try.prog 5 #[.slice au gs.length cu] w1 fun e w' => e = .returned (.slice (some ⟨w1.heap.size, 0, none⟩) gs.length (gs.length + 64)) ∧ WdQ w' w1.heap.size gs.length (wdI gs) ∧ Below w1.heap.size w1 w') := wideInts_any _ gs w1 (HV.out.2.below hb1) m2
  obtain ⟨b, hb⟩ : ∃ b, b = w1.heap.size := ⟨_, rfl⟩
  rw [← hb] at HC2
  have HBb : Hid (b = w1.heap.size) := hb
  have HW1 : Hid (WdQ w1 a ws.length (wdI ws) ∧ Below w.heap.size w w1) := ⟨hwa1, hb1⟩
  clear hb hwa1 hb1 HC1
  go_wp2_with fail
  refine Calls.mono HC2.out ?_
  rintro e w2 ⟨rfl, hwb2, hb2⟩
  rw [HBb.out] at hb2
  have HW2 : Hid (WdQ w2 a ws.length (wdI ws) ∧ WdQ w2 b gs.length (wdI gs) ∧ Below w.heap.size w w2) := ⟨HW1.out.1.below hb2, hwb2, HW1.out.2.trans (hb2.mono HW1.out.2.size)⟩
  have HAB : Hid (w.heap.size ≤ a ∧ a < b ∧ b < w2.heap.size) := ⟨by rw [HA.out]; exact Nat.le_refl _, by rw [HBb.out]; exact HW1.out.1.row.lt, hwb2.row.lt⟩
  clear hwb2 hb2 HC2 HW1 HA HBb
  by_cases nok : ¬ NewOk ws gs
  · have HC3 : Hid (Calls Try.prog 6 #[.slice (some ⟨a, 0, none⟩) ws.length (ws.length + 64), .slice (some ⟨b, 0, none⟩) gs.length (gs.length + 64)] w2 fun e w' => e = .returned (.tuple #[.pointer none, .int .i64 200]) ∧ Below w2.heap.size w2 w') := new_bad HW2.out.1.list HW2.out.2.1.list nok
    go_wp2_with fail
    refine Calls.mono HC3.out ?_
    rintro e w3 ⟨rfl, hb3⟩
    have HW3 : Hid (WdQ w3 a ws.length (wdI ws) ∧ WdQ w3 b gs.length (wdI gs) ∧ Below w.heap.size w w3) := ⟨HW2.out.1.below hb3, HW2.out.2.1.below hb3, HW2.out.2.2.trans (hb3.mono HW2.out.2.2.size)⟩
    clear hb3 HC3 HW2
    have HC4 : Hid (Calls Try.prog 7 #[.slice av ws.length cv, .slice au gs.length cu] w3 fun e w' => e = .returned (.tuple #[.pointer none, .int .i64 200]) ∧ Below w3.heap.size w3 w') := refNew_bad (HV.out.1.below HW3.out.2.2) (HV.out.2.below HW3.out.2.2) nok
    clear nok
    go_wp2_with fail
    refine Calls.mono HC4.out ?_
    rintro e w4 ⟨rfl, hb4⟩
    have HW4 : Hid (WdQ w4 a ws.length (wdI ws) ∧ WdQ w4 b gs.length (wdI gs) ∧ Below w.heap.size w w4) := ⟨HW3.out.1.below hb4, HW3.out.2.1.below hb4, HW3.out.2.2.trans (hb4.mono HW3.out.2.2.size)⟩
    clear hb4 HC4 HW3
    have HE5 : Hid (Calls Try.prog 8 #[.slice (some ⟨a, 0, none⟩) ws.length (ws.length + 64), .slice av ws.length cv] w4 fun e w' => e = .returned (.bool true) ∧ Below w4.heap.size w4 w') := eqIntsQ _ _ ws w4 HW4.out.1.list (HV.out.1.below HW4.out.2.2)
    go_wp2_with fail
    refine Calls.mono HE5.out ?_
    rintro e w5 ⟨rfl, hb5⟩
    have HW5 : Hid (WdQ w5 a ws.length (wdI ws) ∧ WdQ w5 b gs.length (wdI gs) ∧ Below w.heap.size w w5) := ⟨HW4.out.1.below hb5, HW4.out.2.1.below hb5, HW4.out.2.2.trans (hb5.mono HW4.out.2.2.size)⟩
    clear hb5 HE5 HW4
    have HE6 : Hid (Calls Try.prog 8 #[.slice (some ⟨b, 0, none⟩) gs.length (gs.length + 64), .slice au gs.length cu] w5 fun e w' => e = .returned (.bool true) ∧ Below w5.heap.size w5 w') := eqIntsQ _ _ gs w5 HW5.out.2.1.list (HV.out.2.below HW5.out.2.2)
    go_wp2_with fail
    refine Calls.mono HE6.out ?_
    rintro e w6 ⟨rfl, hb6⟩
    have HW6 : Hid (WdQ w6 a ws.length (wdI ws) ∧ WdQ w6 b gs.length (wdI gs) ∧ Below w.heap.size w w6) := ⟨HW5.out.1.below hb6, HW5.out.2.1.below hb6, HW5.out.2.2.trans (hb6.mono HW5.out.2.2.size)⟩
    clear hb6 HE6 HW5
    have HE7 : Hid (Calls Try.prog 9 #[.slice (some ⟨a, 0, none⟩) ws.length (ws.length + 64)] w6 fun e w' => e = .returned (.bool true) ∧ w' = w6) := spareInts_any HW6.out.1 (fun j hj => wdI_mark ws j hj)
    go_wp2_with fail
    refine Calls.mono HE7.out ?_
    rintro e wx ⟨rfl, hwx⟩
    rw [hwx]
    clear hwx HE7 wx
    have HE8 : Hid (Calls Try.prog 9 #[.slice (some ⟨b, 0, none⟩) gs.length (gs.length + 64)] w6 fun e w' => e = .returned (.bool true) ∧ w' = w6) := spareInts_any HW6.out.2.1 (fun j hj => wdI_mark gs j hj)
    go_wp2_with fail
    refine Calls.mono HE8.out ?_
    rintro e wx ⟨rfl, hwx⟩
    rw [hwx]
    clear hwx HE8 wx
    go_wp2_with fail
    go_at_call 10
    refine (lives20 _).mono ?_
    rintro e w7 ⟨rfl, hb7⟩
    have HB7 : Hid (Below w.heap.size w w7) := HW6.out.2.2.trans (hb7.mono HW6.out.2.2.size)
    clear hb7 HW6
    go_wp2
    all_goals (go_ret; exact ⟨rfl, HB7.out⟩)
  have ok : NewOk ws gs := Classical.not_not.1 nok
  clear nok
  have HOK : Hid (NewOk ws gs) := ok
  have HD : Hid (syD ws gs).Good := ok.good
  have HLe : Hid (gs.length = ws.length) := ok.le
  have l7 := ok.l7
  have HC3 : Hid (Calls Try.prog 6 #[.slice (some ⟨a, 0, none⟩) ws.length (ws.length + 64), .slice (some ⟨b, 0, none⟩) gs.length (gs.length + 64)] w2 fun e w' => e = .returned (.tuple #[.pointer (some ⟨w2.heap.size, 0, none⟩), .int .i64 0]) ∧ IsSy w' w2.heap.size (syD ws gs) ∧ Below w2.heap.size w2 w') := new_good HW2.out.1.list HW2.out.2.1.list ok
  obtain ⟨s, hs⟩ : ∃ s, s = w2.heap.size := ⟨_, rfl⟩
  rw [← hs] at HC3 HAB
  have HS : Hid (s = w2.heap.size) := hs
  clear hs
  go_wp2_with fail
  refine Calls.mono HC3.out ?_
  rintro e w3 ⟨rfl, hI3, hb3⟩
  rw [HS.out] at hb3
  have HW3 : Hid (WdQ w3 a ws.length (wdI ws) ∧ WdQ w3 b gs.length (wdI gs) ∧ IsSy w3 s (syD ws gs) ∧ Below w.heap.size w w3) := ⟨HW2.out.1.below hb3, HW2.out.2.1.below hb3, hI3, HW2.out.2.2.trans (hb3.mono HW2.out.2.2.size)⟩
  clear hI3 hb3 HC3 HW2 HS
  have HC4 : Hid (Calls Try.prog 7 #[.slice av ws.length cv, .slice au gs.length cu] w3 fun e w' => ∃ r, e = .returned (.tuple #[.pointer (some ⟨r, 0, none⟩), .int .i64 0]) ∧ w3.heap.size ≤ r ∧ IsDo w' r w3.heap.size ws gs ∧ Below w3.heap.size w3 w') := refNew_good (HV.out.1.below HW3.out.2.2.2) (HV.out.2.below HW3.out.2.2.2) ok
  clear ok
  go_wp2_with fail
  refine Calls.mono HC4.out ?_
  rintro e w4 ⟨r, rfl, hr4, hd4, hb4⟩
  obtain ⟨n, hn⟩ : ∃ n, n = ws.length := ⟨_, rfl⟩
  have HX4 : Hid (Nx w w4 a b s r w3.heap.size n ws gs (wdI ws) (wdI gs)) := by
    have h1 : WdQ w4 b n (wdI gs) := by rw [hn, ← HLe.out]; exact HW3.out.2.1.below hb4
    exact ⟨by rw [hn]; exact HW3.out.1.below hb4, h1, HW3.out.2.2.1.below hb4 HW3.out.2.2.1.lt, hd4, HW3.out.2.2.2.trans (hb4.mono HW3.out.2.2.2.size), HAB.out.1, HAB.out.2.1, HAB.out.2.2, HW3.out.2.2.1.lt⟩
  have HV4 : Hid (SeesQ w4 (.slice av ws.length cv) ws ∧ SeesQ w4 (.slice au gs.length cu) gs) := ⟨HV.out.1.below HX4.out.be, HV.out.2.below HX4.out.be⟩
  have HN : Hid (n = ws.length) := hn
  clear hr4 hd4 hb4 HC4 HW3 HAB HV
  obtain ⟨B, hB⟩ : ∃ B, B = w3.heap.size := ⟨_, rfl⟩
  rw [← hB] at HX4
  clear hB
  rw [HLe.out] at HV4 ⊢
  rw [← hn] at HV4 l7 l1 m1 ⊢
  clear hn l3 m2
  have HE5 : Hid (Calls Try.prog 8 #[.slice (some ⟨a, 0, none⟩) n (n + 64), .slice av n cv] w4 fun e w' => e = .returned (.bool true) ∧ Below w4.heap.size w4 w') := eqIntsQ _ _ ws w4 (by have := HX4.out.wa; rw [HN.out] at this ⊢; exact this.list) HV4.out.1
  go_wp2_with fail
  refine Calls.mono HE5.out ?_
  rintro e w5 ⟨rfl, hb5⟩
  have HX5 : Hid (Nx w w5 a b s r B n ws gs (wdI ws) (wdI gs)) := HX4.out.later hb5
  have HV5 : Hid (SeesQ w5 (.slice au n cu) gs) := HV4.out.2.below hb5
  clear hb5 HE5 HX4 HV4
  have HE6 : Hid (Calls Try.prog 8 #[.slice (some ⟨b, 0, none⟩) n (n + 64), .slice au n cu] w5 fun e w' => e = .returned (.bool true) ∧ Below w5.heap.size w5 w') := eqIntsQ _ _ gs w5 (by have := HX5.out.wb; rw [HN.out, ← HLe.out] at this ⊢; exact this.list) HV5.out
  go_wp2_with fail
  refine Calls.mono HE6.out ?_
  rintro e w6 ⟨rfl, hb6⟩
  have HX6 : Hid (Nx w w6 a b s r B n ws gs (wdI ws) (wdI gs)) := HX5.out.later hb6
  clear hb6 HE6 HX5 HV5
  have HE7 : Hid (Calls Try.prog 9 #[.slice (some ⟨a, 0, none⟩) n (n + 64)] w6 fun e w' => e = .returned (.bool true) ∧ w' = w6) := spareInts_any HX6.out.wa (fun j hj => wdI_mark ws j (by rw [← HN.out]; exact hj))
  go_wp2_with fail
  refine Calls.mono HE7.out ?_
  rintro e wx ⟨rfl, hwx⟩
  rw [hwx]
  clear hwx HE7 wx
  have HE8 : Hid (Calls Try.prog 9 #[.slice (some ⟨b, 0, none⟩) n (n + 64)] w6 fun e w' => e = .returned (.bool true) ∧ w' = w6) := spareInts_any HX6.out.wb (fun j hj => wdI_mark gs j (by rw [HLe.out, ← HN.out]; exact hj))
  go_wp2_with fail
  refine Calls.mono HE8.out ?_
  rintro e wx ⟨rfl, hwx⟩
  rw [hwx]
  clear hwx HE8 wx
  go_wp2
  go_loopw [11] (fun vi wr => ∃ (k : Nat) (fa fb : Nat → Int), k ≤ n ∧ vi = .int .i64 (k : Int) ∧ Hid (∀ j, k ≤ j → fa j = wdI ws j) ∧ Hid (Nx w wr a b s r B n ws gs fa fb)) (fun vi _ => n - (intOf vi).toNat)
  case atStart => exact ⟨0, wdI ws, wdI gs, by omega, rfl, fun _ _ => rfl, HX6⟩
  case round =>
    clear HX6
    obtain ⟨k, fa, fb, hk, rfl, HF, HX⟩ := hrel
    by_cases hkn : k < n
    · have k0 : (0 : Int) ≤ (k : Int) := by omega
      have k1 : (k : Int) < (n : Int) := by omega
      have cA := HX.out.wa.row.cell (i := k) (by omega)
      have fA := HX.out.wa.row.frozen k
      have hfk : fa k = ws.getD k 0 := by rw [HF.out k (Nat.le_refl _)]; unfold wdI; rw [if_pos (by rw [← HN.out]; exact hkn)]
      have hbd := (HOK.out.ok k (by rw [← HN.out]; exact hkn)).1
      rw [← hfk] at hbd
      have HX2 := HX.out.setA k (1 - fa k)
      have cB := HX2.wb.row.cell (i := k) (by omega)
      have fB := HX2.wb.row.frozen k
      have HX3 : Hid _ := HX2.setB k (k : Int)
      have HF2 : Hid (∀ j, k + 1 ≤ j → (fun j => if j = k then 1 - fa k else fa j) j = wdI ws j) := fun j hj => by
        show (if j = k then _ else _) = _
        rw [if_neg (by omega)]
        exact HF.out j (by omega)
      have za := HX.out.wa.row.lt
      have zb := HX2.wb.row.lt
      clear HX2 HF hfk
      obtain ⟨y, hy⟩ : ∃ y, y = fa k := ⟨_, rfl⟩
      rw [← hy] at cA hbd cB fB zb
      have HY : Hid (y = fa k) := hy
      obtain ⟨hbd0, hbd1⟩ := hbd
      clear hy
      go_wp2
      go_roundw
      case rel => exact ⟨k + 1, _, _, by omega, by simp, HF2, by rw [HY.out]; exact HX3⟩
      case measure => simp [intOf]; omega
    · obtain rfl : k = n := by omega
      clear HF
      have HSz : Hid (Calls Try.prog 11 #[.pointer (some ⟨s, 0, none⟩)] wr fun e w' => e = .returned (.int .i64 k) ∧ w' = wr) := by
        have := size_sy HD.out HX.out.sy
        rw [show (syD ws gs).n = k from HN.out.symm] at this
        exact this
      have HRz : Hid (Calls Try.prog 12 #[.pointer (some ⟨r, 0, none⟩)] wr fun e w' => e = .returned (.int .i64 k) ∧ w' = wr) := by
        have := refSize20 HX.out.ds.ds HOK.out
        rw [← HN.out] at this
        exact this
      go_wp2_with fail
      refine Calls.mono HSz.out ?_
      rintro e wx ⟨rfl, hwx⟩
      rw [hwx]
      clear hwx HSz wx
      go_wp2_with fail
      refine Calls.mono HRz.out ?_
      rintro e wx ⟨rfl, hwx⟩
      rw [hwx]
      clear hwx HRz wx
      have hkk : ((k : Int) != (k : Int)) = false := by simp
      obtain ⟨w7, hw7⟩ : ∃ w7, w7 = wr := ⟨_, rfl⟩
      subst hw7
      have HI7 : Hid (IsSy w7 s (syD ws gs) ∧ IsDs w7 r ws gs ∧ Below w.heap.size w w7) := ⟨HX.out.sy, HX.out.ds.ds, HX.out.be⟩
      clear HX
      go_wp2
      clear hkk
      go_loopw [12] (fun vi wr => ∃ i : Int, -128 ≤ i ∧ i ≤ 128 ∧ vi = .int .i64 i ∧ Hid (wr = w7)) (fun vi _ => (128 - intOf vi).toNat)
      case atStart => exact ⟨-128, by omega, by omega, rfl, rfl⟩
      case round =>
        obtain ⟨i, i0, i1, rfl, HE⟩ := hrel
        rw [HE.out]
        clear HE
        by_cases hi : i ≤ 127
        · have HCa : Hid (Calls Try.prog 13 #[.pointer (some ⟨s, 0, none⟩), .int .i8 i] w7 fun e w' => e = .returned (.bool ((syD ws gs).cou i)) ∧ w' = w7) := counts_sy HD.out HI7.out.1 i i0 hi
          have HCb : Hid (Calls Try.prog 14 #[.pointer (some ⟨r, 0, none⟩), .int .i8 i] w7 fun e w' => e = .returned (.bool ((syD ws gs).cou i)) ∧ w' = w7) := refCounts20 HI7.out.2.1 HOK.out i i0 hi
          generalize (syD ws gs).cou i = cb at *
          go_wp2_with fail
          refine Calls.mono HCa.out ?_
          rintro e wx ⟨rfl, hwx⟩
          rw [hwx]
          clear hwx HCa wx
          go_wp2_with fail
          refine Calls.mono HCb.out ?_
          rintro e wx ⟨rfl, hwx⟩
          rw [hwx]
          clear hwx HCb wx
          cases cb <;>
          (go_wp2
           go_roundw
           case rel => exact ⟨i + 1, by omega, by omega, by simp, trivial⟩
           case measure => simp [intOf]; omega)
        · obtain rfl : i = 128 := by omega
          clear hi i0 i1
          go_wp2
          go_loopw [13] (fun vi wr => ∃ t : Nat, t ≤ 256 ∧ vi = .int .i64 (t : Int) ∧ Hid (Below w7.heap.size w7 wr)) (fun vi _ => 256 - (intOf vi).toNat)
          case atStart => exact ⟨0, by omega, rfl, Below.refl _ _⟩
          case round =>
            obtain ⟨t, ht, rfl, HT⟩ := hrel
            by_cases ht2 : t < 256
            · have t0 : (0 : Int) ≤ (t : Int) := by omega
              have t1 : (t : Int) ≤ 255 := by omega
              have hIt := HI7.out.1.below HT.out HI7.out.1.lt
              have HHa : Hid (Calls Try.prog 15 #[.pointer (some ⟨s, 0, none⟩), .int .u8 (t : Int)] wr fun e w' => e = .returned (.bool ((syD ws gs).has t.testBit)) ∧ Below wr.heap.size wr w') := has_sy HD.out hIt ht2
              clear hIt
              obtain ⟨hb_, hhb⟩ : ∃ x, x = (syD ws gs).has t.testBit := ⟨_, rfl⟩
              obtain ⟨lb_, hlb⟩ : ∃ x, x = (syD ws gs).least t.testBit := ⟨_, rfl⟩
              rw [← hhb] at HHa
              have HHb : Hid (hb_ = (syD ws gs).has t.testBit) := hhb
              have HLb : Hid (lb_ = (syD ws gs).least t.testBit) := hlb
              clear hhb hlb
              go_wp2_with fail
              refine Calls.mono HHa.out ?_
              rintro e w8 ⟨rfl, hb8⟩
              have HT8 : Hid (Below w7.heap.size w7 w8) := HT.out.trans (hb8.mono HT.out.size)
              clear hb8 HHa HT
              have HHr : Hid (Calls Try.prog 16 #[.pointer (some ⟨r, 0, none⟩), .int .u8 (t : Int)] w8 fun e w' => e = .returned (.bool hb_) ∧ w' = w8) := by
                have := refHas20 (HI7.out.2.1.below HT8.out) HOK.out ht2
                rw [← HHb.out] at this
                exact this
              go_wp2_with fail
              refine Calls.mono HHr.out ?_
              rintro e wx ⟨rfl, hwx⟩
              rw [hwx]
              clear hwx HHr wx HHb
              have HLa : Hid (Calls Try.prog 17 #[.pointer (some ⟨s, 0, none⟩), .int .u8 (t : Int)] w8 fun e w' => e = .returned (.bool lb_) ∧ Below w8.heap.size w8 w') := by
                have := least_sy HD.out (HI7.out.1.below HT8.out HI7.out.1.lt) ht2
                rw [← HLb.out] at this
                exact this
              have HLr : Hid (∀ w9, Below w7.heap.size w7 w9 → Calls Try.prog 18 #[.pointer (some ⟨r, 0, none⟩), .int .u8 (t : Int)] w9 fun e w' => e = .returned (.bool lb_) ∧ w' = w9) := fun w9 h9 => by
                have := refLeast20 (HI7.out.2.1.below h9) HOK.out ht2
                rw [← HLb.out] at this
                exact this
              clear HLb
              cases hb_ <;> (
              go_upto_region 28 with fail
              by_cases c1 : (t : Int) < 128
              · go_wp2_with fail
                refine Calls.mono HLa.out ?_
                rintro e w9 ⟨rfl, hb9⟩
                have HT9 : Hid (Below w7.heap.size w7 w9) := HT8.out.trans (hb9.mono HT8.out.size)
                clear hb9 HLa HT8
                go_wp2_with fail
                refine Calls.mono (HLr.out w9 HT9.out) ?_
                rintro e wx ⟨rfl, hwx⟩
                rw [hwx]
                clear hwx wx HLr
                cases lb_ <;>
                (go_wp2
                 go_roundw
                 case rel => exact ⟨t + 1, by omega, by simp, HT9⟩
                 case measure => simp [intOf]; omega)
              · by_cases c2 : (t : Int) % 16 = 3
                · have c3 : ((t : Int) % 16 == 3) = true := by rw [c2]; rfl
                  clear c2
                  go_wp2_with fail
                  refine Calls.mono HLa.out ?_
                  rintro e w9 ⟨rfl, hb9⟩
                  have HT9 : Hid (Below w7.heap.size w7 w9) := HT8.out.trans (hb9.mono HT8.out.size)
                  clear hb9 HLa HT8
                  go_wp2_with fail
                  refine Calls.mono (HLr.out w9 HT9.out) ?_
                  rintro e wx ⟨rfl, hwx⟩
                  rw [hwx]
                  clear hwx wx HLr
                  cases lb_ <;>
                  (go_wp2
                   go_roundw
                   case rel => exact ⟨t + 1, by omega, by simp, HT9⟩
                   case measure => simp [intOf]; omega)
                · have c3 : ((t : Int) % 16 == 3) = false := by rw [beq_eq_false_iff_ne]; exact c2
                  clear c2 HLa HLr
                  go_wp2
                  go_roundw
                  case rel => exact ⟨t + 1, by omega, by simp, HT8⟩
                  case measure => simp [intOf]; omega)
            · obtain rfl : t = 256 := by omega
              have e256 : ((256 : Nat) : Int) = 256 := rfl
              generalize ((256 : Nat) : Int) = z256 at *
              have hz : ¬ z256 ≤ 255 := by omega
              have HBe : Hid (Below w.heap.size w wr) := HI7.out.2.2.trans (HT.out.mono HI7.out.2.2.size)
              clear e256 HT
              go_wp2
              all_goals (go_ret; exact ⟨rfl, HBe.out⟩)

theorem news_row (v : Value) (ws : List Int) (u : Value) (gs : List Int) (w : World) (hv : SeesQ w v ws) (_ : ws.length ≤ 140737488355328) (hu : SeesQ w u gs) (_ : gs.length ≤ 140737488355328) :
    Calls Try.prog 3 #[v, u] w fun e w' => e = .returned (.bool true) ∧ Below w.heap.size w w' := news_walk v u ws gs w hv hu

end Go.Proofs.Ytihbbloaigkfeaa
